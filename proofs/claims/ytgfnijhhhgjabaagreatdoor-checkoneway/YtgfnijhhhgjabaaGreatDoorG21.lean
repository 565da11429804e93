import Derived.Test.YtgfnijhhhgjabaaGreatDoorG41
import Derived.Test.YtgfnijhhhgjabaaGreatDoorTreeBeyondSQ
import Derived.Test.YtgfnijhhhgjabaaGreatDoorG6
section
namespace Go.Proofs.YtgfnijhhhgjabaaGreatDoor
open Go.RowKit Go.Maps
set_option linter.unusedVariables false
set_option linter.unusedSimpArgs false
attribute [local go_sem ↓] Go.wp_at_zero Go.wp_at_succ

theorem next_below {wc u v : World} (h : Below wc.heap.size wc u) (h2 : Below u.heap.size u v) : Below wc.heap.size wc v := h.trans (h2.mono h.size)
theorem wrap_mid {d : Int} (h0 : -1000 ≤ d) (h1 : d ≤ 300000000000000) : IntKind.i64.wrap d = d := by simp [IntKind.wrap, IntKind.bits, IntKind.signed]; omega
set_option maxHeartbeats 3200000 in
theorem literalPartsS_any (d : Nat) (x : Lit4) (p : LP) (w : World) (h : LIs w d x p) (lf : Nat) (hlf : lf ≤ 1048576) :
    Calls Tryz.prog 29 #[x.val p, .int .i64 (lf : Int)] w fun r w' => ∃ n : Int, r = .returned (.int .i64 n) ∧ Below w.heap.size w w' ∧ (0 ≤ n ∧ n ≤ (lf : Int) + 1) ∧ (n ≤ (lf : Int) → x.ts.length ≤ 1048576 ∧ (smallE d x.l ∧ szD d x.l ≤ 1048576) ∧ (smallE d x.r ∧ szD d x.r ≤ 1048576)) := by
  have HE1 : Hid (∀ u, Below w.heap.size w u → Calls Tryz.prog 53 #[x.l.val p.la p.lc, .int .i64 (lf : Int)] u fun r w' => ∃ n : Int, r = .returned (.int .i64 n) ∧ Below u.heap.size u w' ∧ (0 ≤ n ∧ n ≤ (lf : Int) + 1) ∧ (n ≤ (lf : Int) → smallE d x.l ∧ (szD d x.l : Int) ≤ n)) := fun u hu => exprPartsS_any d x.l p.la p.lc u (h.l.below hu) lf hlf
  have HE2 : Hid (∀ u (z : Int), 0 ≤ z → z ≤ 1048576 → Below w.heap.size w u → Calls Tryz.prog 53 #[x.r.val p.ra p.rc, .int .i64 z] u fun r w' => ∃ n : Int, r = .returned (.int .i64 n) ∧ Below u.heap.size u w' ∧ (0 ≤ n ∧ n ≤ z + 1) ∧ (n ≤ z → smallE d x.r ∧ (szD d x.r : Int) ≤ n)) := fun u z h0 h1 hu => by
    obtain ⟨m, rfl⟩ : ∃ m : Nat, z = m := ⟨z.toNat, by omega⟩
    exact exprPartsS_any d x.r p.ra p.rc u (h.r.below hu) m (by omega)
  have BA := (Below.refl w.heap.size w).alloc (Nat.le_refl _) (.cells #[.int .i8 x.k, .string x.pr, .slice p.a x.ts.length p.c, .int .i8 x.rel, .int .i8 x.l.op, .string x.l.t.v, .int .i8 x.l.t.a.k, .int .i64 x.l.t.a.n, .string x.l.t.a.s, .slice p.la x.l.kids.length p.lc, .int .i8 x.r.op, .string x.r.t.v, .int .i8 x.r.t.a.k, .int .i64 x.r.t.a.n, .string x.r.t.a.s, .slice p.ra x.r.kids.length p.rc] 55)
  have HR0 : Hid (RL (w.alloc (.cells #[.int .i8 x.k, .string x.pr, .slice p.a x.ts.length p.c, .int .i8 x.rel, .int .i8 x.l.op, .string x.l.t.v, .int .i8 x.l.t.a.k, .int .i64 x.l.t.a.n, .string x.l.t.a.s, .slice p.la x.l.kids.length p.lc, .int .i8 x.r.op, .string x.r.t.v, .int .i8 x.r.t.a.k, .int .i64 x.r.t.a.n, .string x.r.t.a.s, .slice p.ra x.r.kids.length p.rc] 55)) w.heap.size 55 [.int .i8 x.k, .string x.pr, .slice p.a x.ts.length p.c, .int .i8 x.rel, .int .i8 x.l.op, .string x.l.t.v, .int .i8 x.l.t.a.k, .int .i64 x.l.t.a.n, .string x.l.t.a.s, .slice p.la x.l.kids.length p.lc, .int .i8 x.r.op, .string x.r.t.v, .int .i8 x.r.t.a.k, .int .i64 x.r.t.a.n, .string x.r.t.a.s, .slice p.ra x.r.kids.length p.rc]) := rl_new w #[.int .i8 x.k, .string x.pr, .slice p.a x.ts.length p.c, .int .i8 x.rel, .int .i8 x.l.op, .string x.l.t.v, .int .i8 x.l.t.a.k, .int .i64 x.l.t.a.n, .string x.l.t.a.s, .slice p.la x.l.kids.length p.lc, .int .i8 x.r.op, .string x.r.t.v, .int .i8 x.r.t.a.k, .int .i64 x.r.t.a.n, .string x.r.t.a.s, .slice p.ra x.r.kids.length p.rc] 55
  have HBA : Hid (Below w.heap.size w _) := BA
  have hln := h.ln
  have hlen1 : IntKind.i64.wrap (1 + (x.ts.length : Int)) = 1 + (x.ts.length : Int) := wrap_mid (by omega) (by omega)
  clear h BA
  unfold Lit4.val E.val at *
  go_enter Tryz.func29, Tryz.ntmps29
  go_upto_region 1 with fail
  generalize hWW : w.alloc (.cells #[.int .i8 x.k, .string x.pr, .slice p.a x.ts.length p.c, .int .i8 x.rel, .int .i8 x.l.op, .string x.l.t.v, .int .i8 x.l.t.a.k, .int .i64 x.l.t.a.n, .string x.l.t.a.s, .slice p.la x.l.kids.length p.lc, .int .i8 x.r.op, .string x.r.t.v, .int .i8 x.r.t.a.k, .int .i64 x.r.t.a.n, .string x.r.t.a.s, .slice p.ra x.r.kids.length p.rc] 55) = W at HR0 HBA ⊢
  clear hWW
  have HC : Hid (∀ u, Below W.heap.size W u → Below w.heap.size w u ∧ u.cell? ⟨w.heap.size, 2, none⟩ = some (.slice p.a x.ts.length p.c) ∧ u.cell? ⟨w.heap.size, 4, none⟩ = some (.int .i8 x.l.op) ∧ u.cell? ⟨w.heap.size, 5, none⟩ = some (.string x.l.t.v) ∧ u.cell? ⟨w.heap.size, 6, none⟩ = some (.int .i8 x.l.t.a.k) ∧ u.cell? ⟨w.heap.size, 7, none⟩ = some (.int .i64 x.l.t.a.n) ∧ u.cell? ⟨w.heap.size, 8, none⟩ = some (.string x.l.t.a.s) ∧ u.cell? ⟨w.heap.size, 9, none⟩ = some (.slice p.la x.l.kids.length p.lc)) := fun u hu => by
    have hr := RL.below HR0.out hu
    exact ⟨HBA.out.trans (hu.mono HBA.out.size), (hr.at (j := 2) rfl), (hr.at (j := 4) rfl), (hr.at (j := 5) rfl), (hr.at (j := 6) rfl), (hr.at (j := 7) rfl), (hr.at (j := 8) rfl), (hr.at (j := 9) rfl)⟩
  have hB0 : Below W.heap.size W W.drew := (Below.refl _ _).drew
  have hS0 := HC.out _ (Below.refl _ _)
  go_region_held3 (fun u => (Below W.heap.size W u) ∧ u.cell? ⟨w.heap.size, 2, none⟩ = some (.slice p.a x.ts.length p.c) ∧ u.cell? ⟨w.heap.size, 4, none⟩ = some (.int .i8 x.l.op) ∧ u.cell? ⟨w.heap.size, 5, none⟩ = some (.string x.l.t.v) ∧ u.cell? ⟨w.heap.size, 6, none⟩ = some (.int .i8 x.l.t.a.k) ∧ u.cell? ⟨w.heap.size, 7, none⟩ = some (.int .i64 x.l.t.a.n) ∧ u.cell? ⟨w.heap.size, 8, none⟩ = some (.string x.l.t.a.s) ∧ u.cell? ⟨w.heap.size, 9, none⟩ = some (.slice p.la x.l.kids.length p.lc))
    (first
      | assumption
      | exact ⟨hB0, (HC.out _ hB0).2⟩
      | exact ⟨(by assumption), (HC.out _ (by assumption)).2⟩)
    (first
      | (go_at_call 53; refine Calls.mono (HE1.out _ (HC.out _ (by assumption)).1) ?_; rintro ee wf ⟨n1, rfl, bf, ⟨hn0, hn1⟩, hsm⟩; have HSM : Hid _ := hsm; clear hsm; have bf' := next_below (wc := W) (by assumption) bf; have hw2 : IntKind.i64.wrap (1 + (x.ts.length : Int) + n1) = 1 + (x.ts.length : Int) + n1 := wrap_mid (by omega) (by omega))
      | fail)
  have H1 : Hid (RL wf w.heap.size 55 [.int .i8 x.k, .string x.pr, .slice p.a x.ts.length p.c, .int .i8 x.rel, .int .i8 x.l.op, .string x.l.t.v, .int .i8 x.l.t.a.k, .int .i64 x.l.t.a.n, .string x.l.t.a.s, .slice p.la x.l.kids.length p.lc, .int .i8 x.r.op, .string x.r.t.v, .int .i8 x.r.t.a.k, .int .i64 x.r.t.a.n, .string x.r.t.a.s, .slice p.ra x.r.kids.length p.rc]) := RL.below HR0.out bf'
  have B1 : Hid (Below w.heap.size w wf) := (HC.out _ bf').1
  clear HC hB0 hS0 HR0 HBA bf bf' HE1
  by_cases hbig : (lf : Int) < 1 + (x.ts.length : Int) + n1
  · have hw3 : IntKind.i64.wrap ((lf : Int) + 1) = (lf : Int) + 1 := wrap_mid (by omega) (by omega)
    go_wp2
    go_ret
    exact ⟨_, rfl, B1.out, ⟨by omega, by omega⟩, fun h => absurd h (by omega)⟩
  · have hw3 : IntKind.i64.wrap ((lf : Int) - (1 + (x.ts.length : Int) + n1)) = (lf : Int) - (1 + (x.ts.length : Int) + n1) := wrap_mid (by omega) (by omega)
    have z10 := H1.out.at (j := 10) rfl
    have z11 := H1.out.at (j := 11) rfl
    have z12 := H1.out.at (j := 12) rfl
    have z13 := H1.out.at (j := 13) rfl
    have z14 := H1.out.at (j := 14) rfl
    have z15 := H1.out.at (j := 15) rfl
    go_wp2_with fail
    refine Calls.mono (HE2.out _ _ (by omega) (by omega) B1.out) ?_
    rintro ee w2 ⟨n2, rfl, b2, ⟨hm0, hm1⟩, hsm⟩
    have HS2 : Hid _ := hsm
    have hw4 : IntKind.i64.wrap (1 + (x.ts.length : Int) + n1 + n2) = 1 + (x.ts.length : Int) + n1 + n2 := wrap_mid (by omega) (by omega)
    clear hsm
    go_wp2
    go_ret
    exact ⟨_, rfl, B1.out.trans (b2.mono B1.out.size), ⟨by omega, by omega⟩, fun h => ⟨by omega, ⟨(HSM.out (by omega)).1, by have := (HSM.out (by omega)).2; omega⟩, ⟨(HS2.out (by omega)).1, by have := (HS2.out (by omega)).2; omega⟩⟩⟩
end Go.Proofs.YtgfnijhhhgjabaaGreatDoor
end
section
namespace Go.Proofs.YtgfnijhhhgjabaaGreatDoor
open Go.RowKit Go.Maps
set_option linter.unusedVariables false
set_option linter.unusedSimpArgs false
attribute [local go_sem ↓] Go.wp_at_zero Go.wp_at_succ

/-- a literal and where its lists lie -/
structure XL where
  x : Lit4
  p : LP
def XL.cells (y : XL) : List Value := [.int .i8 y.x.k, .string y.x.pr, .slice y.p.a y.x.ts.length y.p.c, .int .i8 y.x.rel, .int .i8 y.x.l.op, .string y.x.l.t.v, .int .i8 y.x.l.t.a.k, .int .i64 y.x.l.t.a.n, .string y.x.l.t.a.s, .slice y.p.la y.x.l.kids.length y.p.lc, .int .i8 y.x.r.op, .string y.x.r.t.v, .int .i8 y.x.r.t.a.k, .int .i64 y.x.r.t.a.n, .string y.x.r.t.a.s, .slice y.p.ra y.x.r.kids.length y.p.rc]
def smallL (d : Nat) (x : Lit4) : Prop := x.ts.length ≤ 1048576 ∧ (smallE d x.l ∧ szD d x.l ≤ 1048576) ∧ (smallE d x.r ∧ szD d x.r ≤ 1048576)
set_option maxHeartbeats 3200000 in
theorem ruleParts_any (d : Nat) (l : List XL) (g : Nat) (w : World) (hll : l.length ≤ 1000) (hg : g < w.heap.size) (hat : ∀ i (hi : i < l.length), ∀ j v, (l[i].cells)[j]? = some v → w.cell? ⟨g, i * 16 + j, none⟩ = some v) (hX : ∀ y ∈ l, LIs w d y.x y.p) :
    Calls Tryz.prog 12 #[.agg #[.string ⟨#[]⟩, .slice none 0 0, .slice (some ⟨g, 0, none⟩) l.length l.length], .int .i64 1048576] w fun r w' => ∃ n : Int, r = .returned (.int .i64 n) ∧ Below w.heap.size w w' ∧ (n ≤ 1048576 → ∀ y ∈ l, smallL d y.x) := by
  have BA := (Below.refl w.heap.size w).alloc (Nat.le_refl _) (.cells #[.string ⟨#[]⟩, .slice none 0 0, .slice (some ⟨g, 0, none⟩) l.length l.length] 25)
  have HAT : Hid _ := hat
  have HX : Hid _ := hX
  have HBA : Hid (Below w.heap.size w _) := BA
  have HR0 : Hid (RL (w.alloc (.cells #[.string ⟨#[]⟩, .slice none 0 0, .slice (some ⟨g, 0, none⟩) l.length l.length] 25)) w.heap.size 25 [.string ⟨#[]⟩, .slice none 0 0, .slice (some ⟨g, 0, none⟩) l.length l.length]) := rl_new w #[.string ⟨#[]⟩, .slice none 0 0, .slice (some ⟨g, 0, none⟩) l.length l.length] 25
  clear hat hX BA
  go_enter Tryz.func12, Tryz.ntmps12
  go_wp2
  go_loopw [5, 6] (fun n i wr => ∃ (k : Nat) (m : Int), k ≤ l.length ∧ i = .int .i64 k ∧ n = .int .i64 m ∧ 0 ≤ m ∧ m ≤ 1048577 ∧ Below w.heap.size w wr ∧ Hid (RL wr w.heap.size 25 [.string ⟨#[]⟩, .slice none 0 0, .slice (some ⟨g, 0, none⟩) l.length l.length]) ∧ Hid (m ≤ 1048576 → ∀ y ∈ l.take k, smallL d y.x)) (fun _ i _ => l.length - (intOf i).toNat)
  case atStart => exact ⟨0, 1, Nat.zero_le _, rfl, rfl, by omega, by omega, HBA.out, HR0, fun _ y hy => by simp at hy⟩
  case round =>
    obtain ⟨k, m, hk, rfl, rfl, hm0, hm1, bel, HR, HS⟩ := hrel
    have r2 := HR.out.at (j := 2) rfl
    clear HR0 HBA
    by_cases hlt : k < l.length
    · have hlt' : (k : Int) < (l.length : Int) := by omega
      by_cases hmm : m ≤ 1048576
      · have hz := HAT.out k hlt
        have HTk : Hid (l.take (k + 1) = l.take k ++ [l[k]]) := by show _ = _; rw [List.take_add_one, List.getElem?_eq_getElem hlt]; rfl
        have hXk := HX.out l[k] (List.getElem_mem hlt)
        obtain ⟨y, hy⟩ : ∃ y, l[k] = y := ⟨_, rfl⟩
        rw [hy] at hz hXk HTk
        clear hy
        have z0 : wr.cell? ⟨g, k * 16, none⟩ = some (.int .i8 y.x.k) := by rw [bel.cell (p := ⟨g, k * 16, none⟩) hg]; exact hz 0 _ rfl
        have z1 : wr.cell? ⟨g, k * 16 + 1, none⟩ = some (.string y.x.pr) := by rw [bel.cell (p := ⟨g, k * 16 + 1, none⟩) hg]; exact hz 1 _ rfl
        have z2 : wr.cell? ⟨g, k * 16 + 2, none⟩ = some (.slice y.p.a y.x.ts.length y.p.c) := by rw [bel.cell (p := ⟨g, k * 16 + 2, none⟩) hg]; exact hz 2 _ rfl
        have z3 : wr.cell? ⟨g, k * 16 + 3, none⟩ = some (.int .i8 y.x.rel) := by rw [bel.cell (p := ⟨g, k * 16 + 3, none⟩) hg]; exact hz 3 _ rfl
        have z4 : wr.cell? ⟨g, k * 16 + 4, none⟩ = some (.int .i8 y.x.l.op) := by rw [bel.cell (p := ⟨g, k * 16 + 4, none⟩) hg]; exact hz 4 _ rfl
        have z5 : wr.cell? ⟨g, k * 16 + 5, none⟩ = some (.string y.x.l.t.v) := by rw [bel.cell (p := ⟨g, k * 16 + 5, none⟩) hg]; exact hz 5 _ rfl
        have z6 : wr.cell? ⟨g, k * 16 + 6, none⟩ = some (.int .i8 y.x.l.t.a.k) := by rw [bel.cell (p := ⟨g, k * 16 + 6, none⟩) hg]; exact hz 6 _ rfl
        have z7 : wr.cell? ⟨g, k * 16 + 7, none⟩ = some (.int .i64 y.x.l.t.a.n) := by rw [bel.cell (p := ⟨g, k * 16 + 7, none⟩) hg]; exact hz 7 _ rfl
        have z8 : wr.cell? ⟨g, k * 16 + 8, none⟩ = some (.string y.x.l.t.a.s) := by rw [bel.cell (p := ⟨g, k * 16 + 8, none⟩) hg]; exact hz 8 _ rfl
        have z9 : wr.cell? ⟨g, k * 16 + 9, none⟩ = some (.slice y.p.la y.x.l.kids.length y.p.lc) := by rw [bel.cell (p := ⟨g, k * 16 + 9, none⟩) hg]; exact hz 9 _ rfl
        have z10 : wr.cell? ⟨g, k * 16 + 10, none⟩ = some (.int .i8 y.x.r.op) := by rw [bel.cell (p := ⟨g, k * 16 + 10, none⟩) hg]; exact hz 10 _ rfl
        have z11 : wr.cell? ⟨g, k * 16 + 11, none⟩ = some (.string y.x.r.t.v) := by rw [bel.cell (p := ⟨g, k * 16 + 11, none⟩) hg]; exact hz 11 _ rfl
        have z12 : wr.cell? ⟨g, k * 16 + 12, none⟩ = some (.int .i8 y.x.r.t.a.k) := by rw [bel.cell (p := ⟨g, k * 16 + 12, none⟩) hg]; exact hz 12 _ rfl
        have z13 : wr.cell? ⟨g, k * 16 + 13, none⟩ = some (.int .i64 y.x.r.t.a.n) := by rw [bel.cell (p := ⟨g, k * 16 + 13, none⟩) hg]; exact hz 13 _ rfl
        have z14 : wr.cell? ⟨g, k * 16 + 14, none⟩ = some (.string y.x.r.t.a.s) := by rw [bel.cell (p := ⟨g, k * 16 + 14, none⟩) hg]; exact hz 14 _ rfl
        have z15 : wr.cell? ⟨g, k * 16 + 15, none⟩ = some (.slice y.p.ra y.x.r.kids.length y.p.rc) := by rw [bel.cell (p := ⟨g, k * 16 + 15, none⟩) hg]; exact hz 15 _ rfl
        have hw1 : IntKind.i64.wrap (1048576 - m) = 1048576 - m := wrap_mid (by omega) (by omega)
        have HP : Hid (∀ u, Below w.heap.size w u → ∀ z : Int, 0 ≤ z → z ≤ 1048576 → Calls Tryz.prog 29 #[y.x.val y.p, .int .i64 z] u fun r w' => ∃ n : Int, r = .returned (.int .i64 n) ∧ Below u.heap.size u w' ∧ (0 ≤ n ∧ n ≤ z + 1) ∧ (n ≤ z → smallL d y.x)) := fun u hu z h0 h1 => by
          obtain ⟨q, rfl⟩ : ∃ q : Nat, z = q := ⟨z.toNat, by omega⟩
          exact literalPartsS_any d y.x y.p u (hXk.below hu) q (by omega)
        clear hz hXk
        unfold Lit4.val at HP
        go_wp2_with fail
        refine Calls.mono (HP.out _ bel _ (by omega) (by omega)) ?_
        rintro ee w1 ⟨n1, rfl, b1, ⟨hn0, hn1⟩, hsm⟩
        have HR1 : Hid (RL w1 w.heap.size 25 _) := RL.below HR.out b1
        have bel1 := bel.trans (b1.mono bel.size)
        have HSM : Hid _ := hsm
        have hw2 : IntKind.i64.wrap (m + n1) = m + n1 := wrap_mid (by omega) (by omega)
        clear hsm b1 bel r2 HR HP z0 z1 z2 z3 z4 z5 z6 z7 z8 z9 z10 z11 z12 z13 z14 z15
        go_wp2
        go_roundw
        case rel =>
          refine ⟨k + 1, m + n1, by omega, by go_num, rfl, by omega, by omega, bel1, HR1, fun h => ?_⟩
          rw [HTk.out]
          intro y' hy'
          rcases List.mem_append.1 hy' with h1 | h1
          · exact HS.out (by omega) y' h1
          · rw [List.mem_singleton.1 h1]; exact HSM.out (by omega)
        case measure => simp [intOf]; omega
      · have hmm' : ¬ m ≤ 1048576 := hmm
        go_wp2
        go_ret
        exact ⟨_, rfl, bel, fun h => absurd h (by omega)⟩
    · obtain rfl : k = l.length := by omega
      rw [List.take_length] at HS
      go_wp2
      go_ret
      exact ⟨_, rfl, bel, HS.out⟩
end Go.Proofs.YtgfnijhhhgjabaaGreatDoor
end
section
namespace Go.Proofs.YtgfnijhhhgjabaaGreatDoor
open Go.RowKit Go.Maps
set_option linter.unusedVariables false
set_option linter.unusedSimpArgs false
attribute [local go_sem ↓] Go.wp_at_zero Go.wp_at_succ

theorem EIs.len {w : World} {d : Nat} {e : E} {a : Option Addr} {c : Nat} (h : EIs w d e a c) : e.kids.length ≤ 281474976710656 := by
  cases d with
  | zero => exact h.elim
  | succ d => exact h.1.2
theorem termsL_wf {w : World} {d : Nat} {x : Lit4} {p : LP} (h : LIs w d x p) : ∀ t ∈ termsL d x, t.wf := by
  intro t ht
  unfold termsL at ht
  rcases List.mem_append.1 ht with h1 | h1
  · exact h.ts.wf t h1
  · rcases List.mem_append.1 h1 with h2 | h2
    · exact termsD_wf d _ _ _ h.l t h2
    · exact termsD_wf d _ _ _ h.r t h2
theorem tcells_take {ts : List T} {k : Nat} (h : k < ts.length) : (ts.take (k + 1)).flatMap T.cells = (ts.take k).flatMap T.cells ++ T.cells (atT ts k) := by
  rw [List.take_succ_eq_append_getElem h, List.flatMap_append, atT_eq h]
  simp
set_option maxHeartbeats 3200000 in
theorem literalTerms_any (d : Nat) (x : Lit4) (p : LP) (w : World) (hL : LIs w d x p) (hs : x.ts.length ≤ 1048576) (hl : szD d x.l ≤ 1048576) (hr : szD d x.r ≤ 1048576) :
    Calls Tryz.prog 51 #[.slice none 0 0, x.val p] w fun r w' => ∃ sv, r = .returned sv ∧ Ls w' sv (termsL d x).length ((termsL d x).flatMap T.cells) ∧ Below w.heap.size w w' := by
  obtain ⟨i0, hi0, hz0, hz1, hz2⟩ := info_parts infoTm
  have HB0 : Hid (Below w.heap.size w (w.alloc (.cells #[.int .i8 x.k, .string x.pr, .slice p.a x.ts.length p.c, .int .i8 x.rel, .int .i8 x.l.op, .string x.l.t.v, .int .i8 x.l.t.a.k, .int .i64 x.l.t.a.n, .string x.l.t.a.s, .slice p.la x.l.kids.length p.lc, .int .i8 x.r.op, .string x.r.t.v, .int .i8 x.r.t.a.k, .int .i64 x.r.t.a.n, .string x.r.t.a.s, .slice p.ra x.r.kids.length p.rc] 55))) := (Below.refl _ _).alloc (Nat.le_refl _) _
  have HRL : Hid (RL (w.alloc (.cells #[.int .i8 x.k, .string x.pr, .slice p.a x.ts.length p.c, .int .i8 x.rel, .int .i8 x.l.op, .string x.l.t.v, .int .i8 x.l.t.a.k, .int .i64 x.l.t.a.n, .string x.l.t.a.s, .slice p.la x.l.kids.length p.lc, .int .i8 x.r.op, .string x.r.t.v, .int .i8 x.r.t.a.k, .int .i64 x.r.t.a.n, .string x.r.t.a.s, .slice p.ra x.r.kids.length p.rc] 55)) w.heap.size 55 [.int .i8 x.k, .string x.pr, .slice p.a x.ts.length p.c, .int .i8 x.rel, .int .i8 x.l.op, .string x.l.t.v, .int .i8 x.l.t.a.k, .int .i64 x.l.t.a.n, .string x.l.t.a.s, .slice p.la x.l.kids.length p.lc, .int .i8 x.r.op, .string x.r.t.v, .int .i8 x.r.t.a.k, .int .i64 x.r.t.a.n, .string x.r.t.a.s, .slice p.ra x.r.kids.length p.rc]) := rl_new w #[.int .i8 x.k, .string x.pr, .slice p.a x.ts.length p.c, .int .i8 x.rel, .int .i8 x.l.op, .string x.l.t.v, .int .i8 x.l.t.a.k, .int .i64 x.l.t.a.n, .string x.l.t.a.s, .slice p.la x.l.kids.length p.lc, .int .i8 x.r.op, .string x.r.t.v, .int .i8 x.r.t.a.k, .int .i64 x.r.t.a.n, .string x.r.t.a.s, .slice p.ra x.r.kids.length p.rc] 55
  have HLI : Hid (LIs (w.alloc (.cells #[.int .i8 x.k, .string x.pr, .slice p.a x.ts.length p.c, .int .i8 x.rel, .int .i8 x.l.op, .string x.l.t.v, .int .i8 x.l.t.a.k, .int .i64 x.l.t.a.n, .string x.l.t.a.s, .slice p.la x.l.kids.length p.lc, .int .i8 x.r.op, .string x.r.t.v, .int .i8 x.r.t.a.k, .int .i64 x.r.t.a.n, .string x.r.t.a.s, .slice p.ra x.r.kids.length p.rc] 55)) d x p) := hL.below HB0.out
  have HTM : Hid (x.ts ++ (termsD d x.l ++ termsD d x.r) = termsL d x) := rfl
  obtain ⟨tm, htm⟩ : ∃ tm, termsL d x = tm := ⟨_, rfl⟩
  rw [htm] at HTM ⊢
  have HSZ : Hid (szD d x.l ≤ 1048576 ∧ szD d x.r ≤ 1048576) := ⟨hl, hr⟩
  clear hL hl hr htm
  unfold Lit4.val
  go_enter Tryz.func51, Tryz.ntmps51
  go_upto_region 1 with fail
  generalize w.alloc (.cells #[.int .i8 x.k, .string x.pr, .slice p.a x.ts.length p.c, .int .i8 x.rel, .int .i8 x.l.op, .string x.l.t.v, .int .i8 x.l.t.a.k, .int .i64 x.l.t.a.n, .string x.l.t.a.s, .slice p.la x.l.kids.length p.lc, .int .i8 x.r.op, .string x.r.t.v, .int .i8 x.r.t.a.k, .int .i64 x.r.t.a.n, .string x.r.t.a.s, .slice p.ra x.r.kids.length p.rc] 55) = W at HB0 HRL HLI ⊢
  obtain ⟨a1, c1, e1, hc1, hc2, hat⟩ := HLI.out.ts.form
  cases e1
  have HAT : Hid _ := hat
  have hbW : w.heap.size < W.heap.size := World.rowIs.lt HRL.out
  have HRu : Hid (∀ u, Below W.heap.size W u → RL u w.heap.size 55 [.int .i8 x.k, .string x.pr, .slice p.a x.ts.length p.c, .int .i8 x.rel, .int .i8 x.l.op, .string x.l.t.v, .int .i8 x.l.t.a.k, .int .i64 x.l.t.a.n, .string x.l.t.a.s, .slice p.la x.l.kids.length p.lc, .int .i8 x.r.op, .string x.r.t.v, .int .i8 x.r.t.a.k, .int .i64 x.r.t.a.n, .string x.r.t.a.s, .slice p.ra x.r.kids.length p.rc]) := fun u hu => RL.below HRL.out hu
  clear hat
  go_wp2
  go_loopw [0, 5] (fun lv i wr => ∃ (k : Nat) (a' : Option Addr) (c' : Nat), k ≤ x.ts.length ∧ i = .int .i64 k ∧ lv = .slice a' k c' ∧ Hid (wr.ownsRow W.heap.size 44 4 (.slice a' k c') k ((x.ts.take k).flatMap T.cells)) ∧ Below W.heap.size W wr) (fun _ i _ => x.ts.length - (intOf i).toNat)
  case atStart => exact ⟨0, none, 0, Nat.zero_le _, rfl, rfl, World.ownsRow_nil _ _ _ _, Below.refl _ _⟩
  case round =>
    obtain ⟨k, a', c', hk, rfl, rfl, HO, bel⟩ := hrel
    have hR := HRu.out wr bel
    by_cases hlt : k < x.ts.length
    · have hlt' : (k : Int) < (x.ts.length : Int) := by omega
      have hk0 : (0 : Int) ≤ (k : Int) := by omega
      obtain ⟨g, off, hpa, hg, hT⟩ := HAT.out (by omega)
      have y2 := hR.at (j := 2) rfl
      rw [hpa] at y2
      obtain ⟨x0, x1, x2, x3⟩ := (hT k hlt).below bel hg
      have HTK : Hid _ := tcells_take hlt
      generalize atT x.ts k = t at x0 x1 x2 x3 HTK
      have hzw := bel.size
      clear hT hpa hR
      go_wp2_with (at_builtin; refine wpList_append_own_at _ rfl _ _ 46 rfl W.heap.size 44 i0 _ 4 48 Tryz.underlying46 hi0 hz0 hz1 hz2 rfl (by decide) _ _ _ rfl (own_below HO.out ((Below.refl _ _).alloc (Nat.le_refl _) _)) ⟨_, 0, none⟩ 1 1 [.string t.v, .int .i8 t.a.k, .int .i64 t.a.n, .string t.a.s] rfl rfl (lit_news _ #[.string t.v, .int .i8 t.a.k, .int .i64 t.a.n, .string t.a.s] _) (by simp [Value.oneCell']) (by unfold maxLen; omega) (by omega) (by simp; omega) ?_; intro v' w2 hown' hgrow hnil hloc)
      obtain ⟨a2, c2, rfl, _⟩ := own_form hown'
      go_roundw
      case rel => exact ⟨k + 1, a2, c2, by omega, by go_num, rfl, by show World.ownsRow _ _ _ _ _ _ _; rw [HTK.out]; exact hown', (bel.alloc bel.size _).grown hgrow (by simp; omega) (fun j hj => (HO.out.lt j hj).1)⟩
      case measure => simp [intOf]; omega
    · obtain rfl : k = x.ts.length := by omega
      rw [List.take_length] at HO
      have y4 := hR.at (j := 4) rfl
      have y5 := hR.at (j := 5) rfl
      have y6 := hR.at (j := 6) rfl
      have y7 := hR.at (j := 7) rfl
      have y8 := hR.at (j := 8) rfl
      have y9 := hR.at (j := 9) rfl
      have y2 := hR.at (j := 2) rfl
      have hzw := bel.size
      have HX1 : Hid _ := exprTerms_any (w0 := W) d x.l p.la p.lc (.slice a' x.ts.length c') x.ts wr HLI.out.l bel hzw HO.out (by have := HSZ.out.1; omega)
      unfold E.val at HX1
      clear hR
      go_wp2_with fail
      refine Calls.mono HX1.out ?_
      rintro ee w1 ⟨sv1, rfl, ho1, hg1⟩
      have bel1 : Below W.heap.size W w1 := bel.grown hg1.gr hzw (fun j hj => (HO.out.lt j hj).1)
      have hm3 : x.ts ++ termsD d x.l ++ termsD d x.r = tm := by rw [List.append_assoc]; exact HTM.out
      have hm4 : (x.ts ++ termsD d x.l).length ≤ 3000000 := by have := HSZ.out.1; unfold szD at this; rw [List.length_append]; omega
      generalize x.ts ++ termsD d x.l = m1 at ho1 hm3 hm4
      have HM3 : Hid (m1 ++ termsD d x.r = tm) := hm3
      clear hm3
      have HO1 : Hid _ := ho1
      obtain ⟨b1, d1, rfl, _⟩ := own_form ho1
      have hR1 := HRu.out w1 bel1
      have z10 := hR1.at (j := 10) rfl
      have z11 := hR1.at (j := 11) rfl
      have z12 := hR1.at (j := 12) rfl
      have z13 := hR1.at (j := 13) rfl
      have z14 := hR1.at (j := 14) rfl
      have z15 := hR1.at (j := 15) rfl
      have hzw1 := bel1.size
      have HX2 : Hid _ := exprTerms_any (w0 := W) d x.r p.ra p.rc _ m1 w1 HLI.out.r bel1 hzw1 HO1.out (by have := HSZ.out; omega)
      unfold E.val at HX2
      clear hR1 HX1 hg1 ho1 y2 y4 y5 y6 y7 y8 y9
      go_wp2_with fail
      refine Calls.mono HX2.out ?_
      rintro ee w2 ⟨sv2, rfl, ho2, hg2⟩
      have bel2 : Below W.heap.size W w2 := bel1.grown hg2.gr hzw1 (fun j hj => (World.ownsRow.lt HO1.out j hj).1)
      clear z10 z11 z12 z13 z14 z15 HX2 hg2
      rw [HM3.out] at ho2
      go_wp2
      go_ret
      exact ⟨_, rfl, ls_own ho2, HB0.out.trans (bel2.mono HB0.out.size)⟩
end Go.Proofs.YtgfnijhhhgjabaaGreatDoor
end
