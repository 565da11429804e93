import Derived.Test.YtkkpdhlnnjkpeaaDoorLitPartsS
namespace Go.Proofs.YtkkpdhlnnjkpeaaDoor
open Go.RowKit Go.Maps
set_option linter.unusedVariables false
set_option linter.unusedSimpArgs false
attribute [local go_sem ↓] Go.wp_at_zero Go.wp_at_succ

/-- a literal and where its lists lie -/
structure XL where
  x : Lit4
  p : LP
def XL.cells (y : XL) : List Value := [.int .i8 y.x.k, .string y.x.pr, .slice y.p.a y.x.ts.length y.p.c, .int .i8 y.x.rel, .int .i8 y.x.l.op, .string y.x.l.t.v, .int .i8 y.x.l.t.a.k, .int .i64 y.x.l.t.a.n, .string y.x.l.t.a.s, .slice y.p.la y.x.l.kids.length y.p.lc, .int .i8 y.x.r.op, .string y.x.r.t.v, .int .i8 y.x.r.t.a.k, .int .i64 y.x.r.t.a.n, .string y.x.r.t.a.s, .slice y.p.ra y.x.r.kids.length y.p.rc]
def smallL (d : Nat) (x : Lit4) : Prop := x.ts.length ≤ 1048576 ∧ (smallE d x.l ∧ szD d x.l ≤ 1048576) ∧ (smallE d x.r ∧ szD d x.r ≤ 1048576)
set_option maxHeartbeats 3200000 in
theorem ruleParts_any (d : Nat) (l : List XL) (g : Nat) (w : World) (hll : l.length ≤ 1000) (hg : g < w.heap.size) (hat : ∀ i (hi : i < l.length), ∀ j v, (l[i].cells)[j]? = some v → w.cell? ⟨g, i * 16 + j, none⟩ = some v) (hX : ∀ y ∈ l, LIs w d y.x y.p) :
    Calls Tryd.prog 15 #[.agg #[.string ⟨#[]⟩, .slice none 0 0, .slice (some ⟨g, 0, none⟩) l.length l.length], .int .i64 1048576] w fun r w' => ∃ n : Int, r = .returned (.int .i64 n) ∧ Below w.heap.size w w' ∧ (n ≤ 1048576 → ∀ y ∈ l, smallL d y.x) := by
  have BA := (Below.refl w.heap.size w).alloc (Nat.le_refl _) (.cells #[.string ⟨#[]⟩, .slice none 0 0, .slice (some ⟨g, 0, none⟩) l.length l.length] 25)
  have HAT : Hid _ := hat
  have HX : Hid _ := hX
  have HBA : Hid (Below w.heap.size w _) := BA
  have HR0 : Hid (RL (w.alloc (.cells #[.string ⟨#[]⟩, .slice none 0 0, .slice (some ⟨g, 0, none⟩) l.length l.length] 25)) w.heap.size 25 [.string ⟨#[]⟩, .slice none 0 0, .slice (some ⟨g, 0, none⟩) l.length l.length]) := rl_new w #[.string ⟨#[]⟩, .slice none 0 0, .slice (some ⟨g, 0, none⟩) l.length l.length] 25
  clear hat hX BA
  go_enter Tryd.func15, Tryd.ntmps15
  go_wp2
  go_loopw [5, 6] (fun n i wr => ∃ (k : Nat) (m : Int), k ≤ l.length ∧ i = .int .i64 k ∧ n = .int .i64 m ∧ 0 ≤ m ∧ m ≤ 1048577 ∧ Below w.heap.size w wr ∧ Hid (RL wr w.heap.size 25 [.string ⟨#[]⟩, .slice none 0 0, .slice (some ⟨g, 0, none⟩) l.length l.length]) ∧ Hid (m ≤ 1048576 → ∀ y ∈ l.take k, smallL d y.x)) (fun _ i _ => l.length - (intOf i).toNat)
  case atStart => exact ⟨0, 1, Nat.zero_le _, rfl, rfl, by omega, by omega, HBA.out, HR0, fun _ y hy => by simp at hy⟩
  case round =>
    obtain ⟨k, m, hk, rfl, rfl, hm0, hm1, bel, HR, HS⟩ := hrel
    have r2 := HR.out.at (j := 2) rfl
    clear HR0 HBA
    by_cases hlt : k < l.length
    · have hlt' : (k : Int) < (l.length : Int) := by omega
      by_cases hmm : m ≤ 1048576
      · have hz := HAT.out k hlt
        have HTk : Hid (l.take (k + 1) = l.take k ++ [l[k]]) := by show _ = _; rw [List.take_add_one, List.getElem?_eq_getElem hlt]; rfl
        have hXk := HX.out l[k] (List.getElem_mem hlt)
        obtain ⟨y, hy⟩ : ∃ y, l[k] = y := ⟨_, rfl⟩
        rw [hy] at hz hXk HTk
        clear hy
        have z0 : wr.cell? ⟨g, k * 16, none⟩ = some (.int .i8 y.x.k) := by rw [bel.cell (p := ⟨g, k * 16, none⟩) hg]; exact hz 0 _ rfl
        have z1 : wr.cell? ⟨g, k * 16 + 1, none⟩ = some (.string y.x.pr) := by rw [bel.cell (p := ⟨g, k * 16 + 1, none⟩) hg]; exact hz 1 _ rfl
        have z2 : wr.cell? ⟨g, k * 16 + 2, none⟩ = some (.slice y.p.a y.x.ts.length y.p.c) := by rw [bel.cell (p := ⟨g, k * 16 + 2, none⟩) hg]; exact hz 2 _ rfl
        have z3 : wr.cell? ⟨g, k * 16 + 3, none⟩ = some (.int .i8 y.x.rel) := by rw [bel.cell (p := ⟨g, k * 16 + 3, none⟩) hg]; exact hz 3 _ rfl
        have z4 : wr.cell? ⟨g, k * 16 + 4, none⟩ = some (.int .i8 y.x.l.op) := by rw [bel.cell (p := ⟨g, k * 16 + 4, none⟩) hg]; exact hz 4 _ rfl
        have z5 : wr.cell? ⟨g, k * 16 + 5, none⟩ = some (.string y.x.l.t.v) := by rw [bel.cell (p := ⟨g, k * 16 + 5, none⟩) hg]; exact hz 5 _ rfl
        have z6 : wr.cell? ⟨g, k * 16 + 6, none⟩ = some (.int .i8 y.x.l.t.a.k) := by rw [bel.cell (p := ⟨g, k * 16 + 6, none⟩) hg]; exact hz 6 _ rfl
        have z7 : wr.cell? ⟨g, k * 16 + 7, none⟩ = some (.int .i64 y.x.l.t.a.n) := by rw [bel.cell (p := ⟨g, k * 16 + 7, none⟩) hg]; exact hz 7 _ rfl
        have z8 : wr.cell? ⟨g, k * 16 + 8, none⟩ = some (.string y.x.l.t.a.s) := by rw [bel.cell (p := ⟨g, k * 16 + 8, none⟩) hg]; exact hz 8 _ rfl
        have z9 : wr.cell? ⟨g, k * 16 + 9, none⟩ = some (.slice y.p.la y.x.l.kids.length y.p.lc) := by rw [bel.cell (p := ⟨g, k * 16 + 9, none⟩) hg]; exact hz 9 _ rfl
        have z10 : wr.cell? ⟨g, k * 16 + 10, none⟩ = some (.int .i8 y.x.r.op) := by rw [bel.cell (p := ⟨g, k * 16 + 10, none⟩) hg]; exact hz 10 _ rfl
        have z11 : wr.cell? ⟨g, k * 16 + 11, none⟩ = some (.string y.x.r.t.v) := by rw [bel.cell (p := ⟨g, k * 16 + 11, none⟩) hg]; exact hz 11 _ rfl
        have z12 : wr.cell? ⟨g, k * 16 + 12, none⟩ = some (.int .i8 y.x.r.t.a.k) := by rw [bel.cell (p := ⟨g, k * 16 + 12, none⟩) hg]; exact hz 12 _ rfl
        have z13 : wr.cell? ⟨g, k * 16 + 13, none⟩ = some (.int .i64 y.x.r.t.a.n) := by rw [bel.cell (p := ⟨g, k * 16 + 13, none⟩) hg]; exact hz 13 _ rfl
        have z14 : wr.cell? ⟨g, k * 16 + 14, none⟩ = some (.string y.x.r.t.a.s) := by rw [bel.cell (p := ⟨g, k * 16 + 14, none⟩) hg]; exact hz 14 _ rfl
        have z15 : wr.cell? ⟨g, k * 16 + 15, none⟩ = some (.slice y.p.ra y.x.r.kids.length y.p.rc) := by rw [bel.cell (p := ⟨g, k * 16 + 15, none⟩) hg]; exact hz 15 _ rfl
        have hw1 : IntKind.i64.wrap (1048576 - m) = 1048576 - m := wrap_mid (by omega) (by omega)
        have HP : Hid (∀ u, Below w.heap.size w u → ∀ z : Int, 0 ≤ z → z ≤ 1048576 → Calls Tryd.prog 28 #[y.x.val y.p, .int .i64 z] u fun r w' => ∃ n : Int, r = .returned (.int .i64 n) ∧ Below u.heap.size u w' ∧ (0 ≤ n ∧ n ≤ z + 1) ∧ (n ≤ z → smallL d y.x)) := fun u hu z h0 h1 => by
          obtain ⟨q, rfl⟩ : ∃ q : Nat, z = q := ⟨z.toNat, by omega⟩
          exact literalPartsS_any d y.x y.p u (hXk.below hu) q (by omega)
        clear hz hXk
        unfold Lit4.val at HP
        go_wp2_with fail
        refine Calls.mono (HP.out _ bel _ (by omega) (by omega)) ?_
        rintro ee w1 ⟨n1, rfl, b1, ⟨hn0, hn1⟩, hsm⟩
        have HR1 : Hid (RL w1 w.heap.size 25 _) := RL.below HR.out b1
        have bel1 := bel.trans (b1.mono bel.size)
        have HSM : Hid _ := hsm
        have hw2 : IntKind.i64.wrap (m + n1) = m + n1 := wrap_mid (by omega) (by omega)
        clear hsm b1 bel r2 HR HP z0 z1 z2 z3 z4 z5 z6 z7 z8 z9 z10 z11 z12 z13 z14 z15
        go_wp2
        go_roundw
        case rel =>
          refine ⟨k + 1, m + n1, by omega, by go_num, rfl, by omega, by omega, bel1, HR1, fun h => ?_⟩
          rw [HTk.out]
          intro y' hy'
          rcases List.mem_append.1 hy' with h1 | h1
          · exact HS.out (by omega) y' h1
          · rw [List.mem_singleton.1 h1]; exact HSM.out (by omega)
        case measure => simp [intOf]; omega
      · have hmm' : ¬ m ≤ 1048576 := hmm
        go_wp2
        go_ret
        exact ⟨_, rfl, bel, fun h => absurd h (by omega)⟩
    · obtain rfl : k = l.length := by omega
      rw [List.take_length] at HS
      go_wp2
      go_ret
      exact ⟨_, rfl, bel, HS.out⟩
end Go.Proofs.YtkkpdhlnnjkpeaaDoor
