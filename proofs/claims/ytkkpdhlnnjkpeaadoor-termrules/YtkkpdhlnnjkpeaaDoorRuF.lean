import Derived.Test.YtkkpdhlnnjkpeaaDoorRuE
import Derived.Deep.RegionHeld3
namespace Go.Proofs.YtkkpdhlnnjkpeaaDoor
open Go.RowKit Go.Maps
set_option linter.unusedVariables false
set_option linter.unusedSimpArgs false
attribute [local go_sem ↓] Go.wp_at_zero Go.wp_at_succ

set_option maxHeartbeats 3200000 in
theorem leftRule_any (d : Nat) (r s : R3) (p q : RP) (lo : Nat) (w : World) (hp : PWt w) (hl : LikeR r s) (hs : smallR d r) (hW : TwR w lo d s q) (hR : RIs w d r p) :
    Calls Tryd.prog 14 #[s.val q, r.val p] w fun e w' => e = .returned (.bool true) ∧ Below w.heap.size w w' := by
  obtain ⟨pr', hd', bd⟩ := r
  obtain ⟨pr, hd, l'⟩ := s
  obtain ⟨pa, pc, ba, bc⟩ := p
  obtain ⟨qa, qc, qb, qbc⟩ := q
  obtain ⟨h1, h2, h3, h4⟩ := hl
  dsimp only at h1 h2 h3 h4
  subst h1 h2
  unfold R3.val
  dsimp only
  rw [h3]
  have BA := (Below.refl w.heap.size w).alloc (Nat.le_refl _) (.cells #[.string pr, .slice qa hd.length qc, .slice qb bd.length qbc] 25)
  have BB := BA.alloc BA.size (.cells #[.string pr, .slice pa hd.length pc, .slice ba bd.length bc] 25)
  have HR0 : Hid (RL ((w.alloc (.cells #[.string pr, .slice qa hd.length qc, .slice qb bd.length qbc] 25)).alloc (.cells #[.string pr, .slice pa hd.length pc, .slice ba bd.length bc] 25)) w.heap.size 25 [.string pr, .slice qa hd.length qc, .slice qb bd.length qbc]) := (rl_new w #[.string pr, .slice qa hd.length qc, .slice qb bd.length qbc] 25).below ((Below.refl _ _).alloc (Nat.le_refl _) _)
  have HR1 : Hid (RL ((w.alloc (.cells #[.string pr, .slice qa hd.length qc, .slice qb bd.length qbc] 25)).alloc (.cells #[.string pr, .slice pa hd.length pc, .slice ba bd.length bc] 25)) (w.heap.size + 1) 25 [.string pr, .slice pa hd.length pc, .slice ba bd.length bc]) := by
    have := rl_new (w.alloc (.cells #[.string pr, .slice qa hd.length qc, .slice qb bd.length qbc] 25)) #[.string pr, .slice pa hd.length pc, .slice ba bd.length bc] 25
    rw [World.size_alloc] at this
    exact this
  have HA : Hid _ := leftArgs_any hd qa pa qc pc lo _ hs.hd (tab_below hp BB) (hW.hd.below BB) (hR.hd.below BB)
  have HB : Hid (∀ u, Below w.heap.size w u → Calls Tryd.prog 27 #[.slice qb bd.length qbc, .slice ba bd.length bc] u fun r w' => r = .returned (.bool true) ∧ Below u.heap.size u w') := fun u hu => leftLiterals_any d bd l' qb ba qbc bc lo u hs.bd h3 h4 hs.each (tab_below hp hu) (hW.bd.below hu) (hR.bd.below hu)
  have HBB : Hid (Below w.heap.size w _) := BB
  have e0 : (pr.toList == pr.toList) = true := by simp
  clear hp BA BB hR hW h3 h4 hs
  dsimp only at HA
  go_enter Tryd.func14, Tryd.ntmps14
  go_wp2_with fail
  refine Calls.mono HA.out ?_
  rintro ee w1 ⟨rfl, b1⟩
  have B1 : Hid (Below w.heap.size w w1) := HBB.out.trans (b1.mono HBB.out.size)
  have H0 : Hid (RL w1 w.heap.size 25 _) := RL.below HR0.out b1
  have H1 : Hid (RL w1 (w.heap.size + 1) 25 _) := RL.below HR1.out b1
  have u2 := H0.out.at (j := 2) rfl
  have v2 := H1.out.at (j := 2) rfl
  clear b1 HR0 HR1 HBB HA
  go_wp2_with fail
  refine Calls.mono (HB.out _ B1.out) ?_
  rintro ee w2 ⟨rfl, b2⟩
  go_wp2
  go_ret
  exact ⟨rfl, B1.out.trans (b2.mono B1.out.size)⟩
open Go.RowKit Go.Maps
set_option linter.unusedVariables false
set_option linter.unusedSimpArgs false
attribute [local go_sem ↓] Go.wp_at_zero Go.wp_at_succ

/-- has a head no aggregate? the head as an atom -/
def headOK (l : List A5) : Bool := l.all (fun x => decide (x.g = 0))
def headP (r : R3) : ByteArray := if headOK r.hd then r.pr else noS
def headTs (r : R3) : List T := if headOK r.hd then r.hd.map A5.t else []
theorem lt_nil (w : World) : Lt w (.slice none 0 0) [] := ⟨⟨Nat.zero_le _, none, 0, rfl, Nat.le_refl _, Nat.zero_le _, fun h => absurd h (by simp)⟩, fun t ht => by simp at ht⟩
theorem rl_results2 {fn : Func} {sl s2 : Nat} {ty : TypeId} (hr : fn.results = #[.cell sl ty, .tmp s2]) {W : World} {tmps : Array Value} {b : Nat} {v u : Value} (h2 : tmps.getD sl undef = .pointer (some ⟨b, 0, none⟩)) (h3 : tmps.getD s2 undef = u) (hl : (loadVar ty ⟨b, 0, none⟩).run Tryd.prog W = .ok v W) :
    (results fn tmps).run Tryd.prog W = .ok (.tuple #[v, u]) W := by
  have h2' : tmps[sl]?.getD undef = .pointer (some ⟨b, 0, none⟩) := by simpa using h2
  have h3' : tmps[s2]?.getD undef = u := by simpa using h3
  unfold results
  rw [hr]
  simp [h2', h3', asAddr, hl, Result.andThen]
/-- what Head keeps: the rule's box, the result, the atom that grows -/
structure HSt (w : World) (R : List Value) (pr : ByteArray) (hd : List A5) (k : Nat) (a' : Option Addr) (c' : Nat) (wr : World) : Prop where
  bel : Below w.heap.size w wr
  sz : w.heap.size + 3 ≤ wr.heap.size
  r0 : RL wr w.heap.size 25 R
  r1 : RL wr (w.heap.size + 1) 30 [.string ⟨#[]⟩, .slice none 0 0]
  r2 : RL wr (w.heap.size + 2) 30 [.string pr, .slice a' k c']
  own : wr.ownsRow (w.heap.size + 3) 49 4 (.slice a' k c') k (((hd.take k).map A5.t).flatMap T.cells)
theorem HSt.keep {w : World} {R : List Value} {pr : ByteArray} {hd : List A5} {k : Nat} {a' : Option Addr} {c' : Nat} {wr wr' : World} (h : HSt w R pr hd k a' c' wr) (b : Below wr.heap.size wr wr') : HSt w R pr hd k a' c' wr' :=
  ⟨h.bel.trans (b.mono h.bel.size), Nat.le_trans h.sz b.size, h.r0.below b, h.r1.below b, h.r2.below b, own_below h.own b⟩
theorem HSt.step {w : World} {R : List Value} {pr : ByteArray} {hd : List A5} {k : Nat} {a' a2 : Option Addr} {c' c2 : Nat} {U w3 : World} {news : List Value} (h : HSt w R pr hd k a' c' U) (hT : ((hd.take (k + 1)).map A5.t).flatMap T.cells = ((hd.take k).map A5.t).flatMap T.cells ++ news)
    (hown' : w3.ownsRow (w.heap.size + 3) 49 4 (.slice a2 (k + 1) c2) (k + 1) (((hd.take k).map A5.t).flatMap T.cells ++ news)) (hgrow : U.grownBy w3 (Value.slice a' k c').ownBlock) :
    HSt w R pr hd (k + 1) a2 c2 (w3.setCell ⟨w.heap.size + 2, 1, none⟩ (.slice a2 (k + 1) c2)) ∧ w3.cell? ⟨w.heap.size + 2, 1, none⟩ = some (.slice a' k c') ∧ w3.frozen? ⟨w.heap.size + 2, 1, none⟩ = false := by
  have hlt := fun g (hg : (Value.slice a' k c').ownBlock = some g) => (h.own.lt g hg).1
  have kb : ∀ j, j < w.heap.size + 3 → w3.heap[j]? = U.heap[j]? := fun j hj => hgrow.block j (Nat.lt_of_lt_of_le hj h.sz) (fun e => by have := hlt j e.symm; omega)
  have q0 : RL w3 w.heap.size 25 R := World.rowIs.of_block h.r0 (kb _ (by omega))
  have q1 : RL w3 (w.heap.size + 1) 30 [.string ⟨#[]⟩, .slice none 0 0] := World.rowIs.of_block h.r1 (kb _ (by omega))
  have q2 : RL w3 (w.heap.size + 2) 30 [.string pr, .slice a' k c'] := World.rowIs.of_block h.r2 (kb _ (by omega))
  refine ⟨⟨?_, ?_, q0.other (by omega) _, q1.other (by omega) _, q2.set 1 _, ?_⟩, q2.at (j := 1) rfl, World.rowIs.frozen q2 1⟩
  · exact (h.bel.grown hgrow (by have := h.sz; omega) (fun j hj => by have := hlt j hj; omega)).setCell (p := ⟨w.heap.size + 2, 1, none⟩) (by simp) _
  · have h1 := h.sz
    have h2 := hgrow.size
    simp only [World.size_setCell]
    omega
  · rw [hT]
    exact own_of_block hown' (fun g hg => heap_setCell_other _ _ _ _ (by have := (hown'.lt g hg).1; show g ≠ w.heap.size + 2; omega))
theorem hst_new (w : World) (R : Array Value) (pr : ByteArray) (hd : List A5) : HSt w R.toList pr hd 0 none 0 (((w.alloc (.cells R 25)).alloc (.cells #[.string ⟨#[]⟩, .slice none 0 0] 30)).alloc (.cells #[.string pr, .slice none 0 0] 30)) := by
  have B1 : Below w.heap.size w (w.alloc (.cells R 25)) := (Below.refl _ _).alloc (Nat.le_refl _) _
  have e1 : (w.alloc (.cells R 25)).heap.size = w.heap.size + 1 := by simp
  have e2 : ((w.alloc (.cells R 25)).alloc (.cells #[.string ⟨#[]⟩, .slice none 0 0] 30)).heap.size = w.heap.size + 2 := by simp
  have r0 := rl_new w R 25
  have r1 := rl_new (w.alloc (.cells R 25)) #[.string ⟨#[]⟩, .slice none 0 0] 30
  have r2 := rl_new ((w.alloc (.cells R 25)).alloc (.cells #[.string ⟨#[]⟩, .slice none 0 0] 30)) #[.string pr, .slice none 0 0] 30
  rw [e1] at r1
  rw [e2] at r2
  have s2 := (Below.refl (w.alloc (.cells R 25)).heap.size (w.alloc (.cells R 25))).alloc (Nat.le_refl _) (.cells #[.string ⟨#[]⟩, .slice none 0 0] 30)
  have s3 := (Below.refl ((w.alloc (.cells R 25)).alloc (.cells #[.string ⟨#[]⟩, .slice none 0 0] 30)).heap.size ((w.alloc (.cells R 25)).alloc (.cells #[.string ⟨#[]⟩, .slice none 0 0] 30))).alloc (Nat.le_refl _) (.cells #[.string pr, .slice none 0 0] 30)
  refine ⟨(B1.alloc B1.size _).alloc (by simp; omega) _, by simp, (r0.below s2).below s3, r1.below s3, r2, ?_⟩
  simp only [List.take_zero, List.map_nil, List.flatMap_nil]
  exact World.ownsRow_nil _ _ _ _
set_option maxHeartbeats 6400000 in
set_option maxRecDepth 100000 in
theorem rhead_any (d : Nat) (r : R3) (p : RP) (w : World) (hR : RIs w d r p) (hs : r.hd.length ≤ 1048576) : Calls Tryd.prog 6 #[r.val p] w fun e w' => ∃ v, e = .returned (.tuple #[.agg #[.string (headP r), v], .bool (headOK r.hd)]) ∧ Lt w' v (headTs r) ∧ Below w.heap.size w w' := by
  obtain ⟨i0, hi0, hz0, hz1, hz2⟩ := info_parts infoTm
  obtain ⟨pr, hd, bd⟩ := r
  obtain ⟨pa, pc, ba, bc⟩ := p
  have h1 := hR.hd
  have HY : Hid (headOK hd = true → headP ⟨pr, hd, bd⟩ = pr ∧ headTs ⟨pr, hd, bd⟩ = hd.map A5.t) := fun h => ⟨by unfold headP; exact if_pos h, by unfold headTs; exact if_pos h⟩
  have HNN : Hid (headOK hd = false → headP ⟨pr, hd, bd⟩ = noS ∧ headTs ⟨pr, hd, bd⟩ = []) := fun h => ⟨by unfold headP; exact if_neg (by show ¬ headOK hd = true; rw [h]; simp), by unfold headTs; exact if_neg (by show ¬ headOK hd = true; rw [h]; simp)⟩
  unfold R3.val
  dsimp only at h1 hs ⊢
  obtain ⟨hb, hhb⟩ : ∃ hb, headOK hd = hb := ⟨_, rfl⟩
  have HHB : Hid _ := hhb
  rw [hhb] at HY HNN ⊢
  generalize headP ⟨pr, hd, bd⟩ = hp at HY HNN ⊢
  generalize headTs ⟨pr, hd, bd⟩ = hts at HY HNN ⊢
  clear hhb
  have HWf : Hid (∀ t ∈ hd.map A5.t, t.wf) := fun t ht => by
    obtain ⟨x, hx, rfl⟩ := List.mem_map.1 ht
    exact (h1.wf x hx).t
  obtain ⟨a1, c1, e1, hc1, hc2, hk1⟩ := h1.form
  cases e1
  have HK1 : Hid _ := hk1
  have HH0 : Hid (HSt w [.string pr, .slice pa hd.length pc, .slice ba bd.length bc] pr hd 0 none 0 (((w.alloc (.cells #[.string pr, .slice pa hd.length pc, .slice ba bd.length bc] 25)).alloc (.cells #[.string ⟨#[]⟩, .slice none 0 0] 30)).alloc (.cells #[.string pr, .slice none 0 0] 30))) := hst_new w #[.string pr, .slice pa hd.length pc, .slice ba bd.length bc] pr hd
  clear hk1 h1 hR hc1 hc2
  go_enter Tryd.func6, Tryd.ntmps6
  go_upto_region 2 with fail
  generalize ((w.alloc (.cells #[.string pr, .slice pa hd.length pc, .slice ba bd.length bc] 25)).alloc (.cells #[.string ⟨#[]⟩, .slice none 0 0] 30)).alloc (.cells #[.string pr, .slice none 0 0] 30) = W at HH0 ⊢
  have k1 := HH0.out.r0.at (j := 1) rfl
  go_wp2
  clear k1
  go_loopw [5] (fun i wr => ∃ (k : Nat) (a' : Option Addr) (c' : Nat), k ≤ hd.length ∧ i = .int .i64 k ∧ Hid (HSt w [.string pr, .slice pa hd.length pc, .slice ba bd.length bc] pr hd k a' c' wr) ∧ Hid (headOK (hd.take k) = true)) (fun i _ => hd.length - (intOf i).toNat)
  case atStart => exact ⟨0, none, 0, Nat.zero_le _, rfl, HH0, by simp [Hid, headOK]⟩
  case round =>
    obtain ⟨k, a', c', hk, rfl, HH, HA⟩ := hrel
    have r1 := HH.out.r0.at (j := 1) rfl
    have y0 := HH.out.r1.at (j := 0) rfl
    have y1 := HH.out.r1.at (j := 1) rfl
    have fy0 := World.rowIs.frozen HH.out.r1 0
    have fy1 := World.rowIs.frozen HH.out.r1 1
    have z0 := HH.out.r2.at (j := 0) rfl
    have hwl := HH.out.sz
    by_cases hlt : k < hd.length
    · have hlt' : (k : Int) < (hd.length : Int) := by omega
      have hk0 : (0 : Int) ≤ (k : Int) := by omega
      obtain ⟨g, off, rfl, hg, hT⟩ := HK1.out (by omega)
      have hrg := range_below (hT k hlt) HH.out.bel hg
      have x0 : wr.cell? ⟨g, off + k * 5, none⟩ = some (.int .i8 (atA hd k).g) := hrg 0 _ rfl
      have x1 : wr.cell? ⟨g, off + k * 5 + 1, none⟩ = some (.string (atA hd k).t.v) := hrg 1 _ rfl
      have x2 : wr.cell? ⟨g, off + k * 5 + 1 + 1, none⟩ = some (.int .i8 (atA hd k).t.a.k) := hrg 2 _ rfl
      have x3 : wr.cell? ⟨g, off + k * 5 + 1 + 2, none⟩ = some (.int .i64 (atA hd k).t.a.n) := hrg 3 _ rfl
      have x4 : wr.cell? ⟨g, off + k * 5 + 1 + 3, none⟩ = some (.string (atA hd k).t.a.s) := hrg 4 _ rfl
      have HTK : Hid (((hd.take (k + 1)).map A5.t).flatMap T.cells = ((hd.take k).map A5.t).flatMap T.cells ++ [.string (atA hd k).t.v, .int .i8 (atA hd k).t.a.k, .int .i64 (atA hd k).t.a.n, .string (atA hd k).t.a.s]) := by show _ = _; rw [takeA hlt, List.flatMap_append]; simp [T.cells]
      have HNo : Hid (¬ (atA hd k).g = 0 → headOK hd = false) := fun h => allA_not (f := fun x => decide (x.g = 0)) hlt (decide_eq_false h)
      have HYe : Hid ((atA hd k).g = 0 → headOK (hd.take (k + 1)) = true) := fun h => by
        unfold headOK
        rw [allA_take (f := fun x => decide (x.g = 0)) hlt]
        have := HA.out
        unfold headOK at this
        rw [this, decide_eq_true h]
        rfl
      obtain ⟨x, hx⟩ : ∃ x, atA hd k = x := ⟨_, rfl⟩
      rw [hx] at x0 x1 x2 x3 x4 HTK HNo HYe
      clear hx hT hrg
      by_cases e0 : x.g = 0
      · have f0 : (x.g != 0) = false := by rw [e0]; rfl
        have HAk : Hid _ := HYe.out e0
        clear e0 HNo HYe HA
        have HU : Hid (HSt w [.string pr, .slice (some ⟨g, off, none⟩) hd.length pc, .slice ba bd.length bc] pr hd k a' c' (wr.drew.alloc (.cells #[.string x.t.v, .int .i8 x.t.a.k, .int .i64 x.t.a.n, .string x.t.a.s] 49))) := (HH.out.keep (Below.refl _ _).drew).keep ((Below.refl _ _).alloc (Nat.le_refl _) _)
        have m1 := HH.out.r2.at (j := 1) rfl
        have m1b : (wr.alloc (.cells #[.string x.t.v, .int .i8 x.t.a.k, .int .i64 x.t.a.n, .string x.t.a.s] 49)).cell? ⟨w.heap.size + 2, 1, none⟩ = some (.slice a' k c') := (HH.out.r2.below ((Below.refl _ _).alloc (Nat.le_refl _) _)).at (j := 1) rfl
        have fm := World.rowIs.frozen HH.out.r2 1
        have hz4 := HH.out.sz
        have HC : Hid (∀ (j : Nat) (u : Value), ([.string x.t.v, .int .i8 x.t.a.k, .int .i64 x.t.a.n, .string x.t.a.s] : List Value)[j]? = some u → (wr.drew.alloc (.cells #[.string x.t.v, .int .i8 x.t.a.k, .int .i64 x.t.a.n, .string x.t.a.s] 49)).cell? ((⟨wr.heap.size, 0, none⟩ : Addr).add j) = some u) := lit_news wr.drew #[.string x.t.v, .int .i8 x.t.a.k, .int .i64 x.t.a.n, .string x.t.a.s] _
        have HFIN : Hid (∀ {v' : Value} {w3 : World}, w3.ownsRow (w.heap.size + 3) 49 4 v' (k + 1) (((hd.take k).map A5.t).flatMap T.cells ++ [.string x.t.v, .int .i8 x.t.a.k, .int .i64 x.t.a.n, .string x.t.a.s]) → (wr.drew.alloc (.cells #[.string x.t.v, .int .i8 x.t.a.k, .int .i64 x.t.a.n, .string x.t.a.s] 49)).grownBy w3 (Value.slice a' k c').ownBlock → ∃ a2 c2, v' = .slice a2 (k + 1) c2 ∧ HSt w [.string pr, .slice (some ⟨g, off, none⟩) hd.length pc, .slice ba bd.length bc] pr hd (k + 1) a2 c2 (w3.setCell ⟨w.heap.size + 2, 1, none⟩ (.slice a2 (k + 1) c2)) ∧ w3.cell? ⟨w.heap.size + 2, 1, none⟩ = some (.slice a' k c') ∧ w3.frozen? ⟨w.heap.size + 2, 1, none⟩ = false) := fun h1 h2 => by
          obtain ⟨a2, c2, rfl, _⟩ := own_form h1
          obtain ⟨e1, e2, e3⟩ := HSt.step HU.out HTK.out h1 h2
          exact ⟨a2, c2, rfl, e1, e2, e3⟩
        have HOWN : Hid _ := HU.out.own
        have HSZ : Hid (w.heap.size + 3 ≤ (wr.drew.alloc (.cells #[.string x.t.v, .int .i8 x.t.a.k, .int .i64 x.t.a.n, .string x.t.a.s] 49)).heap.size) := by show _ ≤ _; simp; omega
        clear HU HH y0 y1
        go_upto_region 7 with fail
        go_region_law (
          refine step_append_own rfl (.tmp 25) (.tmp 32) 28 rfl 49 i0 _ 4 48 Tryd.underlying28 hi0 hz0 hz1 hz2 rfl (by decide) (w.heap.size + 3) (.slice a' k c') k _ (by simp [Act.eval, Act.put]) HOWN.out ⟨wr.heap.size, 0, none⟩ 1 1 [.string x.t.v, .int .i8 x.t.a.k, .int .i64 x.t.a.n, .string x.t.a.s] (by simp [Act.eval, Act.put]) rfl HC.out (by simp [Value.oneCell']) (by unfold maxLen; omega) (by omega) HSZ.out ?_
          intro v' w3 hown' hgrow hloc
          obtain ⟨a2, c2, rfl, hfin, m2, f2⟩ := HFIN.out hown' hgrow
          clear hown' hgrow hloc)
        all_goals
          go_wp2
          go_roundw
          case rel => exact ⟨k + 1, a2, c2, by omega, by go_num, hfin, HAk⟩
          case measure => simp [intOf]; omega
      · have f0 : (x.g != 0) = true := by rw [bne_iff_ne]; exact e0
        have HF : Hid (hb = false ∧ hp = noS ∧ hts = []) := by have h := HHB.out.symm.trans (HNo.out e0); exact ⟨h, HNN.out h⟩
        clear e0 HNo HYe
        have HB : Hid (Below w.heap.size w wr) := HH.out.bel
        have HRz : Hid (RL wr (w.heap.size + 1) 30 [.string ⟨#[]⟩, .slice none 0 0]) := HH.out.r1
        go_wp2
        refine bodyPost_ret (rl_results2 Tryd.results6 (v := .agg #[.string ⟨#[]⟩, .slice none 0 0]) (u := .bool false) rfl rfl (run_loadVar_mid _ _ 0 30 [.string ⟨#[]⟩, .slice none 0 0] _ (RL.range ((HRz.out.set 0 (.string ⟨#[]⟩)).set 1 (.slice none 0 0))) Tryd.underlying30 rfl (by kernel_rfl))) rfl ⟨.slice none 0 0, ?_, ?_, ?_⟩
        · rw [HF.out.1, HF.out.2.1]; rfl
        · rw [HF.out.2.2]; exact lt_nil _
        · exact (HB.out.setCell (p := ⟨w.heap.size + 1, 0, none⟩) (by simp) _).setCell (p := ⟨w.heap.size + 1, 1, none⟩) (by simp) _
    · obtain rfl : k = hd.length := by omega
      rw [List.take_length] at HA
      have HE : Hid (hb = true ∧ hp = pr ∧ hts = hd.map A5.t) := by have h := HHB.out.symm.trans HA.out; exact ⟨h, HY.out h⟩
      have z1 := HH.out.r2.at (j := 1) rfl
      have HB : Hid _ := HH.out.bel
      go_wp2
      have hfin := ((HH.out.r1.set 0 (.string pr)).set 1 (.slice a' hd.length c'))
      have hown := HH.out.own
      rw [List.take_length] at hown
      refine bodyPost_ret (rl_results2 Tryd.results6 (v := .agg #[.string pr, .slice a' hd.length c']) (u := .bool true) rfl rfl (run_loadVar_mid _ _ 0 30 [.string pr, .slice a' hd.length c'] _ (RL.range hfin) Tryd.underlying30 rfl (by kernel_rfl))) rfl ⟨.slice a' hd.length c', ?_, ?_, ?_⟩
      · rw [HE.out.1, HE.out.2.1]
      · rw [HE.out.2.2]
        have ho2 : (((wr.setCell ⟨w.heap.size + 1, 0, none⟩ (.string pr)).setCell ⟨w.heap.size + 1, 1, none⟩ (.slice a' hd.length c'))).ownsRow (w.heap.size + 3) 49 4 (.slice a' hd.length c') hd.length ((hd.map A5.t).flatMap T.cells) := own_of_block hown (fun g hg => by
          have := (hown.lt g hg).1
          rw [heap_setCell_other _ _ _ _ (by show g ≠ w.heap.size + 1; omega), heap_setCell_other _ _ _ _ (by show g ≠ w.heap.size + 1; omega)])
        refine ⟨?_, HWf.out⟩
        show Ls _ _ (hd.map A5.t).length _
        rw [List.length_map]
        exact ls_own ho2
      · exact (HB.out.setCell (p := ⟨w.heap.size + 1, 0, none⟩) (by simp) _).setCell (p := ⟨w.heap.size + 1, 1, none⟩) (by simp) _
set_option maxHeartbeats 6400000 in
set_option maxRecDepth 100000 in
theorem thead_any (d : Nat) (r : R3) (p : RP) (w : World) (hR : RIs w d r p) (hs : r.hd.length ≤ 1048576) : Calls Tryd.prog 7 #[r.val p] w fun e w' => ∃ v, e = .returned (.tuple #[.agg #[.string (headP r), v], .bool (headOK r.hd)]) ∧ Lt w' v (headTs r) ∧ Below w.heap.size w w' := by
  obtain ⟨i0, hi0, hz0, hz1, hz2⟩ := info_parts infoTm
  obtain ⟨pr, hd, bd⟩ := r
  obtain ⟨pa, pc, ba, bc⟩ := p
  have h1 := hR.hd
  have HY : Hid (headOK hd = true → headP ⟨pr, hd, bd⟩ = pr ∧ headTs ⟨pr, hd, bd⟩ = hd.map A5.t) := fun h => ⟨by unfold headP; exact if_pos h, by unfold headTs; exact if_pos h⟩
  have HNN : Hid (headOK hd = false → headP ⟨pr, hd, bd⟩ = noS ∧ headTs ⟨pr, hd, bd⟩ = []) := fun h => ⟨by unfold headP; exact if_neg (by show ¬ headOK hd = true; rw [h]; simp), by unfold headTs; exact if_neg (by show ¬ headOK hd = true; rw [h]; simp)⟩
  unfold R3.val
  dsimp only at h1 hs ⊢
  obtain ⟨hb, hhb⟩ : ∃ hb, headOK hd = hb := ⟨_, rfl⟩
  have HHB : Hid _ := hhb
  rw [hhb] at HY HNN ⊢
  generalize headP ⟨pr, hd, bd⟩ = hp at HY HNN ⊢
  generalize headTs ⟨pr, hd, bd⟩ = hts at HY HNN ⊢
  clear hhb
  have HWf : Hid (∀ t ∈ hd.map A5.t, t.wf) := fun t ht => by
    obtain ⟨x, hx, rfl⟩ := List.mem_map.1 ht
    exact (h1.wf x hx).t
  obtain ⟨a1, c1, e1, hc1, hc2, hk1⟩ := h1.form
  cases e1
  have HK1 : Hid _ := hk1
  have HH0 : Hid (HSt w [.string pr, .slice pa hd.length pc, .slice ba bd.length bc] pr hd 0 none 0 (((w.alloc (.cells #[.string pr, .slice pa hd.length pc, .slice ba bd.length bc] 25)).alloc (.cells #[.string ⟨#[]⟩, .slice none 0 0] 30)).alloc (.cells #[.string pr, .slice none 0 0] 30))) := hst_new w #[.string pr, .slice pa hd.length pc, .slice ba bd.length bc] pr hd
  clear hk1 h1 hR hc1 hc2
  go_enter Tryd.func7, Tryd.ntmps7
  go_upto_region 2 with fail
  generalize ((w.alloc (.cells #[.string pr, .slice pa hd.length pc, .slice ba bd.length bc] 25)).alloc (.cells #[.string ⟨#[]⟩, .slice none 0 0] 30)).alloc (.cells #[.string pr, .slice none 0 0] 30) = W at HH0 ⊢
  have k1 := HH0.out.r0.at (j := 1) rfl
  go_wp2
  clear k1
  go_loopw [13] (fun i wr => ∃ (k : Nat) (a' : Option Addr) (c' : Nat), k ≤ hd.length ∧ i = .int .i64 k ∧ Hid (HSt w [.string pr, .slice pa hd.length pc, .slice ba bd.length bc] pr hd k a' c' wr) ∧ Hid (headOK (hd.take k) = true)) (fun i _ => hd.length - (intOf i).toNat)
  case atStart => exact ⟨0, none, 0, Nat.zero_le _, rfl, HH0, by simp [Hid, headOK]⟩
  case round =>
    obtain ⟨k, a', c', hk, rfl, HH, HA⟩ := hrel
    have r1 := HH.out.r0.at (j := 1) rfl
    have y0 := HH.out.r1.at (j := 0) rfl
    have y1 := HH.out.r1.at (j := 1) rfl
    have fy0 := World.rowIs.frozen HH.out.r1 0
    have fy1 := World.rowIs.frozen HH.out.r1 1
    have z0 := HH.out.r2.at (j := 0) rfl
    have hwl := HH.out.sz
    by_cases hlt : k < hd.length
    · have hlt' : (k : Int) < (hd.length : Int) := by omega
      have hk0 : (0 : Int) ≤ (k : Int) := by omega
      obtain ⟨g, off, rfl, hg, hT⟩ := HK1.out (by omega)
      have hrg := range_below (hT k hlt) HH.out.bel hg
      have x0 : wr.cell? ⟨g, off + k * 5, none⟩ = some (.int .i8 (atA hd k).g) := hrg 0 _ rfl
      have x1 : wr.cell? ⟨g, off + k * 5 + 1, none⟩ = some (.string (atA hd k).t.v) := hrg 1 _ rfl
      have x2 : wr.cell? ⟨g, off + k * 5 + 2, none⟩ = some (.int .i8 (atA hd k).t.a.k) := hrg 2 _ rfl
      have x3 : wr.cell? ⟨g, off + k * 5 + 3, none⟩ = some (.int .i64 (atA hd k).t.a.n) := hrg 3 _ rfl
      have x4 : wr.cell? ⟨g, off + k * 5 + 4, none⟩ = some (.string (atA hd k).t.a.s) := hrg 4 _ rfl
      have HU : Hid (HSt w [.string pr, .slice (some ⟨g, off, none⟩) hd.length pc, .slice ba bd.length bc] pr hd k a' c' ((wr.alloc (.cells #[.int .i8 (atA hd k).g, .string (atA hd k).t.v, .int .i8 (atA hd k).t.a.k, .int .i64 (atA hd k).t.a.n, .string (atA hd k).t.a.s] 51)))) := HH.out.keep ((Below.refl _ _).alloc (Nat.le_refl _) _)
      have HTK : Hid (((hd.take (k + 1)).map A5.t).flatMap T.cells = ((hd.take k).map A5.t).flatMap T.cells ++ [.string (atA hd k).t.v, .int .i8 (atA hd k).t.a.k, .int .i64 (atA hd k).t.a.n, .string (atA hd k).t.a.s]) := by show _ = _; rw [takeA hlt, List.flatMap_append]; simp [T.cells]
      have HNo : Hid (¬ (atA hd k).g = 0 → headOK hd = false) := fun h => allA_not (f := fun x => decide (x.g = 0)) hlt (decide_eq_false h)
      have HYe : Hid ((atA hd k).g = 0 → headOK (hd.take (k + 1)) = true) := fun h => by
        unfold headOK
        rw [allA_take (f := fun x => decide (x.g = 0)) hlt]
        have := HA.out
        unfold headOK at this
        rw [this, decide_eq_true h]
        rfl
      obtain ⟨x, hx⟩ : ∃ x, atA hd k = x := ⟨_, rfl⟩
      rw [hx] at x0 x1 x2 x3 x4 HTK HNo HYe HU
      clear hx hT hrg
      have HRA : Hid (RL (wr.alloc (.cells #[.int .i8 x.g, .string x.t.v, .int .i8 x.t.a.k, .int .i64 x.t.a.n, .string x.t.a.s] 51)) wr.heap.size 51 [.int .i8 x.g, .string x.t.v, .int .i8 x.t.a.k, .int .i64 x.t.a.n, .string x.t.a.s]) := rl_new wr #[.int .i8 x.g, .string x.t.v, .int .i8 x.t.a.k, .int .i64 x.t.a.n, .string x.t.a.s] 51
      clear HH
      go_upto_region 5 with fail
      generalize wr.alloc (.cells #[.int .i8 x.g, .string x.t.v, .int .i8 x.t.a.k, .int .i64 x.t.a.n, .string x.t.a.s] 51) = W4 at HU HRA ⊢
      clear x0 x1 x2 x3 x4 r1 y0 y1 fy0 fy1 z0 hwl
      have m1 := HU.out.r2.at (j := 1) rfl
      have fm := World.rowIs.frozen HU.out.r2 1
      have q0 := HRA.out.at (j := 0) rfl
      have q1 := HRA.out.at (j := 1) rfl
      have q2 := HRA.out.at (j := 2) rfl
      have q3 := HRA.out.at (j := 3) rfl
      have q4 := HRA.out.at (j := 4) rfl
      have y0 := HU.out.r1.at (j := 0) rfl
      have y1 := HU.out.r1.at (j := 1) rfl
      have fy0 := World.rowIs.frozen HU.out.r1 0
      have fy1 := World.rowIs.frozen HU.out.r1 1
      have hz4 := HU.out.sz
      by_cases e0 : x.g = 0
      · have f0 : (x.g != 0) = false := by rw [e0]; rfl
        have HAk : Hid _ := HYe.out e0
        clear e0 HNo HYe HA
        have HO4 : Hid ((W4.alloc (.cells #[.string x.t.v, .int .i8 x.t.a.k, .int .i64 x.t.a.n, .string x.t.a.s] 49)).ownsRow (w.heap.size + 3) 49 4 (.slice a' k c') k (((hd.take k).map A5.t).flatMap T.cells)) := own_below HU.out.own ((Below.refl _ _).alloc (Nat.le_refl _) _)
        go_wp2_with (at_builtin; refine wpList_append_own_at _ rfl _ _ 28 rfl (w.heap.size + 3) 49 i0 _ 4 48 Tryd.underlying28 hi0 hz0 hz1 hz2 rfl (by decide) _ _ _ rfl HO4.out ⟨_, 0, none⟩ 1 1 [.string x.t.v, .int .i8 x.t.a.k, .int .i64 x.t.a.n, .string x.t.a.s] rfl rfl (lit_news _ #[.string x.t.v, .int .i8 x.t.a.k, .int .i64 x.t.a.n, .string x.t.a.s] _) (by simp [Value.oneCell']) (by unfold maxLen; omega) (by omega) (by simp; omega) ?_; intro v' w3 hown' hgrow hnil hloc; obtain ⟨a2, c2, rfl, _⟩ := own_form hown'; obtain ⟨hfin, m2, f2⟩ := HSt.step (HU.out.keep ((Below.refl _ _).alloc (Nat.le_refl _) _)) HTK.out hown' hgrow; clear hown' hgrow hnil hloc)
        go_roundw
        case rel => exact ⟨k + 1, a2, c2, by omega, by go_num, hfin, HAk⟩
        case measure => simp [intOf]; omega
      · have f0 : (x.g != 0) = true := by rw [bne_iff_ne]; exact e0
        have HF : Hid (hb = false ∧ hp = noS ∧ hts = []) := by have h := HHB.out.symm.trans (HNo.out e0); exact ⟨h, HNN.out h⟩
        clear e0 HNo HYe
        have HB : Hid (Below w.heap.size w W4) := HU.out.bel
        have HRz : Hid (RL W4 (w.heap.size + 1) 30 [.string ⟨#[]⟩, .slice none 0 0]) := HU.out.r1
        go_wp2
        refine bodyPost_ret (rl_results2 Tryd.results7 (v := .agg #[.string ⟨#[]⟩, .slice none 0 0]) (u := .bool false) rfl rfl (run_loadVar_mid _ _ 0 30 [.string ⟨#[]⟩, .slice none 0 0] _ (RL.range ((HRz.out.set 0 (.string ⟨#[]⟩)).set 1 (.slice none 0 0))) Tryd.underlying30 rfl (by kernel_rfl))) rfl ⟨.slice none 0 0, ?_, ?_, ?_⟩
        · rw [HF.out.1, HF.out.2.1]; rfl
        · rw [HF.out.2.2]; exact lt_nil _
        · exact (HB.out.setCell (p := ⟨w.heap.size + 1, 0, none⟩) (by simp) _).setCell (p := ⟨w.heap.size + 1, 1, none⟩) (by simp) _
    · obtain rfl : k = hd.length := by omega
      rw [List.take_length] at HA
      have HE : Hid (hb = true ∧ hp = pr ∧ hts = hd.map A5.t) := by have h := HHB.out.symm.trans HA.out; exact ⟨h, HY.out h⟩
      have z1 := HH.out.r2.at (j := 1) rfl
      have HB : Hid _ := HH.out.bel
      go_wp2
      have hfin := ((HH.out.r1.set 0 (.string pr)).set 1 (.slice a' hd.length c'))
      have hown := HH.out.own
      rw [List.take_length] at hown
      refine bodyPost_ret (rl_results2 Tryd.results7 (v := .agg #[.string pr, .slice a' hd.length c']) (u := .bool true) rfl rfl (run_loadVar_mid _ _ 0 30 [.string pr, .slice a' hd.length c'] _ (RL.range hfin) Tryd.underlying30 rfl (by kernel_rfl))) rfl ⟨.slice a' hd.length c', ?_, ?_, ?_⟩
      · rw [HE.out.1, HE.out.2.1]
      · rw [HE.out.2.2]
        have ho2 : (((wr.setCell ⟨w.heap.size + 1, 0, none⟩ (.string pr)).setCell ⟨w.heap.size + 1, 1, none⟩ (.slice a' hd.length c'))).ownsRow (w.heap.size + 3) 49 4 (.slice a' hd.length c') hd.length ((hd.map A5.t).flatMap T.cells) := own_of_block hown (fun g hg => by
          have := (hown.lt g hg).1
          rw [heap_setCell_other _ _ _ _ (by show g ≠ w.heap.size + 1; omega), heap_setCell_other _ _ _ _ (by show g ≠ w.heap.size + 1; omega)])
        refine ⟨?_, HWf.out⟩
        show Ls _ _ (hd.map A5.t).length _
        rw [List.length_map]
        exact ls_own ho2
      · exact (HB.out.setCell (p := ⟨w.heap.size + 1, 0, none⟩) (by simp) _).setCell (p := ⟨w.heap.size + 1, 1, none⟩) (by simp) _
open Go.RowKit Go.Maps
set_option linter.unusedVariables false
set_option linter.unusedSimpArgs false
attribute [local go_sem ↓] Go.wp_at_zero Go.wp_at_succ

theorem LikeR.map {r s : R3} (h : LikeR r s) : s.bd.map XL.x = r.bd.map XL.x := by
  refine List.ext_getElem (by simp [h.bl]) fun i h1 h2 => ?_
  simp only [List.length_map] at h1 h2
  have := h.bd i h2
  rw [atL_eq h1, atL_eq h2] at this
  simpa using this
theorem flatX (d : Nat) (l : List XL) : l.flatMap (fun y => termsL d y.x) = (l.map XL.x).flatMap (termsL d) := by rw [List.flatMap_map]
theorem allX (l : List XL) : l.all (fun y => litB y.x) = (l.map XL.x).all litB := by rw [List.all_map]; rfl
theorem LikeR.terms {r s : R3} (h : LikeR r s) (d : Nat) : termsR d s = termsR d r := by
  unfold termsR
  rw [h.hd, flatX, flatX, h.map]
theorem LikeR.ruleB {r s : R3} (h : LikeR r s) (d : Nat) : ruleB d s = ruleB d r := by
  unfold Go.Proofs.YtkkpdhlnnjkpeaaDoor.ruleB
  rw [h.terms d, h.pr, h.hd, h.bl, allX, allX, h.map]
theorem LikeR.small {r s : R3} (h : LikeR r s) {d : Nat} (hs : smallR d r) : smallR d s := by
  refine ⟨by rw [h.hd]; exact hs.hd, by rw [h.bl]; exact hs.bd, fun y hy => ?_, by rw [h.terms d]; exact hs.terms⟩
  have h1 : y.x ∈ s.bd.map XL.x := List.mem_map.2 ⟨y, hy, rfl⟩
  rw [h.map] at h1
  obtain ⟨z, hz, e⟩ := List.mem_map.1 h1
  rw [← e]
  exact hs.each z hz
theorem LikeR.head {r s : R3} (h : LikeR r s) : headP s = headP r ∧ headTs s = headTs r ∧ headOK s.hd = headOK r.hd := by
  unfold headP headTs
  rw [h.hd, h.pr]
  exact ⟨rfl, rfl, rfl⟩
theorem TwR.is {u w0 : World} {lo d : Nat} {r s : R3} {p q : RP} (h : TwR u lo d s q) (hl : LikeR r s) (h0 : RIs w0 d r p) (hs : smallR d r) : RIs u d s q := by
  have hsb : s.bd.length ≤ 1048576 := by rw [hl.bl]; exact hs.bd
  refine ⟨by rw [hl.pr]; exact h0.pb, by rw [hl.hd]; exact h0.hl, by rw [hl.bl]; exact h0.bl, ?_, ?_, fun y hy => ?_⟩
  · have hh := h.hd
    rw [hl.hd] at hh ⊢
    exact hh.la h0.hd hs.hd
  · have hb := h.bd
    have hcap := hb.cap
    obtain ⟨g, ha, _, hg, _, hk⟩ := hb.lies
    rw [ha, hcap]
    exact ls_of_range (f := XL.cells) (k := 16) (by omega) (fun _ => rfl) XL0 (by omega) (by unfold maxLen; omega) hg hk
  · obtain ⟨i, hi, rfl⟩ := List.getElem_of_mem hy
    have hir : i < r.bd.length := by rw [← hl.bl]; exact hi
    have h1 := h.bd.each i hi
    have h2 := h0.bd.at_is hir
    have h3 := hl.bd i hir
    have h4 : (atL r.bd i).x.ts.length ≤ 1048576 := by rw [atL_eq hir]; exact (hs.each _ (List.getElem_mem hir)).1
    rw [← h3] at h2 h4
    have h5 := h1.toIs h2 h4
    rw [atL_eq hi] at h5
    exact h5
theorem load_RuleV {u : World} {b : Nat} {cs : List Value} (h : RL u b 25 cs) (hl : cs.length = 3) : (loadVar 25 ⟨b, 0, none⟩).run Tryd.prog u = .ok (.agg cs.toArray) u :=
  run_loadVar_mid u b 0 _ cs _ (RL.range h) Tryd.underlying25 rfl (by rw [hl]; kernel_rfl)
theorem load_AtomV {u : World} {b : Nat} {cs : List Value} (h : RL u b 30 cs) (hl : cs.length = 2) : (loadVar 30 ⟨b, 0, none⟩).run Tryd.prog u = .ok (.agg cs.toArray) u :=
  run_loadVar_mid u b 0 _ cs _ (RL.range h) Tryd.underlying30 rfl (by rw [hl]; kernel_rfl)
theorem next_ofR {wc u v : World} (h : Below wc.heap.size wc u) (b : Below u.heap.size u v) : Below wc.heap.size wc v := h.trans (b.mono h.size)
attribute [-go_sem] loadVar
set_option maxHeartbeats 6400000 in
theorem termRules_walk (d : Nat) (r : R3) (p : RP) (w : World) (hG : PWt w ∧ KT w) (hR : RIs w (d + 1) r p) :
    Calls Tryd.prog 3 #[r.val p] w fun e w' => e = .returned (.bool true) ∧ Below w.heap.size w w' := by
  have HBB : Hid (Below w.heap.size w (w.alloc (.cells #[.string r.pr, .slice p.a r.hd.length p.c, .slice p.ba r.bd.length p.bc] 25))) := (Below.refl w.heap.size w).alloc (Nat.le_refl _) _
  have HBY : Hid _ := beyondRule_any (d + 1) r p _ (hR.below HBB.out)
  have HRX : Hid (RL (w.alloc (.cells #[.string r.pr, .slice p.a r.hd.length p.c, .slice p.ba r.bd.length p.bc] 25)) w.heap.size 25 [.string r.pr, .slice p.a r.hd.length p.c, .slice p.ba r.bd.length p.bc]) := rl_new w #[.string r.pr, .slice p.a r.hd.length p.c, .slice p.ba r.bd.length p.bc] 25
  have HG : Hid (∀ u, Below w.heap.size w u → PWt u ∧ KT u) := fun u hu => ⟨tab_below hG.1 hu, hG.2.below hu⟩
  have HX : Hid (∀ u, Below w.heap.size w u → RIs u (d + 1) r p) := fun u hu => hR.below hu
  clear hG hR
  have hagg := @loadVar.eq_1
  unfold R3.val at HBY ⊢
  go_enter Tryd.func3, Tryd.ntmps3
  go_wp2_with fail
  refine Calls.mono HBY.out ?_
  rintro e w1 ⟨bb, rfl, b1, hsm⟩
  have B1 : Hid (Below w.heap.size w w1) := HBB.out.trans (b1.mono HBB.out.size)
  have HX1 : Hid (RL w1 w.heap.size 25 [.string r.pr, .slice p.a r.hd.length p.c, .slice p.ba r.bd.length p.bc]) := RL.below HRX.out b1
  have HSM : Hid _ := hsm
  clear hsm b1 HBY HBB HRX
  cases bb
  · as_aux_lemma =>
    have hsm2 : smallR (d + 1) r := HSM.out (by first | rfl | trivial)
    have HSL : Hid (smallR (d + 1) r) := hsm2
    clear hsm2 HSM
    have k0 := HX1.out.at (j := 0) rfl
    have k1 := HX1.out.at (j := 1) rfl
    have k2 := HX1.out.at (j := 2) rfl
    have HTW0 : Hid _ := twinRule_any (d + 1) r p w1 (HG.out _ B1.out).1 HSL.out.hd HSL.out.bd HSL.out.each (HX.out _ B1.out)
    unfold R3.val at HTW0
    go_wp2_with fail
    refine Calls.mono HTW0.out ?_
    rintro e w2 ⟨s, q, rfl, b2, hlk, htw⟩
    have B2 : Hid (Below w.heap.size w w2) := B1.out.trans (b2.mono B1.out.size)
    have HX2 : Hid (RL w2 w.heap.size 25 [.string r.pr, .slice p.a r.hd.length p.c, .slice p.ba r.bd.length p.bc]) := RL.below HX1.out b2
    have HTW : Hid (TwR w2 w1.heap.size (d + 1) s q) := htw
    have HLK : Hid _ := hlk
    clear k0 k1 k2 b2 htw HX1 HTW0 hlk
    have HB3 : Hid (Below w2.heap.size w2 (w2.alloc (.cells #[.string s.pr, .slice q.a s.hd.length q.c, .slice q.ba s.bd.length q.bc] 25))) := (Below.refl w2.heap.size w2).alloc (Nat.le_refl _) _
    have HY : Hid (RL (w2.alloc (.cells #[.string s.pr, .slice q.a s.hd.length q.c, .slice q.ba s.bd.length q.bc] 25)) w2.heap.size 25 [.string s.pr, .slice q.a s.hd.length q.c, .slice q.ba s.bd.length q.bc]) := rl_new w2 #[.string s.pr, .slice q.a s.hd.length q.c, .slice q.ba s.bd.length q.bc] 25
    go_upto_region 4 with fail
    generalize w2.alloc (.cells #[.string s.pr, .slice q.a s.hd.length q.c, .slice q.ba s.bd.length q.bc] 25) = W3 at HB3 HY ⊢
    as_aux_lemma =>
    have HX3 : Hid (RL W3 w.heap.size 25 [.string r.pr, .slice p.a r.hd.length p.c, .slice p.ba r.bd.length p.bc]) := RL.below HX2.out HB3.out
    have B3 : Hid (Below w.heap.size w W3) := B2.out.trans (HB3.out.mono B2.out.size)
    have k0 := HX3.out.at (j := 0) rfl
    have k1 := HX3.out.at (j := 1) rfl
    have k2 := HX3.out.at (j := 2) rfl
    have HHR : Hid _ := rhead_any (d + 1) r p W3 (HX.out _ B3.out) HSL.out.hd
    unfold R3.val at HHR
    generalize hhp : headP r = hp at HHR
    generalize hht : headTs r = hts at HHR
    generalize hhb : headOK r.hd = hb at HHR
    have HHE : Hid (headP s = hp ∧ headTs s = hts ∧ headOK s.hd = hb) := by
      obtain ⟨e1, e2, e3⟩ := HLK.out.head
      exact ⟨e1.trans hhp, e2.trans hht, e3.trans hhb⟩
    clear hhp hht hhb
    go_wp2_with fail
    refine Calls.mono HHR.out ?_
    rintro e w4 ⟨v4, rfl, hl4, b4⟩
    obtain ⟨va, vc, rfl, _, _, -⟩ := hl4.form
    have HL4 : Hid _ := hl4
    have HBx : Hid (Below W3.heap.size W3 (w4.alloc (.cells #[.string hp, .slice va hts.length vc] 30))) := b4.alloc b4.size _
    have HB5 : Hid (Below w4.heap.size w4 (w4.alloc (.cells #[.string hp, .slice va hts.length vc] 30))) := (Below.refl _ _).alloc (Nat.le_refl _) _
    have HZ : Hid (RL (w4.alloc (.cells #[.string hp, .slice va hts.length vc] 30)) w4.heap.size 30 [.string hp, .slice va hts.length vc]) := rl_new w4 #[.string hp, .slice va hts.length vc] 30
    clear k0 k1 k2 hl4 b4 HHR
    go_upto_region 5 with fail
    generalize w4.alloc (.cells #[.string hp, .slice va hts.length vc] 30) = W5 at HBx HB5 HZ ⊢
    as_aux_lemma =>
    have HY5 : Hid (RL W5 w2.heap.size 25 [.string s.pr, .slice q.a s.hd.length q.c, .slice q.ba s.bd.length q.bc]) := RL.below HY.out HBx.out
    have B5 : Hid (Below w2.heap.size w2 W5) := HB3.out.trans (HBx.out.mono HB3.out.size)
    have B5w : Hid (Below w.heap.size w W5) := B2.out.trans (B5.out.mono B2.out.size)
    have k0 := HY5.out.at (j := 0) rfl
    have k1 := HY5.out.at (j := 1) rfl
    have k2 := HY5.out.at (j := 2) rfl
    have HHT : Hid _ := thead_any (d + 1) s q W5 ((HTW.out.below B5.out).is HLK.out (HX.out _ B5w.out) HSL.out) (HLK.out.small HSL.out).hd
    unfold R3.val at HHT
    rw [HHE.out.1, HHE.out.2.1, HHE.out.2.2] at HHT
    go_wp2_with fail
    refine Calls.mono HHT.out ?_
    rintro e w6 ⟨v6, rfl, hl6, b6⟩
    obtain ⟨ua, uc, rfl, _, _, -⟩ := hl6.form
    have HL6 : Hid _ := hl6
    have HBy : Hid (Below W5.heap.size W5 (w6.alloc (.cells #[.string hp, .slice ua hts.length uc] 30))) := b6.alloc b6.size _
    have HB7 : Hid (Below w6.heap.size w6 (w6.alloc (.cells #[.string hp, .slice ua hts.length uc] 30))) := (Below.refl _ _).alloc (Nat.le_refl _) _
    have HV : Hid (RL (w6.alloc (.cells #[.string hp, .slice ua hts.length uc] 30)) w6.heap.size 30 [.string hp, .slice ua hts.length uc]) := rl_new w6 #[.string hp, .slice ua hts.length uc] 30
    clear k0 k1 k2 hl6 b6 HHT
    go_upto_region 6 with fail
    generalize w6.alloc (.cells #[.string hp, .slice ua hts.length uc] 30) = W at HBy HB7 HV ⊢
    as_aux_lemma =>
    have HC : Hid (∀ u, Below W.heap.size W u → Below W5.heap.size W5 u ∧ Below w2.heap.size w2 u ∧ Below w.heap.size w u) := fun u hu => by
      have h5 := HBy.out.trans (hu.mono HBy.out.size)
      have h2 := B5.out.trans (h5.mono B5.out.size)
      exact ⟨h5, h2, B2.out.trans (h2.mono B2.out.size)⟩
    have HRu : Hid (∀ u, Below W.heap.size W u → RIs u (d + 1) r p) := fun u hu => HX.out _ (HC.out u hu).2.2
    have HRt : Hid (∀ u, Below W.heap.size W u → RIs u (d + 1) s q) := fun u hu => (HTW.out.below (HC.out u hu).2.1).is HLK.out (HRu.out u hu) HSL.out
    obtain ⟨n0, hn0⟩ : ∃ n0, errB (ruleB (d + 1) r) = n0 := ⟨_, rfl⟩
    obtain ⟨ns, hns⟩ : ∃ ns, vsT [] (termsR (d + 1) r) = ns := ⟨_, rfl⟩
    have HK1 : Hid (∀ u, Below W.heap.size W u → Calls Tryd.prog 8 #[s.val q] u fun r w' => r = .returned (.int .i64 n0) ∧ Below u.heap.size u w') := fun u hu => by
      have := checkRule_any (d + 1) s q u (HG.out _ (HC.out u hu).2.2).2 (HRt.out u hu) (HLK.out.small HSL.out)
      rw [HLK.out.ruleB, hn0] at this
      exact this
    have HK2 : Hid (∀ u, Below W.heap.size W u → Calls Tryd.prog 9 #[r.val p] u fun r w' => r = .returned (.int .i64 n0) ∧ Below u.heap.size u w') := fun u hu => by
      have := rcheckRule_any (d + 1) r p u (HRu.out u hu) HSL.out
      rw [hn0] at this
      exact this
    have HK3 : Hid (∀ u, Below W.heap.size W u → Calls Tryd.prog 11 #[s.val q] u fun r w' => ∃ sv, r = .returned sv ∧ Ls w' sv ns.length (ns.flatMap strB) ∧ Below u.heap.size u w') := fun u hu => by
      have := vruleVars_any (d + 1) s q u (HRt.out u hu) (by rw [HLK.out.terms]; have := HSL.out.terms; omega)
      rw [HLK.out.terms, hns] at this
      exact this
    have HK4 : Hid (∀ u, Below W.heap.size W u → Calls Tryd.prog 12 #[r.val p] u fun r w' => ∃ sv, r = .returned sv ∧ Ls w' sv ns.length (ns.flatMap strB) ∧ Below u.heap.size u w') := fun u hu => by
      have := rruleVars_any (d + 1) r p u (HRu.out u hu) HSL.out.terms
      rw [hns] at this
      exact this
    have HK7 : Hid (∀ u, Below W.heap.size W u → Calls Tryd.prog 14 #[s.val q, r.val p] u fun r w' => r = .returned (.bool true) ∧ Below u.heap.size u w') := fun u hu => leftRule_any (d + 1) r s p q w1.heap.size u (HG.out _ (HC.out u hu).2.2).1 HLK.out HSL.out (HTW.out.below (HC.out u hu).2.1) (HRu.out u hu)
    have HK8 : Hid (∀ u, Below W.heap.size W u → Calls Tryd.prog 13 #[.agg #[.string hp, .slice ua hts.length uc], .agg #[.string hp, .slice va hts.length vc]] u fun r w' => r = .returned (.bool true) ∧ Below u.heap.size u w') := fun u hu => sameAtom_same hp hts _ _ u (HL6.out.below (HB7.out.trans (hu.mono HB7.out.size))) (HL4.out.below (HB5.out.trans ((HC.out u hu).1.mono HB5.out.size)))
    have HLY : ∀ u, Below W.heap.size W u → (loadVar 25 ⟨w2.heap.size, 0, none⟩).run Tryd.prog u = .ok (s.val q) u := fun u hu => load_RuleV (RL.below HY5.out (HC.out u hu).1) rfl
    have HLX : ∀ u, Below W.heap.size W u → (loadVar 25 ⟨w.heap.size, 0, none⟩).run Tryd.prog u = .ok (r.val p) u := fun u hu => load_RuleV (RL.below HX2.out (HC.out u hu).2.1) rfl
    have HLZ : ∀ u, Below W.heap.size W u → (loadVar 30 ⟨w4.heap.size, 0, none⟩).run Tryd.prog u = .ok (.agg #[.string hp, .slice va hts.length vc]) u := fun u hu => load_AtomV (RL.below HZ.out (HC.out u hu).1) rfl
    have HLV : ∀ u, Below W.heap.size W u → (loadVar 30 ⟨w6.heap.size, 0, none⟩).run Tryd.prog u = .ok (.agg #[.string hp, .slice ua hts.length uc]) u := fun u hu => load_AtomV (RL.below HV.out hu) rfl
    have hvp : Value.agg #[.string r.pr, .slice p.a r.hd.length p.c, .slice p.ba r.bd.length p.bc] = r.val p := rfl
    have hvq : Value.agg #[.string s.pr, .slice q.a s.hd.length q.c, .slice q.ba s.bd.length q.bc] = s.val q := rfl
    rw [hvp, hvq]
    clear hvp hvq
    generalize s.val q = QV at HK1 HK3 HK7 HLY ⊢
    generalize r.val p = PV at HK2 HK4 HK7 HLX ⊢
    generalize Value.agg #[.string hp, .slice va hts.length vc] = ZV at HK8 HLZ ⊢
    generalize Value.agg #[.string hp, .slice ua hts.length uc] = VV at HK8 HLV ⊢
    have hB0 : Below W.heap.size W W.drew := (Below.refl _ _).drew
    have HEND : Hid (∀ u, Below W.heap.size W u → Below w.heap.size w u) := fun u hu => (HC.out u hu).2.2
    have hbb : (hb == hb) = true := by simp
    clear HX2 HX3 HY HY5 HTW HB3 B2 B3 B5 B5w hn0 hns HRu HRt HG HX HSL B1 HC HZ HV HBx HBy HB5 HB7 HL4 HL6 HHE HLK
    clear hagg
    as_aux_lemma =>
    go_region_held3 (fun u => Below W.heap.size W u)
      (first
        | assumption
        | exact hB0)
      (first
        | (go_at_call 8; refine Calls.mono (HK1.out _ (by assumption)) ?_; rintro ee w13 ⟨rfl, b3⟩; have b3' := next_ofR (wc := W) (by assumption) b3)
        | (go_at_call 9; refine Calls.mono (HK2.out _ (by assumption)) ?_; rintro ee w14 ⟨rfl, b4⟩; have b4' := next_ofR (wc := W) (by assumption) b4)
        | (go_at_call 11; refine Calls.mono (HK3.out _ (by assumption)) ?_; rintro ee w15 ⟨sv5, rfl, hs5, b5⟩; have b5' := next_ofR (wc := W) (by assumption) b5; have HS5 : Hid (∀ u, Below w15.heap.size w15 u → Ls u sv5 ns.length (ns.flatMap strB)) := fun u hu => hs5.below hu; clear hs5)
        | (go_at_call 12; refine Calls.mono (HK4.out _ (by assumption)) ?_; rintro ee w16 ⟨sv6, rfl, hs6, b6⟩; have b6' := next_ofR (wc := W) (by assumption) b6; have HSM : Hid _ := sameTexts_same sv5 sv6 ns w16 (HS5.out _ b6) hs6; clear hs6)
        | (go_at_call 10; refine Calls.mono HSM.out ?_; rintro ee w17 ⟨rfl, b7⟩; have b7' := next_ofR (wc := W) (by assumption) b7)
        | (go_at_call 13; refine Calls.mono (HK8.out _ (by assumption)) ?_; rintro ee w18 ⟨rfl, b8⟩; have b8' := next_ofR (wc := W) (by assumption) b8)
        | (go_at_call 14; refine Calls.mono (HK7.out _ (by assumption)) ?_; rintro ee w20 ⟨rfl, b10⟩; have b10' := next_ofR (wc := W) (by assumption) b10)
        | fail)
    go_wp2
    go_ret
    exact ⟨rfl, HEND.out _ (by assumption)⟩
  · go_wp2
    go_ret
    exact ⟨rfl, B1.out⟩
end Go.Proofs.YtkkpdhlnnjkpeaaDoor
