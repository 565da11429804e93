import Derived.Test.YtoppgalbmijhdaaGreatDoorFtW
namespace Go.Proofs.YtoppgalbmijhdaaGreatDoor
open Go.RowKit Go.Maps
set_option linter.unusedVariables false
set_option linter.unusedSimpArgs false
attribute [local go_sem ↓] Go.wp_at_zero Go.wp_at_succ

/-- a fact, and where its list lies -/
structure XF where
  pr : ByteArray
  vs : List V
  a : Option Addr
  c : Nat
def XF.cells (y : XF) : List Value := [.string y.pr, .slice y.a y.vs.length y.c]
def XF.val (y : XF) : Value := .agg #[.string y.pr, .slice y.a y.vs.length y.c]
theorem XF.val_eq (y : XF) : Value.agg y.cells.toArray = y.val := rfl
def XF0 : XF := ⟨noS, [], none, 0⟩
def atF (l : List XF) (i : Nat) : XF := l.getD i XF0
theorem atF_eq {l : List XF} {i : Nat} (h : i < l.length) : atF l i = l[i] := by simp [atF, List.getD, List.getElem?_eq_getElem h]
theorem atF_map {n : Nat} (U : Nat → XF) {i : Nat} (h : i < n) : atF ((List.range n).map U) i = U i := by simp [atF, List.getD, h]
theorem oneCells_fact (y : XF) : (XF.cells y).toArray.all (·.oneCell') = true := by simp [XF.cells, Value.oneCell']
structure FIs (w : World) (y : XF) : Prop where
  pb : y.pr.size ≤ maxLen
  ln : y.vs.length ≤ 281474976710656
  vs : Lv w (.slice y.a y.vs.length y.c) y.vs
theorem FIs.below {w w' : World} {y : XF} (h : FIs w y) (b : Below w.heap.size w w') : FIs w' y := ⟨h.pb, h.ln, h.vs.below b⟩
structure LikeF (x y : XF) : Prop where
  pr : y.pr = x.pr
  vs : y.vs = x.vs
def TwF (w : World) (lo : Nat) (y : XF) : Prop := TwV w lo y.vs y.a y.c
theorem TwF.below {w w' : World} {lo : Nat} {y : XF} (h : TwF w lo y) (b : Below w.heap.size w w') : TwF w' lo y := TwV.below h b
theorem TwF.lower {w : World} {lo lo' : Nat} (hl : lo' ≤ lo) {y : XF} (h : TwF w lo y) : TwF w lo' y := TwV.lower hl h
theorem twF_setCells {lo b : Nat} {y : XF} (hb : b < lo) : ∀ (vs : List Value) (o : Nat) (w : World), TwF w lo y → TwF (w.setCells b o vs) lo y
  | [], _, _, h => h
  | v :: r, o, w, h => by rw [World.setCells]; exact twF_setCells hb r (o + 1) _ (TwV.set hb h)
theorem TwF.is {u w0 : World} {lo : Nat} {x y : XF} (h : TwF u lo y) (hl : LikeF x y) (h0 : FIs w0 x) (hs : x.vs.length ≤ 1048576) : FIs u y := by
  refine ⟨by rw [hl.pr]; exact h0.pb, by rw [hl.vs]; exact h0.ln, ?_⟩
  have hh : TwV u lo y.vs y.a y.c := h
  rw [hl.vs] at hh ⊢
  exact hh.lv h0.vs hs
set_option maxHeartbeats 1600000 in
theorem twinF_any (x : XF) (w : World) (hs : x.vs.length ≤ 1048576) (hF : FIs w x) :
    Calls Tryz.prog 10 #[x.val] w fun r w' => ∃ y, r = .returned y.val ∧ Below w.heap.size w w' ∧ LikeF x y ∧ TwF w' w.heap.size y := by
  obtain ⟨pr, vs, a, c⟩ := x
  have hL := hF.vs
  unfold XF.val
  dsimp only at hs hL ⊢
  have BA := (Below.refl w.heap.size w).alloc (Nat.le_refl _) (.cells #[.string pr, .slice a vs.length c] 31)
  have BB := BA.alloc BA.size (.cells #[.string ⟨#[]⟩, .slice none 0 0] 31)
  have HR0 : Hid (RL _ w.heap.size 31 [.string pr, .slice a vs.length c]) := (rl_new w #[.string pr, .slice a vs.length c] 31).below ((Below.refl _ _).alloc (Nat.le_refl _) (.cells #[.string ⟨#[]⟩, .slice none 0 0] 31))
  have HR1 : Hid (RL ((w.alloc (.cells #[.string pr, .slice a vs.length c] 31)).alloc (.cells #[.string ⟨#[]⟩, .slice none 0 0] 31)) (w.heap.size + 1) 31 [.string ⟨#[]⟩, .slice none 0 0]) := by
    have := rl_new (w.alloc (.cells #[.string pr, .slice a vs.length c] 31)) #[.string ⟨#[]⟩, .slice none 0 0] 31
    rw [World.size_alloc] at this
    exact this
  have HT : Hid _ := twinV_any _ vs _ hs (hL.below BB)
  have HBB : Hid (Below w.heap.size w _) := BB
  clear BA BB hL hF
  go_enter Tryz.func10, Tryz.ntmps10
  go_wp2_with fail
  refine Calls.mono HT.out ?_
  rintro r w1 ⟨a', rfl, b1, htw⟩
  have HA : Hid (RL w1 w.heap.size 31 [.string pr, .slice a vs.length c]) := RL.below HR0.out b1
  have HB : Hid (RL w1 (w.heap.size + 1) 31 [.string ⟨#[]⟩, .slice none 0 0]) := RL.below HR1.out b1
  have HTW : Hid (TwV w1 (w.heap.size + 2) vs a' (vs.length + 1)) := htw.lower (by simp)
  have HB1 : Hid (Below w.heap.size w w1) := HBB.out.trans (b1.mono HBB.out.size)
  have x0 := HA.out.at (j := 0) rfl
  have x1 := HA.out.at (j := 1) rfl
  have g1 := World.rowIs.frozen HA.out 1
  have y0 := HB.out.at (j := 0) rfl
  have y1 := HB.out.at (j := 1) rfl
  have f0 := World.rowIs.frozen HB.out 0
  have f1 := World.rowIs.frozen HB.out 1
  clear b1 htw HR0 HR1 HT HBB
  go_wp2
  have hF := (RL.other (i := 1) HB.out (by omega : w.heap.size + 1 ≠ w.heap.size) (.slice a' vs.length (vs.length + 1))).set 0 (.string pr) |>.set 1 (.slice a' vs.length (vs.length + 1))
  refine bodyPost_ret (rl_results Tryz.results10 (v := .agg #[.string pr, .slice a' vs.length (vs.length + 1)]) rfl (run_loadVar_mid _ _ 0 31 [.string pr, .slice a' vs.length (vs.length + 1)] _ hF.range Tryz.underlying31 rfl (by kernel_rfl))) rfl ⟨⟨pr, vs, a', vs.length + 1⟩, rfl, ?_, ⟨rfl, rfl⟩, ?_⟩
  · exact ((HB1.out.setCell (p := ⟨w.heap.size, 1, none⟩) (Nat.le_refl _) _).setCell (p := ⟨w.heap.size + 1, 0, none⟩) (by simp) _).setCell (p := ⟨w.heap.size + 1, 1, none⟩) (by simp) _
  · exact (((HTW.out.set (by omega)).set (by omega)).set (by omega)).lower (by omega)
set_option maxHeartbeats 1600000 in
theorem leftF_any (x y : XF) (lo : Nat) (w : World) (hs : x.vs.length ≤ 1048576) (hl : LikeF x y) (hW : TwF w lo y) (hF : FIs w x) :
    Calls Tryz.prog 20 #[y.val, x.val] w fun r w' => r = .returned (.bool true) ∧ Below w.heap.size w w' := by
  obtain ⟨pr0, vs0, a0, c0⟩ := x
  obtain ⟨pr, vs, a, c⟩ := y
  obtain ⟨h1, h2⟩ := hl
  dsimp only at h1 h2 hs
  subst h1 h2
  have hW' : TwV w lo vs a c := hW
  have hL : Lv w (.slice a0 vs.length c0) vs := hF.vs
  unfold XF.val
  dsimp only
  have BA := (Below.refl w.heap.size w).alloc (Nat.le_refl _) (.cells #[.string pr, .slice a vs.length c] 31)
  have BB := BA.alloc BA.size (.cells #[.string pr, .slice a0 vs.length c0] 31)
  have HL : Hid _ := leftV_any vs a a0 c c0 lo _ hs (hW'.below BB) (hL.below BB)
  have HB : Hid (Below w.heap.size w _) := BB
  have e0 : (pr.toList == pr.toList) = true := by simp
  clear hW hW' hL BA BB hF
  go_enter Tryz.func20, Tryz.ntmps20
  go_wp2_with (go_at_call 32; refine Calls.mono HL.out ?_; rintro ee w1 ⟨rfl, b1⟩)
  go_ret
  exact ⟨rfl, HB.out.trans (b1.mono HB.out.size)⟩
end Go.Proofs.YtoppgalbmijhdaaGreatDoor
