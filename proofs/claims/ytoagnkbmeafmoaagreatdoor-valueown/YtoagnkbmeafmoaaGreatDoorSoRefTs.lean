import Derived.Test.YtoagnkbmeafmoaaGreatDoorSoRef
namespace Go.Proofs.YtoagnkbmeafmoaaGreatDoor
open Go.RowKit Go.Maps
set_option linter.unusedVariables false
set_option linter.unusedSimpArgs false
attribute [local go_sem ↓] Go.wp_at_zero Go.wp_at_succ
attribute [-go_sem] Builtin.append_
theorem row_cellsT {W : World} {a : Option Addr} {c : Nat} {l : List XF} (h : Ls W (.slice a l.length c) l.length (l.flatMap XF.tcells)) (i : Nat) (x : XF) (hx : l[i]? = some x) : ∃ g off, a = some ⟨g, off, none⟩ ∧ ∀ u, Below W.heap.size W u → u.cell? ⟨g, off + i, none⟩ = some (.slice x.a x.vs.length x.c) := by
  obtain ⟨hi, _⟩ := List.getElem?_eq_some_iff.1 hx
  obtain ⟨_, aa, cc, hv, _, _, hfl⟩ := h
  cases hv
  obtain ⟨g1, off1, rfl, hg1, hflat⟩ := hfl (by omega)
  have hz' : l.getD i XF0 = x := by rw [List.getD, hx]; rfl
  have e0 := hflat.elem (k := 1) (f := XF.tcells) (fun _ => rfl) XF0 hi (j := 0) (by omega) (u := .slice x.a x.vs.length x.c) (by rw [hz']; rfl)
  refine ⟨g1, off1, rfl, fun u hu => ?_⟩
  rw [hu.cell (p := ⟨g1, off1 + i, none⟩) hg1]
  simpa using e0
set_option maxHeartbeats 6400000 in
set_option maxRecDepth 100000 in
theorem rtuples_small (l : List XF) (a : Option Addr) (c : Nat) (w : World) (h1 : l.length ≤ 1) (hl : Ls w (.slice a l.length c) l.length (l.flatMap XF.tcells)) (ok : ∀ y ∈ l, FIs w y) (hsm : ∀ y ∈ l, y.vs.length ≤ 1048576) :
    Calls Tryz.prog 7 #[.slice a l.length c] w fun e w' => ∃ (a' : Option Addr) (c' : Nat) (out : List XF), e = .returned (.slice a' out.length c') ∧ Below w.heap.size w w' ∧ Told (l.map XF.key) (out.map XF.key) ∧ Ls w' (.slice a' out.length c') out.length (out.flatMap XF.tcells) ∧ (∀ y ∈ out, FIs w' y) ∧ out.length ≤ l.length := by
  obtain ⟨i0, hi0, hz0, hz1, hz2⟩ := info_partsS infoTs
  obtain ⟨j0, hj0, hy0, hy1, hy2⟩ := info_partsS infoVs
  have hle : (l.length : Int) ≤ 1 := by omega
  have HL := Lib.hid hl
  have HOK := Lib.hid ok
  have HSM := Lib.hid hsm
  have HE0 := Lib.hid (eoS_nil 26 1 XF.tcells w.heap.size w)
  have HB0 := Lib.hid (Below.refl w.heap.size w)
  clear hl ok hsm
  go_enter Tryz.func7, Tryz.ntmps7
  go_wp2
  go_loopw [3, 4] (fun ov iv wr => ∃ (i : Nat) (a' : Option Addr) (c' : Nat) (out : List XF), i ≤ l.length ∧ iv = .int .i64 i ∧ ov = .slice a' out.length c' ∧ out.length ≤ i ∧ Hid (EoS 26 1 XF.tcells w.heap.size out a' c' wr) ∧ Hid (Below w.heap.size w wr) ∧ Hid (out.map XF.key = (l.take i).map XF.key)) (fun _ iv _ => l.length - (intOf iv).toNat)
  case atStart => exact ⟨0, none, 0, [], Nat.zero_le _, rfl, rfl, Nat.le_refl _, HE0, HB0, rfl⟩
  case round =>
    obtain ⟨i, a', c', out, hi, rfl, rfl, hol, HE, HB, HK⟩ := hrel
    clear HE0 HB0
    by_cases hlt : i < l.length
    · have hlt' : (i : Int) < (l.length : Int) := by omega
      have hi00 : (0 : Int) ≤ (i : Int) := by omega
      obtain ⟨y, hy⟩ : ∃ y, l[i]? = some y := ⟨l[i], List.getElem?_eq_getElem hlt⟩
      obtain ⟨g1, off1, rfl, hcl⟩ := row_cellsT HL.out i y hy
      have y0 := hcl wr HB.out
      have hYF := (HOK.out y (List.mem_of_getElem? hy)).below HB.out
      have hYS := HSM.out y (List.mem_of_getElem? hy)
      obtain ⟨v1, w1, hr1, ho1, hg1', _⟩ := run_app_ls (w := wr) (b := wr.heap.size) (v := .slice none 0 0) (n := 0) (xs := []) 26 26 69 j0 _ Tryz.underlying26 hj0 hy0 hy1 hy2 rfl (by decide) (World.ownsRow_nil _ _ _ _) hYF.vs.lies (flat_len V.cells 3 (fun _ => rfl) y.vs) (cellsV_one y.vs) (by unfold maxLen; omega) (by omega) (Nat.le_refl _)
      rw [Nat.zero_add, List.nil_append] at ho1
      obtain ⟨a2, c2, rfl, _⟩ := own_form ho1
      have b1 : Below wr.heap.size wr w1 := (Below.refl _ _).grown hg1' (Nat.le_refl _) (fun j hj => by cases hj)
      have hfr := frF_own (y := ⟨y.pr, y.vs, a2, c2⟩) hYF.pb hYF.ln hYF.vs.wf ho1
      obtain ⟨v', w6, hrun, hown', hgrow, hnilx, hloc⟩ := run_append_own_at (P := Tryz.prog) (w1.alloc (.cells #[.slice a2 y.vs.length c2] 26)) w.heap.size 25 25 26 i0 _ 1 24 Tryz.underlying25 hi0 hz0 hz1 hz2 rfl (by decide) _ _ _ (own_below (own_below HE.out.own b1) (belowA _)) ⟨_, 0, none⟩ 1 1 [.slice a2 y.vs.length c2] rfl (lit_news w1 #[.slice a2 y.vs.length c2] _) (by simp [Value.oneCell']) (by unfold maxLen; omega) (by omega) (by have h1 := HB.out.size; have h2 := b1.size; simp; omega)
      obtain ⟨a6, c6, rfl, hst, hbl⟩ := HE.out.step HB.out.size b1 ⟨y.pr, y.vs, a2, c2⟩ hfr hown' hgrow hloc
      have HST := Lib.hid hst
      have HB6 := Lib.hid (hbl HB.out)
      have HK6 : Hid ((out ++ [(⟨y.pr, y.vs, a2, c2⟩ : XF)]).map XF.key = (l.take (i + 1)).map XF.key) := by
        show _ = _
        rw [takeX hy, List.map_append, HK.out]
        rfl
      have HLn : Hid ((out ++ [(⟨y.pr, y.vs, a2, c2⟩ : XF)]).length = out.length + 1) := by show _ = _; simp
      clear hown' hgrow hnilx hloc hst hbl hfr b1 ho1 hg1' hcl hYF hYS hy HK HE HB
      go_wp2
      go_roundw
      case rel => exact ⟨i + 1, a6, c6, out ++ [(⟨y.pr, y.vs, a2, c2⟩ : XF)], by omega, by go_num, by rw [HLn.out], by rw [HLn.out]; omega, HST, HB6, HK6⟩
      case measure => simp [intOf]; omega
    · obtain rfl : i = l.length := by omega
      have HT : Hid (Told (l.map XF.key) (out.map XF.key)) := by
        have h := HK.out
        rw [List.take_length] at h
        show Told _ _
        rw [h]
        refine ⟨?_, fun _ => Iff.rfl⟩
        match l, h1 with
        | [], _ => exact List.Pairwise.nil
        | [z], _ => exact List.pairwise_singleton _ _
        | z :: z' :: r, h => exact absurd h (by simp)
      go_wp2
      go_ret
      exact ⟨a', c', out, rfl, HB.out, HT.out, ls_own HE.out.own, fun y hy => (HE.out.fr y hy).is, hol⟩
end Go.Proofs.YtoagnkbmeafmoaaGreatDoor
