import Derived.Test.YtmmkpcbelofkmaaGreatDoorG18
section
namespace Go.Proofs.YtmmkpcbelofkmaaGreatDoor
open Go.RowKit Go.Maps
set_option linter.unusedVariables false
set_option linter.unusedSimpArgs false
attribute [local go_sem ↓] Go.wp_at_zero Go.wp_at_succ

set_option maxHeartbeats 3200000 in
theorem leftRule_any (d : Nat) (r s : R3) (p q : RP) (lo : Nat) (w : World) (hp : PWt w) (hl : LikeR r s) (hs : smallR d r) (hW : TwR w lo d s q) (hR : RIs w d r p) :
    Calls Tryz.prog 52 #[s.val q, r.val p] w fun e w' => e = .returned (.bool true) ∧ Below w.heap.size w w' := by
  obtain ⟨pr', hd', bd⟩ := r
  obtain ⟨pr, hd, l'⟩ := s
  obtain ⟨pa, pc, ba, bc⟩ := p
  obtain ⟨qa, qc, qb, qbc⟩ := q
  obtain ⟨h1, h2, h3, h4⟩ := hl
  dsimp only at h1 h2 h3 h4
  subst h1 h2
  unfold R3.val
  dsimp only
  rw [h3]
  have BA := (Below.refl w.heap.size w).alloc (Nat.le_refl _) (.cells #[.string pr, .slice qa hd.length qc, .slice qb bd.length qbc] 74)
  have BB := BA.alloc BA.size (.cells #[.string pr, .slice pa hd.length pc, .slice ba bd.length bc] 74)
  have HR0 : Hid (RL ((w.alloc (.cells #[.string pr, .slice qa hd.length qc, .slice qb bd.length qbc] 74)).alloc (.cells #[.string pr, .slice pa hd.length pc, .slice ba bd.length bc] 74)) w.heap.size 74 [.string pr, .slice qa hd.length qc, .slice qb bd.length qbc]) := (rl_new w #[.string pr, .slice qa hd.length qc, .slice qb bd.length qbc] 74).below ((Below.refl _ _).alloc (Nat.le_refl _) _)
  have HR1 : Hid (RL ((w.alloc (.cells #[.string pr, .slice qa hd.length qc, .slice qb bd.length qbc] 74)).alloc (.cells #[.string pr, .slice pa hd.length pc, .slice ba bd.length bc] 74)) (w.heap.size + 1) 74 [.string pr, .slice pa hd.length pc, .slice ba bd.length bc]) := by
    have := rl_new (w.alloc (.cells #[.string pr, .slice qa hd.length qc, .slice qb bd.length qbc] 74)) #[.string pr, .slice pa hd.length pc, .slice ba bd.length bc] 74
    rw [World.size_alloc] at this
    exact this
  have HA : Hid _ := leftArgs_any hd qa pa qc pc lo _ hs.hd (tab_below hp BB) (hW.hd.below BB) (hR.hd.below BB)
  have HB : Hid (∀ u, Below w.heap.size w u → Calls Tryz.prog 81 #[.slice qb bd.length qbc, .slice ba bd.length bc] u fun r w' => r = .returned (.bool true) ∧ Below u.heap.size u w') := fun u hu => leftLiterals_any d bd l' qb ba qbc bc lo u hs.bd h3 h4 hs.each (tab_below hp hu) (hW.bd.below hu) (hR.bd.below hu)
  have HBB : Hid (Below w.heap.size w _) := BB
  have e0 : (pr.toList == pr.toList) = true := by simp
  clear hp BA BB hR hW h3 h4 hs
  dsimp only at HA
  go_enter Tryz.func52, Tryz.ntmps52
  go_wp2_with fail
  refine Calls.mono HA.out ?_
  rintro ee w1 ⟨rfl, b1⟩
  have B1 : Hid (Below w.heap.size w w1) := HBB.out.trans (b1.mono HBB.out.size)
  have H0 : Hid (RL w1 w.heap.size 74 _) := RL.below HR0.out b1
  have H1 : Hid (RL w1 (w.heap.size + 1) 74 _) := RL.below HR1.out b1
  have u2 := H0.out.at (j := 2) rfl
  have v2 := H1.out.at (j := 2) rfl
  clear b1 HR0 HR1 HBB HA
  go_wp2_with fail
  refine Calls.mono (HB.out _ B1.out) ?_
  rintro ee w2 ⟨rfl, b2⟩
  go_wp2
  go_ret
  exact ⟨rfl, B1.out.trans (b2.mono B1.out.size)⟩
end Go.Proofs.YtmmkpcbelofkmaaGreatDoor
end
section
namespace Go.Proofs.YtmmkpcbelofkmaaGreatDoor
open Go.RowKit Go.Maps
set_option linter.unusedVariables false
set_option linter.unusedSimpArgs false

theorem LikeR.map {r s : R3} (h : LikeR r s) : s.bd.map XL.x = r.bd.map XL.x := by
  refine List.ext_getElem (by simp [h.bl]) fun i h1 h2 => ?_
  simp only [List.length_map] at h1 h2
  have := h.bd i h2
  rw [atL_eq h1, atL_eq h2] at this
  simpa using this
theorem flatX (d : Nat) (l : List XL) : l.flatMap (fun y => termsL d y.x) = (l.map XL.x).flatMap (termsL d) := by rw [List.flatMap_map]
theorem allX (l : List XL) : l.all (fun y => litB y.x) = (l.map XL.x).all litB := by rw [List.all_map]; rfl
theorem LikeR.terms {r s : R3} (h : LikeR r s) (d : Nat) : termsR d s = termsR d r := by
  unfold termsR
  rw [h.hd, flatX, flatX, h.map]
theorem LikeR.ruleB {r s : R3} (h : LikeR r s) (d : Nat) : ruleB d s = ruleB d r := by
  unfold Go.Proofs.YtmmkpcbelofkmaaGreatDoor.ruleB
  rw [h.terms d, h.pr, h.hd, h.bl, allX, allX, h.map]
theorem LikeR.small {r s : R3} (h : LikeR r s) {d : Nat} (hs : smallR d r) : smallR d s := by
  refine ⟨by rw [h.hd]; exact hs.hd, by rw [h.bl]; exact hs.bd, fun y hy => ?_, by rw [h.terms d]; exact hs.terms⟩
  have h1 : y.x ∈ s.bd.map XL.x := List.mem_map.2 ⟨y, hy, rfl⟩
  rw [h.map] at h1
  obtain ⟨z, hz, e⟩ := List.mem_map.1 h1
  rw [← e]
  exact hs.each z hz
theorem TwR.is {u w0 : World} {lo d : Nat} {r s : R3} {p q : RP} (h : TwR u lo d s q) (hl : LikeR r s) (h0 : RIs w0 d r p) (hs : smallR d r) : RIs u d s q := by
  have hsb : s.bd.length ≤ 1048576 := by rw [hl.bl]; exact hs.bd
  refine ⟨by rw [hl.pr]; exact h0.pb, by rw [hl.hd]; exact h0.hl, by rw [hl.bl]; exact h0.bl, ?_, ?_, fun y hy => ?_⟩
  · have hh := h.hd
    rw [hl.hd] at hh ⊢
    exact hh.la h0.hd hs.hd
  · have hb := h.bd
    have hcap := hb.cap
    obtain ⟨g, ha, _, hg, _, hk⟩ := hb.lies
    rw [ha, hcap]
    exact ls_of_range (f := XL.cells) (k := 16) (by omega) (fun _ => rfl) XL0 (by omega) (by unfold maxLen; omega) hg hk
  · obtain ⟨i, hi, rfl⟩ := List.getElem_of_mem hy
    have hir : i < r.bd.length := by rw [← hl.bl]; exact hi
    have h1 := h.bd.each i hi
    have h2 := h0.bd.at_is hir
    have h3 := hl.bd i hir
    have h4 : (atL r.bd i).x.ts.length ≤ 1048576 := by rw [atL_eq hir]; exact (hs.each _ (List.getElem_mem hir)).1
    rw [← h3] at h2 h4
    have h5 := h1.toIs h2 h4
    rw [atL_eq hi] at h5
    exact h5
end Go.Proofs.YtmmkpcbelofkmaaGreatDoor
end
