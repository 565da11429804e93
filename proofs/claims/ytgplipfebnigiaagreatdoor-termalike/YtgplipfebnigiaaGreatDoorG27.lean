import Derived.Test.YtgplipfebnigiaaGreatDoorG26
import Derived.Test.YtgplipfebnigiaaGreatDoorG23
import Derived.Test.YtgplipfebnigiaaGreatDoorG25
section
namespace Go.Proofs.YtgplipfebnigiaaGreatDoor
open Go.RowKit Go.Maps
set_option linter.unusedVariables false
set_option linter.unusedSimpArgs false

theorem LikeR.map {r s : R3} (h : LikeR r s) : s.bd.map XL.x = r.bd.map XL.x := by
  refine List.ext_getElem (by simp [h.bl]) fun i h1 h2 => ?_
  simp only [List.length_map] at h1 h2
  have := h.bd i h2
  rw [atL_eq h1, atL_eq h2] at this
  simpa using this
theorem flatX (d : Nat) (l : List XL) : l.flatMap (fun y => termsL d y.x) = (l.map XL.x).flatMap (termsL d) := by rw [List.flatMap_map]
theorem allX (l : List XL) : l.all (fun y => litB y.x) = (l.map XL.x).all litB := by rw [List.all_map]; rfl
theorem LikeR.terms {r s : R3} (h : LikeR r s) (d : Nat) : termsR d s = termsR d r := by
  unfold termsR
  rw [h.hd, flatX, flatX, h.map]
theorem LikeR.ruleB {r s : R3} (h : LikeR r s) (d : Nat) : ruleB d s = ruleB d r := by
  unfold Go.Proofs.YtgplipfebnigiaaGreatDoor.ruleB
  rw [h.terms d, h.pr, h.hd, h.bl, allX, allX, h.map]
theorem LikeR.small {r s : R3} (h : LikeR r s) {d : Nat} (hs : smallR d r) : smallR d s := by
  refine ⟨by rw [h.hd]; exact hs.hd, by rw [h.bl]; exact hs.bd, fun y hy => ?_, by rw [h.terms d]; exact hs.terms⟩
  have h1 : y.x ∈ s.bd.map XL.x := List.mem_map.2 ⟨y, hy, rfl⟩
  rw [h.map] at h1
  obtain ⟨z, hz, e⟩ := List.mem_map.1 h1
  rw [← e]
  exact hs.each z hz
theorem TwR.is {u w0 : World} {lo d : Nat} {r s : R3} {p q : RP} (h : TwR u lo d s q) (hl : LikeR r s) (h0 : RIs w0 d r p) (hs : smallR d r) : RIs u d s q := by
  have hsb : s.bd.length ≤ 1048576 := by rw [hl.bl]; exact hs.bd
  refine ⟨by rw [hl.pr]; exact h0.pb, by rw [hl.hd]; exact h0.hl, by rw [hl.bl]; exact h0.bl, ?_, ?_, fun y hy => ?_⟩
  · have hh := h.hd
    rw [hl.hd] at hh ⊢
    exact hh.la h0.hd hs.hd
  · have hb := h.bd
    have hcap := hb.cap
    obtain ⟨g, ha, _, hg, _, hk⟩ := hb.lies
    rw [ha, hcap]
    exact ls_of_range (f := XL.cells) (k := 16) (by omega) (fun _ => rfl) XL0 (by omega) (by unfold maxLen; omega) hg hk
  · obtain ⟨i, hi, rfl⟩ := List.getElem_of_mem hy
    have hir : i < r.bd.length := by rw [← hl.bl]; exact hi
    have h1 := h.bd.each i hi
    have h2 := h0.bd.at_is hir
    have h3 := hl.bd i hir
    have h4 : (atL r.bd i).x.ts.length ≤ 1048576 := by rw [atL_eq hir]; exact (hs.each _ (List.getElem_mem hir)).1
    rw [← h3] at h2 h4
    have h5 := h1.toIs h2 h4
    rw [atL_eq hi] at h5
    exact h5
end Go.Proofs.YtgplipfebnigiaaGreatDoor
end
section
namespace Go.Proofs.YtgplipfebnigiaaGreatDoor
open Go.RowKit Go.Maps
set_option linter.unusedVariables false
set_option linter.unusedSimpArgs false

/-- a rule with what takes its terms' places -/
def apR (f : T → T) (d : Nat) (r : R3) : R3 := ⟨r.pr, r.hd.map (apA f), r.bd.map (apX f d)⟩
def noR : R3 := ⟨noS, [], []⟩
def okR (s : List P) (d : Nat) (r : R3) : Bool := ruleB d r && ruleB d (apR (putT s) d r)
/-- what ApplyRule answers -/
def resR (s : List P) (d : Nat) (r : R3) : R3 := if okR s d r then apR (putT s) d r else noR
theorem termsD_apD (f : T → T) : ∀ (d : Nat) (e : E), termsD d (apD f d e) = (termsD d e).map f
  | 0, e => rfl
  | d + 1, e => by
    rw [apD_succ, termsD_succ, termsD_succ]
    show f e.t :: (e.kids.map (apD f d)).flatMap (termsD d) = _
    rw [List.flatMap_map, List.map_cons, List.map_flatMap]
    congr 1
    congr 1
    funext x
    exact termsD_apD f d x
theorem smallE_apD (f : T → T) : ∀ (d : Nat) (e : E), smallE d e → smallE d (apD f d e)
  | 0, e, _ => trivial
  | d + 1, e, h => by
    rw [apD_succ]
    have hl : (e.kids.map (apD f d)).length = e.kids.length := by simp
    refine ⟨by show (e.kids.map (apD f d)).length ≤ _; rw [hl]; exact h.1, fun i hi => ?_⟩
    have hi' : i < e.kids.length := by rw [← hl]; exact hi
    show smallE d (atE (e.kids.map (apD f d)) i)
    rw [atE_map _ hi']
    exact smallE_apD f d _ (h.2 i hi')
theorem smallL_apL (f : T → T) {d : Nat} {x : Lit4} (h : smallL d x) : smallL d (apL f d x) := by
  refine ⟨by show (x.ts.map f).length ≤ _; rw [List.length_map]; exact h.1, ⟨smallE_apD f d _ h.2.1.1, ?_⟩, smallE_apD f d _ h.2.2.1, ?_⟩
  · show (termsD d (apD f d x.l)).length ≤ _; rw [termsD_apD, List.length_map]; exact h.2.1.2
  · show (termsD d (apD f d x.r)).length ≤ _; rw [termsD_apD, List.length_map]; exact h.2.2.2
theorem termsL_apL (f : T → T) (d : Nat) (x : Lit4) : termsL d (apL f d x) = (termsL d x).map f := by
  unfold termsL apL
  simp only [List.map_append, termsD_apD]
theorem termsR_apR (f : T → T) (d : Nat) (r : R3) : termsR d (apR f d r) = (termsR d r).map f := by
  unfold termsR apR
  simp only [List.map_append, List.map_map, List.flatMap_map, List.map_flatMap]
  congr 1
  congr 1
  funext y
  exact termsL_apL f d y.x
theorem apR_small (f : T → T) {d : Nat} {r : R3} (h : smallR d r) : smallR d (apR f d r) := by
  refine ⟨by show (r.hd.map _).length ≤ _; rw [List.length_map]; exact h.hd, by show (r.bd.map _).length ≤ _; rw [List.length_map]; exact h.bd, fun y hy => ?_, by rw [termsR_apR, List.length_map]; exact h.terms⟩
  obtain ⟨z, hz, rfl⟩ := List.mem_map.1 hy
  exact smallL_apL f (h.each z hz)
theorem LikeR.of {r s : R3} (h1 : s.pr = r.pr) (h2 : s.hd = r.hd) (h3 : s.bd.map XL.x = r.bd.map XL.x) : LikeR r s := by
  have hl : s.bd.length = r.bd.length := by have := congrArg List.length h3; simpa using this
  refine ⟨h1, h2, hl, fun i hi => ?_⟩
  have e1 : (s.bd.map XL.x)[i]? = (r.bd.map XL.x)[i]? := by rw [h3]
  rw [List.getElem?_map, List.getElem?_map, List.getElem?_eq_getElem (by omega), List.getElem?_eq_getElem hi] at e1
  rw [atL_eq (by omega), atL_eq hi]
  exact Option.some.inj e1
theorem apX_map (f : T → T) (d : Nat) (l : List XL) : (l.map (apX f d)).map XL.x = (l.map XL.x).map (apL f d) := by simp [apX]
theorem like_apR {f : T → T} {d : Nat} {r : R3} {xs : List XL} (h : xs.map XL.x = r.bd.map XL.x) : LikeR (apR f d r) ⟨r.pr, r.hd.map (apA f), xs.map (apX f d)⟩ := LikeR.of rfl rfl (by show (xs.map (apX f d)).map XL.x = (r.bd.map (apX f d)).map XL.x; rw [apX_map, apX_map, h])
theorem LikeR.refl (r : R3) : LikeR r r := LikeR.of rfl rfl rfl
theorem LikeR.symm {r s : R3} (h : LikeR r s) : LikeR s r := LikeR.of h.pr.symm h.hd.symm h.map.symm
theorem LikeR.trans {r s t : R3} (h : LikeR r s) (k : LikeR s t) : LikeR r t := LikeR.of (k.pr.trans h.pr) (k.hd.trans h.hd) (k.map.trans h.map)
theorem LikeR.apR {r s : R3} (h : LikeR r s) (f : T → T) (d : Nat) : LikeR (apR f d r) (apR f d s) := LikeR.of h.pr (by show s.hd.map _ = r.hd.map _; rw [h.hd]) (by show (s.bd.map (apX f d)).map XL.x = (r.bd.map (apX f d)).map XL.x; rw [apX_map, apX_map, h.map])
theorem LikeR.okR {r s : R3} (h : LikeR r s) (ps : List P) (d : Nat) : Go.Proofs.YtgplipfebnigiaaGreatDoor.okR ps d s = Go.Proofs.YtgplipfebnigiaaGreatDoor.okR ps d r := by
  unfold Go.Proofs.YtgplipfebnigiaaGreatDoor.okR
  rw [h.ruleB d, (h.apR (putT ps) d).ruleB d]
theorem LikeR.resR {r s : R3} (h : LikeR r s) (ps : List P) (d : Nat) : LikeR (Go.Proofs.YtgplipfebnigiaaGreatDoor.resR ps d r) (Go.Proofs.YtgplipfebnigiaaGreatDoor.resR ps d s) := by
  unfold Go.Proofs.YtgplipfebnigiaaGreatDoor.resR
  rw [h.okR ps d]
  split
  · exact h.apR _ _
  · exact LikeR.refl _
theorem rl_resAB {fn : Func} {sl s2 : Nat} {ty : TypeId} (hr : fn.results = #[.cell sl ty, .tmp s2]) {W : World} {tmps : Array Value} {b : Nat} {v u : Value} (h2 : tmps.getD sl undef = .pointer (some ⟨b, 0, none⟩)) (h3 : tmps.getD s2 undef = u) (hl : (loadVar ty ⟨b, 0, none⟩).run Tryz.prog W = .ok v W) :
    (results fn tmps).run Tryz.prog W = .ok (.tuple #[v, u]) W := by
  have h2' : tmps[sl]?.getD undef = .pointer (some ⟨b, 0, none⟩) := by simpa using h2
  have h3' : tmps[s2]?.getD undef = u := by simpa using h3
  unfold results
  rw [hr]
  simp [h2', h3', asAddr, hl, Result.andThen]
theorem noR_is (w : World) (d : Nat) : RIs w d noR ⟨none, 0, none, 0⟩ :=
  ⟨by decide, Nat.zero_le _, Nat.zero_le _, ⟨⟨Nat.zero_le _, none, 0, rfl, Nat.le_refl _, Nat.zero_le _, fun h => absurd h (by simp [noR])⟩, fun t ht => by cases ht⟩, ⟨⟨Nat.zero_le _, none, 0, rfl, Nat.le_refl _, Nat.zero_le _, fun h => absurd h (by simp [noR])⟩, fun t ht => by cases ht⟩⟩
theorem putT_fun (s : List P) : res (fstP s) = putT s := funext (res_fstP s)
end Go.Proofs.YtgplipfebnigiaaGreatDoor
end
section
namespace Go.Proofs.YtgplipfebnigiaaGreatDoor
open Go.RowKit Go.Maps
set_option linter.unusedVariables false
set_option linter.unusedSimpArgs false
attribute [local go_sem ↓] Go.wp_at_zero Go.wp_at_succ

set_option maxHeartbeats 3200000 in
set_option maxRecDepth 100000 in
theorem applyRule_any (sv : Value) (s : List P) (d : Nat) (r : R3) (p : RP) (w : World) (hT : KT w) (hR : RIs w d r p) (hs : smallR d r) (hp : Lp w sv s) (hn : s.length ≤ 1048576) :
    Calls Tryz.prog 16 #[sv, r.val p] w fun e w' => ∃ r' p', e = .returned (.tuple #[r'.val p', .int .i64 (errB (okR s d r))]) ∧ Below w.heap.size w w' ∧ LikeR (resR s d r) r' ∧ RIs w' d r' p' := by
  obtain ⟨a0, c0, rfl, _, _, _⟩ := hp.form
  have HLP := Lib.hid hp
  have HT := Lib.hid hT
  have HRI := Lib.hid hR
  have HSM := Lib.hid hs
  have HOKP := Lib.hid (fstP_ok s)
  have HFW : Hid (∀ q ∈ fstP s, q.wf) := fun q hq => hp.wf q (fstP_mem q hq)
  obtain ⟨ok, hok⟩ : ∃ ok, ok = okR s d r := ⟨_, rfl⟩
  have HOK := Lib.hid hok
  rw [← hok]
  have hA1 := belowA (w := w) (.cells #[.string r.pr, .slice p.a r.hd.length p.c, .slice p.ba r.bd.length p.bc] 25)
  have hA2 := belowA (w := w.alloc (.cells #[.string r.pr, .slice p.a r.hd.length p.c, .slice p.ba r.bd.length p.bc] 25)) (.cells #[.string ⟨#[]⟩, .slice none 0 0, .slice none 0 0] 25)
  have HB0 := Lib.hid (hA1.trans (hA2.mono hA1.size))
  have HR0 := Lib.hid ((rl_new w #[.string r.pr, .slice p.a r.hd.length p.c, .slice p.ba r.bd.length p.bc] 25).below hA2)
  have hR1 := rl_new (w.alloc (.cells #[.string r.pr, .slice p.a r.hd.length p.c, .slice p.ba r.bd.length p.bc] 25)) #[.string ⟨#[]⟩, .slice none 0 0, .slice none 0 0] 25
  rw [World.size_alloc] at hR1
  have HR1 := Lib.hid hR1
  have HSZ : Hid (((w.alloc (.cells #[.string r.pr, .slice p.a r.hd.length p.c, .slice p.ba r.bd.length p.bc] 25)).alloc (.cells #[.string ⟨#[]⟩, .slice none 0 0, .slice none 0 0] 25)).heap.size = w.heap.size + 2) := by show _ = _; simp
  clear hA1 hA2 hR1 hok hp hT hR hs
  unfold R3.val
  go_enter Tryz.func16, Tryz.ntmps16
  go_upto_region 1 with fail
  generalize (w.alloc (.cells #[.string r.pr, .slice p.a r.hd.length p.c, .slice p.ba r.bd.length p.bc] 25)).alloc (.cells #[.string ⟨#[]⟩, .slice none 0 0, .slice none 0 0] 25) = W at HB0 HR0 HR1 HSZ ⊢
  have y0 := HR0.out.at (j := 0) rfl
  have y1 := HR0.out.at (j := 1) rfl
  have y2 := HR0.out.at (j := 2) rfl
  have HIR := Lib.hid (isRule_any d r p W (HT.out.below HB0.out) (HRI.out.below HB0.out) HSM.out)
  unfold R3.val at HIR
  go_wp2_with fail
  refine HIR.out.mono ?_
  rintro e w1 ⟨rfl, b1⟩
  have HB1 := Lib.hid (HB0.out.trans (b1.mono HB0.out.size))
  have HR0' := Lib.hid (HR0.out.below b1)
  have HR1' := Lib.hid (HR1.out.below b1)
  have HSZ1 : Hid (w.heap.size + 2 ≤ w1.heap.size) := by show _ ≤ _; rw [← HSZ.out]; exact b1.size
  clear HIR HR0 HR1 HB0 HSZ y0 y1 y2 b1
  cases hrb : ruleB d r
  · have HF : Hid (ok = false) := by show _ = _; rw [HOK.out]; unfold okR; rw [hrb]; rfl
    have HRES : Hid (resR s d r = noR) := by show _ = _; unfold resR; rw [← HOK.out, HF.out]; rfl
    have o0 := HR1'.out.at (j := 0) rfl
    have o1 := HR1'.out.at (j := 1) rfl
    have o2 := HR1'.out.at (j := 2) rfl
    have f0 := World.rowIs.frozen HR1'.out 0
    have f1 := World.rowIs.frozen HR1'.out 1
    have f2 := World.rowIs.frozen HR1'.out 2
    have HD1 := Lib.hid (res3_rl HR1'.out ⟨#[]⟩ (.slice none 0 0) (.slice none 0 0))
    have HD2 := Lib.hid (res3_below (g := w.heap.size + 1) HB1.out (by omega) ⟨#[]⟩ (.slice none 0 0) (.slice none 0 0))
    unfold res3 at HD1 HD2
    clear HR0' HR1' HB1 hrb
    go_wp2
    refine bodyPost_ret (rl_resAB Tryz.results16 (v := .agg #[.string ⟨#[]⟩, .slice none 0 0, .slice none 0 0]) (u := .int .i64 40) rfl rfl (run_loadVar_mid _ _ 0 25 [.string ⟨#[]⟩, .slice none 0 0, .slice none 0 0] _ HD1.out.range Tryz.underlying25 rfl (by kernel_rfl))) rfl ?_
    refine ⟨noR, ⟨none, 0, none, 0⟩, by rw [HF.out]; rfl, HD2.out, ?_, noR_is _ _⟩
    rw [HRES.out]
    exact LikeR.refl _
  · have HRB := Lib.hid hrb
    have y0 := HR0'.out.at (j := 0) rfl
    have y1 := HR0'.out.at (j := 1) rfl
    have y2 := HR0'.out.at (j := 2) rfl
    have HCR := Lib.hid (cloneRule_any d r p w1 (HRI.out.below HB1.out) HSM.out)
    unfold R3.val at HCR
    clear hrb
    go_wp2_with fail
    refine HCR.out.mono ?_
    rintro e w2 ⟨xs, q, l1, l2, rfl, hxs, b2, hAB, hBB, hnd, hlo⟩
    have hxl : r.bd.length = xs.length := by have := congrArg List.length hxs; simpa using this.symm
    rw [hxl]
    have hA3 := belowA (w := w2) (.cells #[.string r.pr, .slice q.a r.hd.length q.c, .slice q.ba xs.length q.bc] 25)
    have HW3 := Lib.hid hA3
    have HB2 := Lib.hid (HB1.out.trans (b2.mono HB1.out.size))
    have HB3 := Lib.hid (HB2.out.trans (hA3.mono HB2.out.size))
    have HQ1 := Lib.hid ((HR1'.out.below b2).below hA3)
    have HQ6 := Lib.hid (rl_new w2 #[.string r.pr, .slice q.a r.hd.length q.c, .slice q.ba xs.length q.bc] 25)
    have HSZ3 : Hid ((w2.alloc (.cells #[.string r.pr, .slice q.a r.hd.length q.c, .slice q.ba xs.length q.bc] 25)).heap.size = w2.heap.size + 1) := by show _ = _; simp
    have HSZ2 : Hid (w.heap.size + 2 ≤ w2.heap.size) := Nat.le_trans HSZ1.out b2.size
    have HLO : Hid (∀ b ∈ l1 ++ l2, w.heap.size + 2 ≤ b) := fun b hb => Nat.le_trans HSZ1.out (hlo b hb)
    have HLT : Hid (∀ b ∈ l1 ++ l2, b < w2.heap.size) := fun b hb => by
      rcases List.mem_append.1 hb with hb | hb
      · exact hAB.lt b hb
      · exact hBB.lt b hb
    have HAB := Lib.hid (hAB.keep hA3.size (fun b hb => hA3.block b (hAB.lt b hb)))
    have HBB := Lib.hid (hBB.keep hA3.size (fun b hb => hA3.block b (hBB.lt b hb)))
    have HND := Lib.hid hnd
    have HXS := Lib.hid hxs
    have HXL := Lib.hid hxl
    clear hxl hA3 hAB hBB hnd hxs hlo b2 HCR HR0' HR1' HB1 y0 y1 y2 HSZ1 HB2
    go_upto_region 4 with fail
    generalize w2.alloc (.cells #[.string r.pr, .slice q.a r.hd.length q.c, .slice q.ba xs.length q.bc] 25) = W3 at HW3 HB3 HQ1 HQ6 HSZ3 HAB HBB ⊢
    have HPL := Lib.hid (placesOf_all _ s W3 (HLP.out.below HB3.out) hn)
    go_wp2_with fail
    refine HPL.out.mono ?_
    rintro e w4 ⟨rfl, hm, b4⟩
    have HB4 := Lib.hid (HB3.out.trans (b4.mono HB3.out.size))
    have HQ1' := Lib.hid (HQ1.out.below b4)
    have HQ6' := Lib.hid (HQ6.out.below b4)
    have HSZ4 : Hid (w2.heap.size + 1 ≤ w4.heap.size) := by show _ ≤ _; rw [← HSZ3.out]; exact b4.size
    have hab := HAB.out.keep b4.size (fun b hb => b4.block b (HAB.out.lt b hb))
    have hbb := HBB.out.keep b4.size (fun b hb => b4.block b (HBB.out.lt b hb))
    have hxsm : xs.length ≤ 1048576 := by rw [← HXL.out]; exact HSM.out.bd
    have HW := Lib.hid (walkRuleP HOKP.out.nd HFW.out d w4 r.hd xs q.a q.c q.ba q.bc w2.heap.size l1 l2 hm (HQ6'.out.at (j := 1) rfl) (HQ6'.out.at (j := 2) rfl) hab hbb HND.out (fun h => Nat.lt_irrefl _ (HLT.out _ h)) (fun h => by have := HLT.out _ h; have := HSZ3.out; omega) (by have := HSM.out.hd; omega) (by omega))
    unfold putF at HW
    have hmf : ∀ (fn : Fn) (first cap : Array Value) (w : World), (Instr.makeFunc fn first cap).run Tryz.prog w = .ok (.func fn first cap) w := fun _ _ _ _ => rfl
    clear HPL HQ1 HQ6 HB3 HAB HBB hab hbb hm b4 HSZ3 hxsm
    go_wp2_with fail
    refine HW.out.mono ?_
    rintro e w5 ⟨⟨u, rfl⟩, t5, hab5, hbb5⟩
    have hB45 : Below (w.heap.size + 2) w4 w5 := ⟨t5.os, t5.tape, t5.output, t5.size, fun b hb => t5.block b (by have := HSZ4.out; have := HSZ2.out; omega) (fun h => by have := HLO.out b h; omega)⟩
    have HB5 := Lib.hid (HB4.out.trans (hB45.mono (by omega)))
    have HQ15 : Hid (RL w5 (w.heap.size + 1) 25 [.string ⟨#[]⟩, .slice none 0 0, .slice none 0 0]) := World.rowIs.of_block HQ1'.out (hB45.block _ (by omega))
    have HQ65 : Hid (RL w5 w2.heap.size 25 [.string r.pr, .slice q.a r.hd.length q.c, .slice q.ba xs.length q.bc]) := World.rowIs.of_block HQ6'.out (t5.block _ (by have := HSZ4.out; omega) (fun h => Nat.lt_irrefl _ (HLT.out _ h)))
    have HSZ5 : Hid (w2.heap.size + 1 ≤ w5.heap.size) := Nat.le_trans HSZ4.out t5.size
    have hla := hab5.la
    have hlb := hbb5.lb
    have hpb := HRI.out.pb
    obtain ⟨R, hRd⟩ : ∃ R : R3, R = ⟨r.pr, r.hd.map (apA (res (fstP s))), xs.map (apX (res (fstP s)) d)⟩ := ⟨_, rfl⟩
    have HIS : Hid (RIs w5 d R q) := by
      show RIs w5 d R q
      rw [hRd]
      exact ⟨hpb, by show (r.hd.map _).length ≤ _; rw [List.length_map]; have := HSM.out.hd; omega, by show (xs.map _).length ≤ _; rw [List.length_map, ← HXL.out]; have := HSM.out.bd; omega, hla, hlb⟩
    have HAL : Hid (∀ u : World, w5.heap.size ≤ u.heap.size → (∀ b, w.heap.size + 2 ≤ b → b < w5.heap.size → u.heap[b]? = w5.heap[b]?) → RIs u d R q) := fun u hu hk => by
      rw [hRd]
      exact ⟨hpb, by show (r.hd.map _).length ≤ _; rw [List.length_map]; have := HSM.out.hd; omega, by show (xs.map _).length ≤ _; rw [List.length_map, ← HXL.out]; have := HSM.out.bd; omega, (hab5.keep hu (fun b hb => hk b (HLO.out b (by simp [hb])) (hab5.lt b hb))).la, (hbb5.keep hu (fun b hb => hk b (HLO.out b (by simp [hb])) (hbb5.lt b hb))).lb⟩
    have HLIKE : Hid (LikeR (apR (putT s) d r) R) := by
      show LikeR _ _
      rw [hRd, putT_fun]
      exact like_apR HXS.out
    have HVAL : Hid (R.val q = .agg #[.string r.pr, .slice q.a r.hd.length q.c, .slice q.ba xs.length q.bc]) := by
      show _ = _
      rw [hRd]
      unfold R3.val
      simp only [List.length_map]
    clear hRd hla hlb hpb hab5 hbb5 t5 hB45 HW HQ1' HQ6' HB4 hmf HXS HXL HND HLO HLT
    have z0 := HQ65.out.at (j := 0) rfl
    have z1 := HQ65.out.at (j := 1) rfl
    have z2 := HQ65.out.at (j := 2) rfl
    have HI2 := Lib.hid (isRule_any d R q w5 (HT.out.below HB5.out) HIS.out (HLIKE.out.small (apR_small _ HSM.out)))
    rw [HVAL.out] at HI2
    go_wp2_with fail
    refine HI2.out.mono ?_
    rintro e w6 ⟨rfl, b6⟩
    have HB6 := Lib.hid (HB5.out.trans (b6.mono HB5.out.size))
    have HK1 := Lib.hid (HQ15.out.below b6)
    have HK6 := Lib.hid (HQ65.out.below b6)
    have HB65 := Lib.hid b6
    have HOK2 : Hid (ok = ruleB d R) := by show _ = _; rw [HOK.out, HLIKE.out.ruleB d]; unfold okR; rw [HRB.out]; rfl
    have o0 := HK1.out.at (j := 0) rfl
    have o1 := HK1.out.at (j := 1) rfl
    have o2 := HK1.out.at (j := 2) rfl
    have f0 := World.rowIs.frozen HK1.out 0
    have f1 := World.rowIs.frozen HK1.out 1
    have f2 := World.rowIs.frozen HK1.out 2
    have x0 := HK6.out.at (j := 0) rfl
    have x1 := HK6.out.at (j := 1) rfl
    have x2 := HK6.out.at (j := 2) rfl
    clear HI2 HB5 HQ15 HQ65 z0 z1 z2 b6 HIS
    cases hrb2 : ruleB d R
    · rw [hrb2] at HOK2
      have HRES : Hid (resR s d r = noR) := by show _ = _; unfold resR; rw [← HOK.out, HOK2.out]; rfl
      have HD1 := Lib.hid (res3_rl HK1.out ⟨#[]⟩ (.slice none 0 0) (.slice none 0 0))
      have HD2 := Lib.hid (res3_below (g := w.heap.size + 1) HB6.out (by omega) ⟨#[]⟩ (.slice none 0 0) (.slice none 0 0))
      unfold res3 at HD1 HD2
      clear hrb2 HK1 HK6 HB6
      go_wp2
      refine bodyPost_ret (rl_resAB Tryz.results16 (v := .agg #[.string ⟨#[]⟩, .slice none 0 0, .slice none 0 0]) (u := .int .i64 40) rfl rfl (run_loadVar_mid _ _ 0 25 [.string ⟨#[]⟩, .slice none 0 0, .slice none 0 0] _ HD1.out.range Tryz.underlying25 rfl (by kernel_rfl))) rfl ?_
      refine ⟨noR, ⟨none, 0, none, 0⟩, by rw [HOK2.out]; rfl, HD2.out, ?_, noR_is _ _⟩
      rw [HRES.out]
      exact LikeR.refl _
    · rw [hrb2] at HOK2
      have HRES : Hid (resR s d r = apR (putT s) d r) := by show _ = _; unfold resR; rw [← HOK.out, HOK2.out]; rfl
      have HD1 := Lib.hid (res3_rl HK1.out r.pr (.slice q.a r.hd.length q.c) (.slice q.ba xs.length q.bc))
      have HD2 := Lib.hid (res3_below (g := w.heap.size + 1) HB6.out (by omega) r.pr (.slice q.a r.hd.length q.c) (.slice q.ba xs.length q.bc))
      have HD3 : Hid (RIs (res3 w6 (w.heap.size + 1) r.pr (.slice q.a r.hd.length q.c) (.slice q.ba xs.length q.bc)) d R q) := by
        exact HAL.out _ (by rw [res3_size]; exact HB65.out.size) (fun b hb1 hb2 => by rw [res3_other _ _ _ _ _ (by omega)]; exact HB65.out.block b hb2)
      unfold res3 at HD1 HD2 HD3
      clear hrb2 HK1 HK6 HB6
      go_wp2
      refine bodyPost_ret (rl_resAB Tryz.results16 (v := .agg #[.string r.pr, .slice q.a r.hd.length q.c, .slice q.ba xs.length q.bc]) (u := .int .i64 0) rfl rfl (run_loadVar_mid _ _ 0 25 [.string r.pr, .slice q.a r.hd.length q.c, .slice q.ba xs.length q.bc] _ HD1.out.range Tryz.underlying25 rfl (by kernel_rfl))) rfl ?_
      refine ⟨R, q, by rw [HOK2.out]; exact congrArg (fun v => Ending.returned (.tuple #[v, .int .i64 0])) HVAL.out.symm, HD2.out, ?_, HD3.out⟩
      rw [HRES.out]
      exact HLIKE.out
end Go.Proofs.YtgplipfebnigiaaGreatDoor
end
