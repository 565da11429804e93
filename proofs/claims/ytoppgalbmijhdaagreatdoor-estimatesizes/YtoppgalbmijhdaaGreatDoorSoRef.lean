import Derived.Test.YtoppgalbmijhdaaGreatDoorSoOnceT
namespace Go.Proofs.YtoppgalbmijhdaaGreatDoor
open Go.RowKit Go.Maps
set_option linter.unusedVariables false
set_option linter.unusedSimpArgs false
attribute [local go_sem ↓] Go.wp_at_zero Go.wp_at_succ
attribute [-go_sem] Builtin.append_

theorem rcf (x y : XF) (w : World) (hx : FIs w x) (hy : FIs w y) :
    Calls Tryz.prog 25 #[.agg #[.string x.pr, .slice x.a x.vs.length x.c], .agg #[.string y.pr, .slice y.a y.vs.length y.c]] w fun e w' => e = .returned (.int .i64 (ko x.key y.key)) ∧ Below w.heap.size w w' := by
  refine (AR.rcompareFacts_any _ _ _ _ _ _ _ _ _ _ _ _ w (lv_lst hx.vs) (lv_lst hy.vs)).mono fun e w' ⟨he, hb⟩ => ⟨?_, hb⟩
  have := AR.tupC_TT x.vs.length y.vs.length (fun i => cmpV (kV x.vs i) (nV x.vs i) (sV x.vs i) (kV y.vs i) (nV y.vs i) (sV y.vs i)) 0
  simp only [Nat.add_zero] at this
  rw [he, this]
  rfl
theorem rct (x y : XF) (w : World) (hx : FIs w x) (hy : FIs w y) (px : x.pr = noS) (py : y.pr = noS) :
    Calls Tryz.prog 35 #[.slice x.a x.vs.length x.c, .slice y.a y.vs.length y.c] w fun e w' => e = .returned (.int .i64 (ko x.key y.key)) ∧ Below w.heap.size w w' := by
  refine (AR.rcompareTuples_any _ _ _ _ _ _ _ _ _ _ w (lv_lst hx.vs) (lv_lst hy.vs)).mono fun e w' ⟨he, hb⟩ => ⟨?_, hb⟩
  have := AR.tupC_TT x.vs.length y.vs.length (fun i => cmpV (kV x.vs i) (nV x.vs i) (sV x.vs i) (kV y.vs i) (nV y.vs i) (sV y.vs i)) 0
  simp only [Nat.add_zero] at this
  rw [he, this, ← ko_tc px py]
  rfl
theorem flat_app {w : World} {g off : Nat} {xs ys : List Value} (h : Flat w g off (xs ++ ys)) : Flat w g off xs ∧ Flat w g (off + xs.length) ys := by
  refine ⟨fun i hi => ?_, fun i hi => ?_⟩
  · have := h i (by rw [List.length_append]; omega)
    rw [List.getElem_append_left hi] at this
    exact this
  · have := h (xs.length + i) (by rw [List.length_append]; omega)
    rw [List.getElem_append_right (by omega)] at this
    rw [Nat.add_assoc, this]
    congr 1
    simp
/-- a list cut in two -/
theorem ls_cut {w : World} {a : Option Addr} {c k : Nat} {f : XF → List Value} (hk : ∀ x, (f x).length = k) {l : List XF} {h : Nat} (h0 : 0 < h) (h1 : h < l.length) (hl : Ls w (.slice a l.length c) l.length (l.flatMap f)) :
    ∃ g off, a = some ⟨g, off, none⟩ ∧ l.length ≤ c ∧ c ≤ maxLen ∧ Ls w (.slice (some ⟨g, off, none⟩) h c) (l.take h).length ((l.take h).flatMap f) ∧ Ls w (.slice (some ⟨g, off + h * k, none⟩) (l.length - h) (c - h)) (l.drop h).length ((l.drop h).flatMap f) := by
  obtain ⟨hn, a', c', hv, hc1, hc2, hc⟩ := hl
  cases hv
  obtain ⟨g, off, rfl, hg, hf⟩ := hc (by omega)
  have e : l.flatMap f = (l.take h).flatMap f ++ (l.drop h).flatMap f := by rw [← List.flatMap_append, List.take_append_drop]
  rw [e] at hf
  obtain ⟨f1, f2⟩ := flat_app hf
  have lt : (l.take h).length = h := by rw [List.length_take]; omega
  have ld : (l.drop h).length = l.length - h := List.length_drop
  rw [flat_len f k hk, lt] at f2
  refine ⟨g, off, rfl, hc1, hc2, ⟨by omega, _, c, by rw [lt], by omega, hc2, fun _ => ⟨g, off, rfl, hg, f1⟩⟩, ⟨by omega, _, c - h, by rw [ld], by omega, by omega, fun _ => ⟨g, off + h * k, rfl, hg, f2⟩⟩⟩
set_option maxHeartbeats 6400000 in
set_option maxRecDepth 100000 in
theorem rfacts_small (l : List XF) (a : Option Addr) (c : Nat) (w : World) (h1 : l.length ≤ 1) (hl : Ls w (.slice a l.length c) l.length (l.flatMap XF.cells)) (ok : ∀ y ∈ l, FIs w y) (hsm : ∀ y ∈ l, y.vs.length ≤ 1048576) :
    Calls Tryz.prog 12 #[.slice a l.length c] w fun e w' => ∃ (a' : Option Addr) (c' : Nat) (out : List XF), e = .returned (.slice a' out.length c') ∧ Below w.heap.size w w' ∧ Told (l.map XF.key) (out.map XF.key) ∧ Ls w' (.slice a' out.length c') out.length (out.flatMap XF.cells) ∧ (∀ y ∈ out, FIs w' y) ∧ out.length ≤ l.length := by
  obtain ⟨i0, hi0, hz0, hz1, hz2⟩ := info_partsS infoFs
  obtain ⟨j0, hj0, hy0, hy1, hy2⟩ := info_partsS infoVs
  have hle : (l.length : Int) ≤ 1 := by omega
  have HL := Lib.hid hl
  have HOK := Lib.hid ok
  have HSM := Lib.hid hsm
  have HE0 := Lib.hid (eoS_nil 31 2 XF.cells w.heap.size w)
  have HB0 := Lib.hid (Below.refl w.heap.size w)
  clear hl ok hsm
  go_enter Tryz.func12, Tryz.ntmps12
  go_wp2
  go_loopw [3, 4] (fun ov iv wr => ∃ (i : Nat) (a' : Option Addr) (c' : Nat) (out : List XF), i ≤ l.length ∧ iv = .int .i64 i ∧ ov = .slice a' out.length c' ∧ out.length ≤ i ∧ Hid (EoS 31 2 XF.cells w.heap.size out a' c' wr) ∧ Hid (Below w.heap.size w wr) ∧ Hid (out.map XF.key = (l.take i).map XF.key)) (fun _ iv _ => l.length - (intOf iv).toNat)
  case atStart => exact ⟨0, none, 0, [], Nat.zero_le _, rfl, rfl, Nat.le_refl _, HE0, HB0, rfl⟩
  case round =>
    obtain ⟨i, a', c', out, hi, rfl, rfl, hol, HE, HB, HK⟩ := hrel
    clear HE0 HB0
    by_cases hlt : i < l.length
    · have hlt' : (i : Int) < (l.length : Int) := by omega
      have hi00 : (0 : Int) ≤ (i : Int) := by omega
      obtain ⟨y, hy⟩ : ∃ y, l[i]? = some y := ⟨l[i], List.getElem?_eq_getElem hlt⟩
      obtain ⟨_, aa, cc, hv, _, _, hfl⟩ := HL.out
      cases hv
      obtain ⟨g1, off1, rfl, hg1, hflat⟩ := hfl (by omega)
      have hz' : l.getD i XF0 = y := by rw [List.getD, hy]; rfl
      have e0 := hflat.elem (k := 2) (f := XF.cells) (fun _ => rfl) XF0 hlt (j := 0) (by omega) (u := .string y.pr) (by rw [hz']; rfl)
      have e1 := hflat.elem (k := 2) (f := XF.cells) (fun _ => rfl) XF0 hlt (j := 1) (by omega) (u := .slice y.a y.vs.length y.c) (by rw [hz']; rfl)
      have HBD := Lib.hid HB.out.drew
      have y0 : wr.drew.cell? ⟨g1, off1 + i * 2, none⟩ = some (.string y.pr) := by rw [HBD.out.cell (p := ⟨g1, off1 + i * 2, none⟩) hg1]; exact e0
      have y1 : wr.drew.cell? ⟨g1, off1 + i * 2 + 1, none⟩ = some (.slice y.a y.vs.length y.c) := by rw [HBD.out.cell (p := ⟨g1, off1 + i * 2 + 1, none⟩) hg1, Nat.add_assoc]; exact e1
      have hYF := (HOK.out y (List.mem_of_getElem? hy)).below HBD.out
      have hYS := HSM.out y (List.mem_of_getElem? hy)
      have HED := Lib.hid (HE.out.keep (Below.refl wr.heap.size wr).drew)
      obtain ⟨v1, w1, hr1, ho1, hg1', _⟩ := run_app_ls (w := wr.drew) (b := wr.drew.heap.size) (v := .slice none 0 0) (n := 0) (xs := []) 29 29 55 j0 _ Tryz.underlying29 hj0 hy0 hy1 hy2 rfl (by decide) (World.ownsRow_nil _ _ _ _) hYF.vs.lies (flat_len V.cells 3 (fun _ => rfl) y.vs) (cellsV_one y.vs) (by unfold maxLen; omega) (by omega) (Nat.le_refl _)
      rw [Nat.zero_add, List.nil_append] at ho1
      obtain ⟨a2, c2, rfl, _⟩ := own_form ho1
      have b1 : Below wr.drew.heap.size wr.drew w1 := (Below.refl _ _).grown hg1' (Nat.le_refl _) (fun j hj => by cases hj)
      have z0 : w1.cell? ⟨g1, off1 + i * 2, none⟩ = some (.string y.pr) := by rw [(HBD.out.trans (b1.mono HBD.out.size)).cell (p := ⟨g1, off1 + i * 2, none⟩) hg1]; exact e0
      have hfr := frF_own (y := ⟨y.pr, y.vs, a2, c2⟩) hYF.pb hYF.ln hYF.vs.wf ho1
      obtain ⟨v', w6, hrun, hown', hgrow, hnilx, hloc⟩ := run_append_own_at (P := Tryz.prog) (w1.alloc (.cells #[.string y.pr, .slice a2 y.vs.length c2] 31)) w.heap.size 22 22 31 i0 _ 2 40 Tryz.underlying22 hi0 hz0 hz1 hz2 rfl (by decide) _ _ _ (own_below (own_below HED.out.own b1) (belowA _)) ⟨_, 0, none⟩ 1 1 [.string y.pr, .slice a2 y.vs.length c2] rfl (lit_news w1 #[.string y.pr, .slice a2 y.vs.length c2] _) (by simp [Value.oneCell']) (by unfold maxLen; omega) (by omega) (by have h1 := HBD.out.size; have h2 := b1.size; simp; omega)
      obtain ⟨a6, c6, rfl, hst, hbl⟩ := HED.out.step HBD.out.size b1 ⟨y.pr, y.vs, a2, c2⟩ hfr hown' hgrow hloc
      have HST := Lib.hid hst
      have HB6 := Lib.hid (hbl HBD.out)
      have HK6 : Hid ((out ++ [(⟨y.pr, y.vs, a2, c2⟩ : XF)]).map XF.key = (l.take (i + 1)).map XF.key) := by
        show _ = _
        rw [takeX hy, List.map_append, HK.out]
        rfl
      have HLn : Hid ((out ++ [(⟨y.pr, y.vs, a2, c2⟩ : XF)]).length = out.length + 1) := by show _ = _; simp
      clear hown' hgrow hnilx hloc hst hbl hfr b1 ho1 hg1' hflat hfl e0 e1 hYF hYS hz' hy HK HE HB
      go_wp2_with fail
      go_region
      all_goals
        go_wp2
        go_roundw
        case rel => exact ⟨i + 1, a6, c6, out ++ [(⟨y.pr, y.vs, a2, c2⟩ : XF)], by omega, by go_num, by rw [HLn.out], by rw [HLn.out]; omega, HST, HB6, HK6⟩
        case measure => simp [intOf]; omega
    · obtain rfl : i = l.length := by omega
      have HT : Hid (Told (l.map XF.key) (out.map XF.key)) := by
        have h := HK.out
        rw [List.take_length] at h
        show Told _ _
        rw [h]
        refine ⟨?_, fun _ => Iff.rfl⟩
        match l, h1 with
        | [], _ => exact List.Pairwise.nil
        | [z], _ => exact List.pairwise_singleton _ _
        | z :: z' :: r, h => exact absurd h (by simp)
      go_wp2
      go_ret
      exact ⟨a', c', out, rfl, HB.out, HT.out, ls_own HE.out.own, fun y hy => (HE.out.fr y hy).is, hol⟩
theorem mrgL {A B : List XF} {i k : Nat} {out : List XF} (h : Mrg (A.map XF.key) (B.map XF.key) i k (out.map XF.key)) (hA : (A.map XF.key).Pairwise kl) (hB : (B.map XF.key).Pairwise kl) {x : XF} (hx : A[i]? = some x) (hlt : ∀ y, B[k]? = some y → kl x.key y.key) : Mrg (A.map XF.key) (B.map XF.key) (i + 1) k ((out ++ [x]).map XF.key) := by
  obtain ⟨hi, rfl⟩ := List.getElem?_eq_some_iff.1 hx
  have := h.left hA hB (by rw [List.length_map]; exact hi) (fun hk => by
    rw [List.length_map] at hk
    rw [List.getElem_map, List.getElem_map]
    exact hlt _ (List.getElem?_eq_getElem hk))
  rw [List.getElem_map] at this
  rw [List.map_append]
  exact this
theorem mrgR {A B : List XF} {i k : Nat} {out : List XF} (h : Mrg (A.map XF.key) (B.map XF.key) i k (out.map XF.key)) (hA : (A.map XF.key).Pairwise kl) (hB : (B.map XF.key).Pairwise kl) {x : XF} (hx : B[k]? = some x) (hlt : ∀ y, A[i]? = some y → kl x.key y.key) : Mrg (A.map XF.key) (B.map XF.key) i (k + 1) ((out ++ [x]).map XF.key) := (mrgL h.flip hB hA hx hlt).flip
theorem mrgB {A B : List XF} {i k : Nat} {out : List XF} (h : Mrg (A.map XF.key) (B.map XF.key) i k (out.map XF.key)) (hA : (A.map XF.key).Pairwise kl) (hB : (B.map XF.key).Pairwise kl) {x y : XF} (hx : A[i]? = some x) (hy : B[k]? = some y) (e : x.key = y.key) : Mrg (A.map XF.key) (B.map XF.key) (i + 1) (k + 1) ((out ++ [x]).map XF.key) := by
  obtain ⟨hi, rfl⟩ := List.getElem?_eq_some_iff.1 hx
  obtain ⟨hk, rfl⟩ := List.getElem?_eq_some_iff.1 hy
  have := h.both hA hB (by rw [List.length_map]; exact hi) (by rw [List.length_map]; exact hk) (by rw [List.getElem_map, List.getElem_map]; exact e)
  rw [List.getElem_map] at this
  rw [List.map_append]
  exact this
theorem row_cells {W : World} {a : Option Addr} {c : Nat} {l : List XF} (h : Ls W (.slice a l.length c) l.length (l.flatMap XF.cells)) (i : Nat) (x : XF) (hx : l[i]? = some x) : ∃ g off, a = some ⟨g, off, none⟩ ∧ ∀ u, Below W.heap.size W u → u.cell? ⟨g, off + i * 2, none⟩ = some (.string x.pr) ∧ u.cell? ⟨g, off + i * 2 + 1, none⟩ = some (.slice x.a x.vs.length x.c) := by
  obtain ⟨hi, _⟩ := List.getElem?_eq_some_iff.1 hx
  obtain ⟨_, aa, cc, hv, _, _, hfl⟩ := h
  cases hv
  obtain ⟨g1, off1, rfl, hg1, hflat⟩ := hfl (by omega)
  have hz' : l.getD i XF0 = x := by rw [List.getD, hx]; rfl
  have e0 := hflat.elem (k := 2) (f := XF.cells) (fun _ => rfl) XF0 hi (j := 0) (by omega) (u := .string x.pr) (by rw [hz']; rfl)
  have e1 := hflat.elem (k := 2) (f := XF.cells) (fun _ => rfl) XF0 hi (j := 1) (by omega) (u := .slice x.a x.vs.length x.c) (by rw [hz']; rfl)
  refine ⟨g1, off1, rfl, fun u hu => ⟨?_, ?_⟩⟩
  · rw [hu.cell (p := ⟨g1, off1 + i * 2, none⟩) hg1]; exact e0
  · rw [hu.cell (p := ⟨g1, off1 + i * 2 + 1, none⟩) hg1, Nat.add_assoc]; exact e1
set_option maxHeartbeats 12800000 in
set_option maxRecDepth 100000 in
theorem rfacts_any : ∀ (m : Nat) (l : List XF) (a : Option Addr) (c : Nat) (w : World), l.length ≤ m → Ls w (.slice a l.length c) l.length (l.flatMap XF.cells) → (∀ y ∈ l, FIs w y) → l.length ≤ 1048576 → (∀ y ∈ l, y.vs.length ≤ 1048576) →
    Calls Tryz.prog 12 #[.slice a l.length c] w fun e w' => ∃ (a' : Option Addr) (c' : Nat) (out : List XF), e = .returned (.slice a' out.length c') ∧ Below w.heap.size w w' ∧ Told (l.map XF.key) (out.map XF.key) ∧ Ls w' (.slice a' out.length c') out.length (out.flatMap XF.cells) ∧ (∀ y ∈ out, FIs w' y) ∧ out.length ≤ l.length := by
  intro m
  induction m with
  | zero =>
    intro l a c w hm hl ok hn hsm
    exact rfacts_small l a c w (by omega) hl ok hsm
  | succ m ih =>
  intro l a c w hm hl ok hn hsm
  obtain ⟨i0, hi0, hz0, hz1, hz2⟩ := info_partsS infoFs
  by_cases h1 : l.length ≤ 1
  · exact rfacts_small l a c w h1 hl ok hsm
  · have hle : ¬ (l.length : Int) ≤ 1 := by omega
    obtain ⟨h, hh⟩ : ∃ h, h = l.length / 2 := ⟨_, rfl⟩
    have hq : (l.length : Int).tdiv 2 = (h : Int) := by rw [hh]; exact (Int.ofNat_tdiv l.length 2).symm
    obtain ⟨g, off, rfl, hc1, hc2, hA, hB⟩ := ls_cut (k := 2) (f := XF.cells) (fun _ => rfl) (l := l) (h := h) (by omega) (by omega) hl
    have lt : (l.take h).length = h := by rw [List.length_take]; omega
    have ld : (l.drop h).length = l.length - h := List.length_drop
    have HIA := Lib.hid (ih (l.take h) (some ⟨g, off, none⟩) c w (by omega) (by rw [lt] at hA ⊢; exact hA) (fun y hy => ok y (List.mem_of_mem_take hy)) (by omega) (fun y hy => hsm y (List.mem_of_mem_take hy)))
    have HIB := Lib.hid (fun u (hu : Below w.heap.size w u) => ih (l.drop h) (some ⟨g, off + h * 2, none⟩) (c - h) u (by omega) (by rw [ld] at hB ⊢; exact hB.below hu) (fun y hy => (ok y (List.mem_of_mem_drop hy)).below hu) (by omega) (fun y hy => hsm y (List.mem_of_mem_drop hy)))
    rw [lt] at HIA
    rw [ld] at HIB
    have hcj : ¬ c = h := by omega
    have hhl : h ≤ l.length := by omega
    have hhc : h ≤ c := by omega
    have hh0 : (0 : Int) ≤ (h : Int) := by omega
    have HKS : Hid (l.map XF.key = (l.take h).map XF.key ++ (l.drop h).map XF.key) := by show _ = _; rw [← List.map_append, List.take_append_drop]
    clear hl ok hsm hA hB ih hh lt ld h1 hm
    go_enter Tryz.func12, Tryz.ntmps12
    go_wp2_with fail
    refine HIA.out.mono ?_
    rintro e w1 ⟨aA, cA, A, rfl, bA, hTA, hLA, hFA, hlA⟩
    have HBA := Lib.hid bA
    have HA1 := Lib.hid (And.intro hTA (And.intro hLA hFA))
    have HIB1 := Lib.hid (HIB.out w1 bA)
    clear bA hTA hLA hFA HIA HIB
    go_wp2_with fail
    refine HIB1.out.mono ?_
    rintro e W ⟨aB, cB, B, rfl, bB, hTB, hLB, hFB, hlB⟩
    have HBW := Lib.hid (HBA.out.trans (bB.mono HBA.out.size))
    have HTA := Lib.hid HA1.out.1
    have HLA := Lib.hid (HA1.out.2.1.below bB)
    have HFA : Hid (∀ y ∈ A, FIs W y) := fun y hy => (HA1.out.2.2 y hy).below bB
    have HTB := Lib.hid hTB
    have HLB := Lib.hid hLB
    have HFB := Lib.hid hFB
    have HM0 := Lib.hid (Mrg.start (A.map XF.key) (B.map XF.key))
    have HW0 := Lib.hid (Below.refl W.heap.size W)
    have HO0 := Lib.hid (World.ownsRow_nil W W.heap.size 31 2)
    have hlA2 : A.length ≤ h := hlA
    have hlB2 : B.length ≤ l.length - h := hlB
    clear bB hTB hLB hFB HA1 HIB1 HBA hlA hlB
    go_wp2
    go_loopw [7, 8, 9] (fun ov iv kv wr => ∃ (i k : Nat) (a' : Option Addr) (c' : Nat) (out : List XF), i ≤ A.length ∧ k ≤ B.length ∧ iv = .int .i64 i ∧ kv = .int .i64 k ∧ ov = .slice a' out.length c' ∧ out.length ≤ i + k ∧ Hid (wr.ownsRow W.heap.size 31 2 (.slice a' out.length c') out.length (out.flatMap XF.cells)) ∧ Hid (Below W.heap.size W wr) ∧ Hid (∀ y ∈ out, FIs W y) ∧ Hid (Mrg (A.map XF.key) (B.map XF.key) i k (out.map XF.key))) (fun _ iv kv _ => A.length - (intOf iv).toNat + (B.length - (intOf kv).toNat))
    case atStart => exact ⟨0, 0, none, 0, [], Nat.zero_le _, Nat.zero_le _, rfl, rfl, rfl, Nat.le_refl _, HO0, HW0, fun y hy => absurd hy (by simp), HM0⟩
    case round =>
      obtain ⟨i, k, a', c', out, hi, hk, rfl, rfl, rfl, hol, HO, HB, HFO, HM⟩ := hrel
      clear HM0 HW0 HO0
      by_cases hiA : i < A.length
      · have hiA' : (i : Int) < (A.length : Int) := by omega
        have hi00 : (0 : Int) ≤ (i : Int) := by omega
        obtain ⟨x, hx⟩ : ∃ x, A[i]? = some x := ⟨A[i], List.getElem?_eq_getElem hiA⟩
        obtain ⟨gA, oA, rfl, hcA⟩ := row_cells HLA.out i x hx
        have HCA := Lib.hid hcA
        have HXF := Lib.hid (HFA.out x (List.mem_of_getElem? hx))
        have HX := Lib.hid hx
        clear hcA hx
        by_cases hkB : k < B.length
        · have hkB' : (k : Int) < (B.length : Int) := by omega
          have hk00 : (0 : Int) ≤ (k : Int) := by omega
          have hkne : ((k : Int) == (B.length : Int)) = false := by simp; omega
          obtain ⟨y, hy⟩ : ∃ y, B[k]? = some y := ⟨B[k], List.getElem?_eq_getElem hkB⟩
          obtain ⟨gB, oB, rfl, hcB⟩ := row_cells HLB.out k y hy
          have HCB := Lib.hid hcB
          have HYF := Lib.hid (HFB.out y (List.mem_of_getElem? hy))
          have HY := Lib.hid hy
          clear hcB hy
          have HKO : Hid ((ko x.key y.key < 0 → kl x.key y.key) ∧ (ko x.key y.key = 0 → x.key = y.key) ∧ (0 < ko x.key y.key → kl y.key x.key)) := ⟨fun h => h, ko_zero, fun h => by have := ko_anti x.key y.key; unfold kl; omega⟩
          have hbD : Below W.heap.size W wr.drew := HB.out.drew
          have HCM : Hid (∀ u, Below W.heap.size W u → Calls Tryz.prog 25 #[.agg #[.string x.pr, .slice x.a x.vs.length x.c], .agg #[.string y.pr, .slice y.a y.vs.length y.c]] u fun e w' => e = .returned (.int .i64 (ko x.key y.key)) ∧ Below u.heap.size u w') := fun u hu => rcf x y u (HXF.out.below hu) (HYF.out.below hu)
          obtain ⟨cv, hcv⟩ : ∃ cv, ko x.key y.key = cv := ⟨_, rfl⟩
          rw [hcv] at HKO HCM
          clear hcv
          obtain ⟨x0, x1⟩ := HCA.out _ hbD
          obtain ⟨y0, y1⟩ := HCB.out _ hbD
          have HOD := Lib.hid (own_below HO.out (Below.refl wr.heap.size wr).drew)
          go_upto_region 18 with fail
          go_cut [10] (fun cc wc => cc = .int .i64 cv ∧ Hid (Below wr.heap.size wr wc))
          case first =>
            go_region_with (go_at_call 25; refine (HCM.out _ hbD).mono ?_; rintro ee w7 ⟨rfl, b7⟩; have hb7 : Below wr.heap.size wr w7 := (Below.refl wr.heap.size wr).drew.trans b7)
            all_goals
              go_wp2_with fail
              go_meet
              case rel => exact ⟨rfl, hb7⟩
          case rest =>
            obtain ⟨rfl, HWC⟩ := hcut
            clear x0 x1 y0 y1 HOD hbD
            have HBC := Lib.hid (HB.out.trans (HWC.out.mono HB.out.size))
            have HOY := Lib.hid (own_below HO.out HWC.out)
            rcases Int.lt_trichotomy cv 0 with hlt | heq | hgt
            · have t1 : cv ≤ 0 := by omega
              have t2 : (cv == 0) = false := by simp; omega
              have t3 : ¬ 0 < cv := by omega
              have HLT := Lib.hid (HKO.out.1 hlt)
              clear hlt HKO
              obtain ⟨x0, x1⟩ := HCA.out _ HBC.out
              have hbs : W.heap.size ≤ wc.heap.size := HBC.out.size
              obtain ⟨v', w6, hrun, hown', hgrow, hnilx, hloc⟩ := run_append_own_at (P := Tryz.prog) (wc.alloc (.cells #[.string x.pr, .slice x.a x.vs.length x.c] 31)) W.heap.size 22 22 31 i0 _ 2 40 Tryz.underlying22 hi0 hz0 hz1 hz2 rfl (by decide) _ _ _ (own_below HOY.out (belowA _)) ⟨_, 0, none⟩ 1 1 [.string x.pr, .slice x.a x.vs.length x.c] rfl (lit_news wc #[.string x.pr, .slice x.a x.vs.length x.c] _) (by simp [Value.oneCell']) (by unfold maxLen; omega) (by omega) (by simp; omega)
              obtain ⟨a6, c6, rfl, _⟩ := own_form hown'
              have HO6 : Hid (w6.ownsRow W.heap.size 31 2 (.slice a6 (out ++ [x]).length c6) (out ++ [x]).length ((out ++ [x]).flatMap XF.cells)) := by
                show World.ownsRow _ _ _ _ _ _ _
                rw [List.length_append, List.flatMap_append]
                exact hown'
              have HB6 : Hid (Below W.heap.size W w6) := (Below.alloc HBC.out hbs _).grown hgrow (by simp; omega) (fun j hj => (HOY.out.lt j hj).1)
              have HM6 := Lib.hid (mrgL HM.out HTA.out.rises HTB.out.rises HX.out (fun z hz => by have := HY.out.symm.trans hz; cases this; exact HLT.out))
              have HF6 : Hid (∀ y ∈ out ++ [x], FIs W y) := fun y hy => by
                rcases List.mem_append.1 hy with h | h
                · exact HFO.out y h
                · rw [List.mem_singleton.1 h]; exact HXF.out
              have HLn : Hid ((out ++ [x]).length = out.length + 1) := by show _ = _; simp
              clear hown' hgrow hnilx hloc
              go_wp2
              go_roundw
              case rel => exact ⟨i + 1, k, a6, c6, out ++ [x], by omega, by omega, by go_num, by go_num, by rw [HLn.out], by rw [HLn.out]; omega, HO6, HB6, HF6, HM6⟩
              case measure => simp [intOf]; omega
            · subst heq
              have HEQ := Lib.hid (HKO.out.2.1 rfl)
              clear HKO
              obtain ⟨x0, x1⟩ := HCA.out _ HBC.out
              have hbs : W.heap.size ≤ wc.heap.size := HBC.out.size
              obtain ⟨v', w6, hrun, hown', hgrow, hnilx, hloc⟩ := run_append_own_at (P := Tryz.prog) (wc.alloc (.cells #[.string x.pr, .slice x.a x.vs.length x.c] 31)) W.heap.size 22 22 31 i0 _ 2 40 Tryz.underlying22 hi0 hz0 hz1 hz2 rfl (by decide) _ _ _ (own_below HOY.out (belowA _)) ⟨_, 0, none⟩ 1 1 [.string x.pr, .slice x.a x.vs.length x.c] rfl (lit_news wc #[.string x.pr, .slice x.a x.vs.length x.c] _) (by simp [Value.oneCell']) (by unfold maxLen; omega) (by omega) (by simp; omega)
              obtain ⟨a6, c6, rfl, _⟩ := own_form hown'
              have HO6 : Hid (w6.ownsRow W.heap.size 31 2 (.slice a6 (out ++ [x]).length c6) (out ++ [x]).length ((out ++ [x]).flatMap XF.cells)) := by
                show World.ownsRow _ _ _ _ _ _ _
                rw [List.length_append, List.flatMap_append]
                exact hown'
              have HB6 : Hid (Below W.heap.size W w6) := (Below.alloc HBC.out hbs _).grown hgrow (by simp; omega) (fun j hj => (HOY.out.lt j hj).1)
              have HM6 := Lib.hid (mrgB HM.out HTA.out.rises HTB.out.rises HX.out HY.out HEQ.out)
              have HF6 : Hid (∀ y ∈ out ++ [x], FIs W y) := fun y hy => by
                rcases List.mem_append.1 hy with h | h
                · exact HFO.out y h
                · rw [List.mem_singleton.1 h]; exact HXF.out
              have HLn : Hid ((out ++ [x]).length = out.length + 1) := by show _ = _; simp
              clear hown' hgrow hnilx hloc
              go_wp2
              go_roundw
              case rel => exact ⟨i + 1, k + 1, a6, c6, out ++ [x], by omega, by omega, by go_num, by go_num, by rw [HLn.out], by rw [HLn.out]; omega, HO6, HB6, HF6, HM6⟩
              case measure => simp [intOf]; omega
            · have t1 : ¬ cv ≤ 0 := by omega
              have t2 : (cv == 0) = false := by simp; omega
              have t3 : 0 < cv := by omega
              have HGT := Lib.hid (HKO.out.2.2 hgt)
              clear hgt HKO
              have HGA : Hid (∀ z, A[i]? = some z → kl y.key z.key) := fun z hz => by have := HX.out.symm.trans hz; cases this; exact HGT.out
              clear HX HXF HCA HCM
              obtain ⟨x, hxy⟩ : ∃ x, x = y := ⟨_, rfl⟩
              rw [← hxy] at HCB HYF HY HGA
              have HXF := HYF
              clear hxy
              obtain ⟨x0, x1⟩ := HCB.out _ HBC.out
              have hbs : W.heap.size ≤ wc.heap.size := HBC.out.size
              obtain ⟨v', w6, hrun, hown', hgrow, hnilx, hloc⟩ := run_append_own_at (P := Tryz.prog) (wc.alloc (.cells #[.string x.pr, .slice x.a x.vs.length x.c] 31)) W.heap.size 22 22 31 i0 _ 2 40 Tryz.underlying22 hi0 hz0 hz1 hz2 rfl (by decide) _ _ _ (own_below HOY.out (belowA _)) ⟨_, 0, none⟩ 1 1 [.string x.pr, .slice x.a x.vs.length x.c] rfl (lit_news wc #[.string x.pr, .slice x.a x.vs.length x.c] _) (by simp [Value.oneCell']) (by unfold maxLen; omega) (by omega) (by simp; omega)
              obtain ⟨a6, c6, rfl, _⟩ := own_form hown'
              have HO6 : Hid (w6.ownsRow W.heap.size 31 2 (.slice a6 (out ++ [x]).length c6) (out ++ [x]).length ((out ++ [x]).flatMap XF.cells)) := by
                show World.ownsRow _ _ _ _ _ _ _
                rw [List.length_append, List.flatMap_append]
                exact hown'
              have HB6 : Hid (Below W.heap.size W w6) := (Below.alloc HBC.out hbs _).grown hgrow (by simp; omega) (fun j hj => (HOY.out.lt j hj).1)
              have HM6 := Lib.hid (mrgR HM.out HTA.out.rises HTB.out.rises HY.out HGA.out)
              have HF6 : Hid (∀ y ∈ out ++ [x], FIs W y) := fun y hy => by
                rcases List.mem_append.1 hy with h | h
                · exact HFO.out y h
                · rw [List.mem_singleton.1 h]; exact HXF.out
              have HLn : Hid ((out ++ [x]).length = out.length + 1) := by show _ = _; simp
              clear hown' hgrow hnilx hloc
              go_wp2
              go_roundw
              case rel => exact ⟨i, k + 1, a6, c6, out ++ [x], by omega, by omega, by go_num, by go_num, by rw [HLn.out], by rw [HLn.out]; omega, HO6, HB6, HF6, HM6⟩
              case measure => simp [intOf]; omega
        · obtain rfl : k = B.length := by omega
          have hke : ((B.length : Int) == (B.length : Int)) = true := by simp
          obtain ⟨x0, x1⟩ := HCA.out _ HB.out
          have HOY := HO
          have HNB : Hid (∀ z, B[B.length]? = some z → kl x.key z.key) := fun z hz => by rw [List.getElem?_eq_none (Nat.le_refl _)] at hz; cases hz
          have hbs : W.heap.size ≤ wr.heap.size := HB.out.size
          obtain ⟨v', w6, hrun, hown', hgrow, hnilx, hloc⟩ := run_append_own_at (P := Tryz.prog) (wr.alloc (.cells #[.string x.pr, .slice x.a x.vs.length x.c] 31)) W.heap.size 22 22 31 i0 _ 2 40 Tryz.underlying22 hi0 hz0 hz1 hz2 rfl (by decide) _ _ _ (own_below HOY.out (belowA _)) ⟨_, 0, none⟩ 1 1 [.string x.pr, .slice x.a x.vs.length x.c] rfl (lit_news wr #[.string x.pr, .slice x.a x.vs.length x.c] _) (by simp [Value.oneCell']) (by unfold maxLen; omega) (by omega) (by simp; omega)
          obtain ⟨a6, c6, rfl, _⟩ := own_form hown'
          have HO6 : Hid (w6.ownsRow W.heap.size 31 2 (.slice a6 (out ++ [x]).length c6) (out ++ [x]).length ((out ++ [x]).flatMap XF.cells)) := by
            show World.ownsRow _ _ _ _ _ _ _
            rw [List.length_append, List.flatMap_append]
            exact hown'
          have HB6 : Hid (Below W.heap.size W w6) := (Below.alloc HB.out hbs _).grown hgrow (by simp; omega) (fun j hj => (HOY.out.lt j hj).1)
          have HM6 := Lib.hid (mrgL HM.out HTA.out.rises HTB.out.rises HX.out HNB.out)
          have HF6 : Hid (∀ y ∈ out ++ [x], FIs W y) := fun y hy => by
            rcases List.mem_append.1 hy with h | h
            · exact HFO.out y h
            · rw [List.mem_singleton.1 h]; exact HXF.out
          have HLn : Hid ((out ++ [x]).length = out.length + 1) := by show _ = _; simp
          clear hown' hgrow hnilx hloc
          go_wp2
          go_roundw
          case rel => exact ⟨i + 1, B.length, a6, c6, out ++ [x], by omega, by omega, by go_num, by go_num, by rw [HLn.out], by rw [HLn.out]; omega, HO6, HB6, HF6, HM6⟩
          case measure => simp [intOf]; omega
      · obtain rfl : i = A.length := by omega
        have hin : ¬ (A.length : Int) < (A.length : Int) := by omega
        by_cases hkB : k < B.length
        · have hkB' : (k : Int) < (B.length : Int) := by omega
          have hk00 : (0 : Int) ≤ (k : Int) := by omega
          have hkne : ((k : Int) == (B.length : Int)) = false := by simp; omega
          obtain ⟨x, hx⟩ : ∃ x, B[k]? = some x := ⟨B[k], List.getElem?_eq_getElem hkB⟩
          obtain ⟨gB, oB, rfl, hcB⟩ := row_cells HLB.out k x hx
          have HCB := Lib.hid hcB
          have HXF := Lib.hid (HFB.out x (List.mem_of_getElem? hx))
          have HX := Lib.hid hx
          clear hcB hx
          obtain ⟨x0, x1⟩ := HCB.out _ HB.out
          have HOY := HO
          have HNA : Hid (∀ z, A[A.length]? = some z → kl x.key z.key) := fun z hz => by rw [List.getElem?_eq_none (Nat.le_refl _)] at hz; cases hz
          have hbs : W.heap.size ≤ wr.heap.size := HB.out.size
          obtain ⟨v', w6, hrun, hown', hgrow, hnilx, hloc⟩ := run_append_own_at (P := Tryz.prog) (wr.alloc (.cells #[.string x.pr, .slice x.a x.vs.length x.c] 31)) W.heap.size 22 22 31 i0 _ 2 40 Tryz.underlying22 hi0 hz0 hz1 hz2 rfl (by decide) _ _ _ (own_below HOY.out (belowA _)) ⟨_, 0, none⟩ 1 1 [.string x.pr, .slice x.a x.vs.length x.c] rfl (lit_news wr #[.string x.pr, .slice x.a x.vs.length x.c] _) (by simp [Value.oneCell']) (by unfold maxLen; omega) (by omega) (by simp; omega)
          obtain ⟨a6, c6, rfl, _⟩ := own_form hown'
          have HO6 : Hid (w6.ownsRow W.heap.size 31 2 (.slice a6 (out ++ [x]).length c6) (out ++ [x]).length ((out ++ [x]).flatMap XF.cells)) := by
            show World.ownsRow _ _ _ _ _ _ _
            rw [List.length_append, List.flatMap_append]
            exact hown'
          have HB6 : Hid (Below W.heap.size W w6) := (Below.alloc HB.out hbs _).grown hgrow (by simp; omega) (fun j hj => (HOY.out.lt j hj).1)
          have HM6 := Lib.hid (mrgR HM.out HTA.out.rises HTB.out.rises HX.out HNA.out)
          have HF6 : Hid (∀ y ∈ out ++ [x], FIs W y) := fun y hy => by
            rcases List.mem_append.1 hy with h | h
            · exact HFO.out y h
            · rw [List.mem_singleton.1 h]; exact HXF.out
          have HLn : Hid ((out ++ [x]).length = out.length + 1) := by show _ = _; simp
          clear hown' hgrow hnilx hloc
          go_wp2
          go_roundw
          case rel => exact ⟨A.length, k + 1, a6, c6, out ++ [x], by omega, by omega, by go_num, by go_num, by rw [HLn.out], by rw [HLn.out]; omega, HO6, HB6, HF6, HM6⟩
          case measure => simp [intOf]; omega
        · obtain rfl : k = B.length := by omega
          have HF : Hid (Below w.heap.size w wr) := HBW.out.trans (HB.out.mono HBW.out.size)
          have HT : Hid (Told (l.map XF.key) (out.map XF.key)) := by
            show Told _ _
            rw [HKS.out]
            have hM := HM.out
            have e1 : (A.map XF.key).length = A.length := List.length_map _
            have e2 : (B.map XF.key).length = B.length := List.length_map _
            rw [← e1, ← e2] at hM
            exact hM.told HTA.out HTB.out
          go_wp2
          go_ret
          exact ⟨a', c', out, rfl, HF.out, HT.out, ls_own HO.out, fun y hy => (HFO.out y hy).below HB.out, by omega⟩
end Go.Proofs.YtoppgalbmijhdaaGreatDoor
