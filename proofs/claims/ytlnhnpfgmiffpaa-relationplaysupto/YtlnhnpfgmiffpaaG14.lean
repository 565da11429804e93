import Derived.Test.YtlnhnpfgmiffpaaG13
import Derived.Test.YtlnhnpfgmiffpaaSort
import Derived.Test.YtlnhnpfgmiffpaaG7
import Derived.Shelf.SlSortCmp.NoneTotal
section
namespace Go.Proofs.Ytlnhnpfgmiffpaa
open Go.RowKit Go.Maps
set_option linter.unusedVariables false
set_option linter.unusedSimpArgs false
attribute [local go_sem ↓] Go.wp_at_zero Go.wp_at_succ

/-- rows that may be -/
abbrev RW := { r : List Int // RowOk r }
instance : Inhabited RW := ⟨⟨zeroL, zeroL_ok⟩⟩
def encR (x : RW) : List Value := x.1.map cellI
theorem encR_len (x : RW) : (encR x).length = 24 := by simp [encR, x.2.len]
def cfR (x y : RW) : Int := lexI x.1 y.1
theorem swoR : Go.Sort.SWO (ltOf cfR) where
  irrefl x := by simp [ltOf, cfR, lexI_self]
  trans x y z h1 h2 := by
    exact decide_eq_true (lexI_trans (of_decide_eq_true h1) (of_decide_eq_true h2))
  ntrans x y z h1 h2 := by
    have h1 : ¬ lexI x.1 y.1 < 0 := of_decide_eq_false h1
    have h2 : ¬ lexI y.1 z.1 < 0 := of_decide_eq_false h2
    refine decide_eq_false (fun (h : lexI x.1 z.1 < 0) => ?_)
    have s := lexI_swap x.1 y.1
    by_cases e : lexI y.1 x.1 < 0
    · exact h2 (lexI_trans e h)
    · have e0 : lexI x.1 y.1 = 0 := by omega
      rw [lexI_zero e0] at h
      exact h2 h
/-- the cells of rows -/
theorem flatK_rows (d : Array RW) : (Go.Sort.flatK encR 24 d).toList = flatR (d.toList.map (·.1)) := by
  have hok : ∀ r ∈ d.toList.map (·.1), r.length = 24 := fun r hr => by
    obtain ⟨x, _, rfl⟩ := List.mem_map.1 hr
    exact x.2.len
  have hfl := flatR_len (d.toList.map (·.1)) hok
  apply List.ext_getElem?
  intro j
  by_cases hj : j < d.size * 24
  · have hd : j / 24 < d.size := Nat.div_lt_of_lt_mul (by omega)
    have e1 : (Go.Sort.flatK encR 24 d).toList[j]? = some ((Go.Sort.flatK encR 24 d)[j]!) := by
      rw [Array.getElem?_toList, getElem!_pos (Go.Sort.flatK encR 24 d) j (by simp; omega), Array.getElem?_eq_getElem]
    rw [e1, Go.Sort.get_flatK encR 24 d j hj]
    have hx : (d.toList.map (·.1))[j / 24]? = some (d[j / 24]!).1 := by
      rw [List.getElem?_map, Array.getElem?_toList, Array.getElem?_eq_getElem hd, getElem!_pos d (j / 24) hd]
      rfl
    have h2 := flat_row _ hok (j / 24) (j % 24) _ hx (Nat.mod_lt _ (by omega))
    rw [show j / 24 * 24 + j % 24 = j by omega] at h2
    have h3 : (flatR (d.toList.map (·.1)))[j]? = ((d[j / 24]!).1.map cellI)[j % 24]? := h2
    have hl : j % 24 < (encR (d[j / 24]!)).length := by rw [encR_len]; omega
    rw [h3, getElem!_pos (encR (d[j / 24]!)) (j % 24) hl]
    exact (List.getElem?_eq_getElem hl).symm
  · rw [List.getElem?_eq_none (by simp; omega), List.getElem?_eq_none (by rw [hfl]; simp; omega)]
theorem holdsK_rows {w : World} {B g cap n : Nat} {rows : List (List Int)} (d : Array RW) (hd : d.toList.map (·.1) = rows) (hn : n = rows.length) (own : w.ownsRow B 40 24 (.slice (some ⟨g, 0, none⟩) n cap) n (flatR rows)) : Go.Sort.HoldsK encR 24 w g 0 d := by
  subst hn
  intro j hj
  have hs : d.size = rows.length := by rw [← hd]; simp
  have hj' : j < rows.length * 24 := by rw [Go.Sort.size_flatK] at hj; omega
  have hF := flatK_rows d
  rw [hd] at hF
  have own' := own
  obtain ⟨_, ⟨e, h0⟩ | ⟨g', cap', cur, e, _, hgb, _⟩⟩ := own
  · cases e
  · cases e
    refine ⟨?_, by simp [World.frozen?, hgb]⟩
    rw [Nat.zero_add, own'.cellAt j hj', ← hF, Array.getElem?_toList, Array.getElem?_eq_getElem hj, getElem!_pos (Go.Sort.flatK encR 24 d) j hj]
    rfl
/-- behind the sort -/
theorem own_sorted {w2 : World} {B g cap n m : Nat} {rows : List (List Int)} (d : Array RW) (os : Array Obj) (hs : d.size = n) (hn : n = rows.length) (own : w2.ownsRow B 40 24 (.slice (some ⟨g, 0, none⟩) n cap) n (flatR rows)) :
    (sortWorldK encR 24 w2 g 0 m d os).ownsRow B 40 24 (.slice (some ⟨g, 0, none⟩) n cap) n (flatR (d.toList.map (·.1))) ∧ Below B w2 (sortWorldK encR 24 w2 g 0 m d os) := by
  obtain ⟨_, ⟨e, h0⟩ | ⟨g', cap', cur, e, hB, hgb, hnc, hcm, hcs, _⟩⟩ := own
  · cases e
  · cases e
    have hlt : g < w2.heap.size := (Array.getElem?_eq_some_iff.1 hgb).1
    have hF := flatK_rows d
    have hFs : (Go.Sort.flatK encR 24 d).size = n * 24 := by rw [Go.Sort.size_flatK, hs]
    have hblk : ∀ k, k < w2.heap.size → k ≠ g → (sortWorldK encR 24 w2 g 0 m d os).heap[k]? = w2.heap[k]? := fun k hk hne => by
      show ((w2.heap.modify g _) ++ os)[k]? = _
      rw [Array.getElem?_append_left (by simpa using hk), Array.getElem?_modify, if_neg (fun e => hne e.symm)]
    have hg2 : (sortWorldK encR 24 w2 g 0 m d os).heap[g]? = some (.cells (Go.Sort.putCells id 0 (Go.Sort.flatK encR 24 d) cur) 40 (0, 0)) := by
      show ((w2.heap.modify g _) ++ os)[g]? = _
      rw [Array.getElem?_append_left (by simpa using hlt), Array.getElem?_modify, if_pos rfl, hgb]
      rfl
    refine ⟨⟨by rw [← hF, Array.length_toList, hFs], .inr ⟨g, cap, _, rfl, hB, hg2, hnc, hcm, by simp [Go.Sort.putCells, hcs], ?_⟩⟩, ⟨rfl, rfl, rfl, ?_, fun k hk => ?_⟩⟩
    · rw [← hF]
      apply List.ext_getElem?
      intro j
      by_cases hj : j < n * 24
      · have hjc : j < cur.size := by rw [hcs]; exact Nat.lt_of_lt_of_le hj (Nat.mul_le_mul_right 24 hnc)
        rw [List.getElem?_take, if_pos hj, Array.getElem?_toList, Go.Sort.putCells, Array.getElem?_mapIdx, Array.getElem?_eq_getElem hjc, Array.getElem?_toList, Array.getElem?_eq_getElem (by omega)]
        simp only [Option.map_some]
        rw [if_pos (by omega), Nat.sub_zero, getElem!_pos (Go.Sort.flatK encR 24 d) j (by omega)]
        rfl
      · rw [List.getElem?_eq_none (by simp; omega), List.getElem?_eq_none (by simp; omega)]
    · show w2.heap.size ≤ ((w2.heap.modify g _) ++ os).size
      simp
    · exact hblk k (by omega) (by omega)
attribute [-go_sem] loadVar
theorem cmpLaysR (blk off size : Nat) (w : World) : CmpLays Try.prog 53 #[] encR 24 cfR blk off size w := fun m os dk _ x y => by
  have := compare_any x.1 y.1 x.2.len y.2.len (sortWorldK encR 24 w blk off m dk os)
  exact this
theorem sortRows {w : World} {B g cap n : Nat} {rows : List (List Int)} (hn : n = rows.length) (own : w.ownsRow B 40 24 (.slice (some ⟨g, 0, none⟩) n cap) n (flatR rows)) (ok : ∀ r ∈ rows, RowOk r) (hlen : rows.length ≤ 1000000000) :
    Calls Try.prog 52 #[.slice (some ⟨g, 0, none⟩) n cap, .func (.func 53) #[] #[]] w fun e w' => e = .returned (.tuple #[]) ∧ ∃ rs : List (List Int), rs.Perm rows ∧ (∀ (i j : Nat) x y, i < j → rs[i]? = some x → rs[j]? = some y → ¬ lexI y x < 0) ∧ w'.ownsRow B 40 24 (.slice (some ⟨g, 0, none⟩) n cap) n (flatR rs) ∧ Below B w w' := by
  obtain ⟨d, hd⟩ : ∃ d : Array RW, d.toList.map (·.1) = rows := ⟨(rows.pmap (fun r h => (⟨r, h⟩ : RW)) ok).toArray, by simp [List.map_pmap]⟩
  have hs : d.size = n := by rw [hn, ← hd]; simp
  have hg : g < w.heap.size := (own.lt g rfl).2
  have hcon := AnyQ.slices_SortFunc Try.laysSort 24 Try.isAgg40 Try.sizeOf40 encR encR_len (fun x v hv => by
    obtain ⟨a, _, rfl⟩ := List.mem_map.1 hv
    rfl) cfR swoR 53 #[] g 0 cap d w (enters_of Try.func53 (by kernel_rfl) rfl) (cmpLaysR g 0 d.size w) (holdsK_rows d hd hn own) hg (by rw [hs]; omega)
  rw [hs] at hcon
  refine hcon.mono ?_
  rintro e w' ⟨he, d', m, os, hp, hsd, rfl⟩
  obtain ⟨p1, p2, p3⟩ := hp
  have hs' : d'.size = n := by rw [p1, hs]
  obtain ⟨o1, o2⟩ := own_sorted (m := m) d' os hs' hn own
  refine ⟨he, d'.toList.map (·.1), ?_, ?_, o1, o2⟩
  · rw [← hd]
    have e1 : (d'.extract 0 n).toList = d'.toList := by rw [← hs']; simp
    have e2 : (d.extract 0 n).toList = d.toList := by rw [← hs]; simp
    rw [e1, e2] at p3
    exact p3.map _
  · intro i j x y hij hx hy hlt
    rw [List.getElem?_map] at hx hy
    have hj : j < d'.size := by
      cases hc : d'.toList[j]? with
      | none => rw [hc] at hy; cases hy
      | some z => have := (List.getElem?_eq_some_iff.1 hc).1; simpa using this
    have h1 := hsd i j (Nat.zero_le _) hij (by omega)
    rw [getElem!_pos d' j hj, getElem!_pos d' i (by omega)] at h1
    rw [Array.getElem?_toList, Array.getElem?_eq_getElem (by omega)] at hx hy
    have ex : (d'[i]'(by omega)).1 = x := Option.some.inj hx
    have ey : (d'[j]'hj).1 = y := Option.some.inj hy
    rw [← ex, ← ey] at hlt
    exact of_decide_eq_false h1 hlt
end Go.Proofs.Ytlnhnpfgmiffpaa
end
section
namespace Go.Proofs.Ytlnhnpfgmiffpaa
open Go.RowKit Go.Maps
set_option linter.unusedVariables false
set_option linter.unusedSimpArgs false
attribute [local go_sem ↓] Go.wp_at_zero Go.wp_at_succ
attribute [-go_sem] loadVar
/-- slices.SortFunc over rows, a nil slice too -/
theorem sortRowsN {w : World} {B : Nat} {a : Option Addr} {cap : Nat} {rows : List (List Int)} (own : w.ownsRow B 40 24 (.slice a rows.length cap) rows.length (flatR rows)) (ok : ∀ r ∈ rows, RowOk r) (hlen : rows.length ≤ 1000000000) :
    Calls Try.prog 52 #[.slice a rows.length cap, .func (.func 53) #[] #[]] w fun e w' => e = .returned (.tuple #[]) ∧ ∃ rs : List (List Int), rs.Perm rows ∧ (∀ (i j : Nat) x y, i < j → rs[i]? = some x → rs[j]? = some y → ¬ lexI y x < 0) ∧ w'.ownsRow B 40 24 (.slice a rows.length cap) rows.length (flatR rs) ∧ Below B w w' := by
  have own' := own
  obtain ⟨_, ⟨e, h0⟩ | ⟨g, cap', cur, e, _⟩⟩ := own
  · have hr : rows = [] := List.eq_nil_of_length_eq_zero h0
    subst hr
    have hcon := AnyF.slices_SortFunc_none Try.laysSort a cap (.func (.func 53) #[] #[]) w
    refine hcon.mono ?_
    rintro e2 w' ⟨he, rfl⟩
    exact ⟨he, [], List.Perm.refl _, fun i j x y _ hx _ => by simp at hx, own', Below.refl _ _⟩
  · obtain ⟨rfl, _, rfl⟩ := Value.slice.inj e
    exact sortRows rfl own' ok hlen
set_option maxHeartbeats 1600000 in
set_option maxRecDepth 100000 in
theorem sorted_yes {w : World} {B t m : Nat} {sv : Value} {rows : List (List Int)} {ar gone : Int} (h : Rel w B t m sv rows ar gone) (hlen : rows.length ≤ 1000000000) :
    Calls Try.prog 34 #[.pointer (some ⟨t, 0, none⟩)] w fun e w' => ∃ a c, e = .returned (.slice a rows.length c) ∧ ∃ rs : List (List Int), rs.Perm rows ∧ (∀ (i j : Nat) x y, i < j → rs[i]? = some x → rs[j]? = some y → ¬ lexI y x < 0) ∧ w'.ownsRow w.heap.size 40 24 (.slice a rows.length c) rows.length (flatR rs) ∧ Below w.heap.size w w' := by
  obtain ⟨a, c, rfl, _⟩ := own_form h.own
  obtain ⟨x1, x2⟩ := own_LrC h.own (fun r hr => (h.ok r hr).len)
  have HT := Lib.hid (there_yes h)
  have HC := Lib.hid (cloneRows_any x1 x2 hlen)
  have l0 := run_loadRows (h.rl.at (j := 0) rfl)
  have HOK := Lib.hid h.ok
  clear h x1 x2
  go_enter Try.func34, Try.ntmps34
  go_wp2_with fail
  refine HT.out.mono ?_
  rintro e w1 ⟨rfl, rfl⟩
  go_wp2_with fail
  refine HC.out.mono ?_
  rintro e w2 ⟨sv2, rfl, ho, b2⟩
  obtain ⟨a2, c2, rfl, _⟩ := own_form ho
  have HS := Lib.hid (sortRowsN ho HOK.out hlen)
  have HB := Lib.hid b2
  clear ho b2 HT HC l0
  go_wp2_with fail
  refine HS.out.mono ?_
  rintro e w3 ⟨rfl, rs, hp, hsd, ho3, b3⟩
  have HF := Lib.hid (And.intro hp (And.intro hsd (And.intro ho3 (HB.out.trans b3))))
  clear hp hsd ho3 b3 HS HB
  go_wp2
  go_ret
  exact ⟨a2, c2, rfl, rs, HF.out⟩
end Go.Proofs.Ytlnhnpfgmiffpaa
end
