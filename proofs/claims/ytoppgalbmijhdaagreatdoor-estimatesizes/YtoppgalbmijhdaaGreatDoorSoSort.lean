import Derived.Test.YtoppgalbmijhdaaGreatDoorSoM
import Derived.Test.YtoppgalbmijhdaaGreatDoorSoCmp
import Derived.Test.YtoppgalbmijhdaaGreatDoorFaList
import Derived.Test.YtoppgalbmijhdaaGreatDoorSort
import Derived.Shelf.SlSortCmp.NoneTotal
namespace Go.Proofs.YtoppgalbmijhdaaGreatDoor
open Go.RowKit Go.Maps
set_option linter.unusedVariables false
set_option linter.unusedSimpArgs false
attribute [local go_sem ↓] Go.wp_at_zero Go.wp_at_succ

/-! slices.SortFunc over facts, and over tuples -/
section
variable {α : Type} [Inhabited α]
/-- elements of k cells, flat -/
theorem flatK_list (enc : α → List Value) (k : Nat) (hk0 : 0 < k) (hk : ∀ x, (enc x).length = k) (d : Array α) : (Go.Sort.flatK enc k d).toList = d.toList.flatMap enc := by
  have hfl := flat_len enc k hk d.toList
  apply List.ext_getElem?
  intro j
  by_cases hj : j < d.size * k
  · have hd : j / k < d.size := Nat.div_lt_of_lt_mul (by rw [Nat.mul_comm]; exact hj)
    have e1 : (Go.Sort.flatK enc k d).toList[j]? = some ((Go.Sort.flatK enc k d)[j]!) := by
      rw [Array.getElem?_toList, getElem!_pos (Go.Sort.flatK enc k d) j (by simpa using hj), Array.getElem?_eq_getElem]
    rw [e1, Go.Sort.get_flatK enc k d j hj]
    have h2 := flat_at enc k hk (default : α) d.toList (j / k) (j % k) (by simpa using hd) (Nat.mod_lt _ hk0)
    rw [show j / k * k + j % k = j by rw [Nat.mul_comm]; exact Nat.div_add_mod j k] at h2
    rw [h2]
    have hx : d.toList.getD (j / k) default = d[j / k]! := by
      rw [List.getD, Array.getElem?_toList, Array.getElem?_eq_getElem hd, getElem!_pos d (j / k) hd]
      rfl
    rw [hx]
    have hl : j % k < (enc (d[j / k]!)).length := by rw [hk]; exact Nat.mod_lt _ hk0
    rw [getElem!_pos (enc (d[j / k]!)) (j % k) hl]
    exact (List.getElem?_eq_getElem hl).symm
  · rw [List.getElem?_eq_none (by simpa using hj), List.getElem?_eq_none (by rw [hfl]; simpa using hj)]
theorem holdsK_own {w : World} {B g cap n k : Nat} {ty : TypeId} {xs : List Value} (enc : α → List Value) (hk0 : 0 < k) (hk : ∀ x, (enc x).length = k) (d : Array α) (hd : d.toList.flatMap enc = xs) (hs : d.size = n) (own : w.ownsRow B ty k (.slice (some ⟨g, 0, none⟩) n cap) n xs) : Go.Sort.HoldsK enc k w g 0 d := by
  subst hs
  intro j hj
  have hj' : j < d.size * k := by rw [Go.Sort.size_flatK] at hj; exact hj
  have hF := flatK_list enc k hk0 hk d
  rw [hd] at hF
  have own' := own
  obtain ⟨_, ⟨e, h0⟩ | ⟨g', cap', cur, e, _, hgb, _⟩⟩ := own
  · cases e
  · cases e
    refine ⟨?_, by simp [World.frozen?, hgb]⟩
    rw [Nat.zero_add, own'.cellAt j hj', ← hF, Array.getElem?_toList, Array.getElem?_eq_getElem hj, getElem!_pos (Go.Sort.flatK enc k d) j hj]
    rfl
/-- a row whose cells are written anew, and blocks behind all -/
theorem own_put_row {w2 w3 : World} {B g cap n k : Nat} {ty : TypeId} {xs ys : List Value} (F : Array Value) (hF : F.toList = ys) (hFs : F.size = n * k) (own : w2.ownsRow B ty k (.slice (some ⟨g, 0, none⟩) n cap) n xs)
    (hos : w3.os = w2.os) (htp : w3.tape = w2.tape) (hout : w3.output = w2.output) (hsz : w2.heap.size ≤ w3.heap.size) (hblk : ∀ j, j < w2.heap.size → j ≠ g → w3.heap[j]? = w2.heap[j]?) (hg : ∀ cur t fr, w2.heap[g]? = some (.cells cur t fr) → w3.heap[g]? = some (.cells (Go.Sort.putCells id 0 F cur) t fr)) :
    w3.ownsRow B ty k (.slice (some ⟨g, 0, none⟩) n cap) n ys ∧ Below B w2 w3 := by
  obtain ⟨_, ⟨e, h0⟩ | ⟨g', cap', cur, e, hB, hgb, hnc, hcm, hcs, _⟩⟩ := own
  · cases e
  · cases e
    have hlt : g < w2.heap.size := (Array.getElem?_eq_some_iff.1 hgb).1
    have hg2 := hg _ _ _ hgb
    refine ⟨⟨by rw [← hF, Array.length_toList, hFs], .inr ⟨g, cap, _, rfl, hB, hg2, hnc, hcm, by simp [Go.Sort.putCells, hcs], ?_⟩⟩, ⟨hos, htp, hout, hsz, fun j hj => hblk j (by omega) (by omega)⟩⟩
    rw [← hF]
    apply List.ext_getElem?
    intro j
    by_cases hj : j < n * k
    · have hjc : j < cur.size := by rw [hcs]; exact Nat.lt_of_lt_of_le hj (Nat.mul_le_mul_right k hnc)
      rw [List.getElem?_take, if_pos hj, Array.getElem?_toList, Go.Sort.putCells, Array.getElem?_mapIdx, Array.getElem?_eq_getElem hjc, Array.getElem?_toList, Array.getElem?_eq_getElem (by omega)]
      simp only [Option.map_some]
      rw [if_pos (by omega), Nat.sub_zero, getElem!_pos F j (by omega)]
      rfl
    · rw [List.getElem?_eq_none (by simp; omega), List.getElem?_eq_none (by simp; omega)]
theorem own_sortedK {w2 : World} {B g cap n k m : Nat} {ty : TypeId} {xs : List Value} (enc : α → List Value) (hk0 : 0 < k) (hk : ∀ x, (enc x).length = k) (d : Array α) (os : Array Obj) (hs : d.size = n) (own : w2.ownsRow B ty k (.slice (some ⟨g, 0, none⟩) n cap) n xs) :
    (sortWorldK enc k w2 g 0 m d os).ownsRow B ty k (.slice (some ⟨g, 0, none⟩) n cap) n (d.toList.flatMap enc) ∧ Below B w2 (sortWorldK enc k w2 g 0 m d os) := by
  refine own_put_row (Go.Sort.flatK enc k d) (flatK_list enc k hk0 hk d) (by rw [Go.Sort.size_flatK, hs]) own rfl rfl rfl ?_ (fun j hj hne => ?_) (fun cur t fr h => ?_)
  · show w2.heap.size ≤ ((w2.heap.modify g _) ++ os).size
    simp
  · show ((w2.heap.modify g _) ++ os)[j]? = _
    rw [Array.getElem?_append_left (by simpa using hj), Array.getElem?_modify, if_neg (fun e => hne e.symm)]
  · have hlt : g < w2.heap.size := (Array.getElem?_eq_some_iff.1 h).1
    show ((w2.heap.modify g _) ++ os)[g]? = _
    rw [Array.getElem?_append_left (by simpa using hlt), Array.getElem?_modify, if_pos rfl, h]
    rfl
theorem holds1_own {w : World} {B g cap n : Nat} {ty : TypeId} {xs : List Value} (enc : α → Value) (d : Array α) (hd : d.toList.map enc = xs) (hs : d.size = n) (own : w.ownsRow B ty 1 (.slice (some ⟨g, 0, none⟩) n cap) n xs) : Go.Sort.Holds enc w g 0 d := by
  subst hs
  intro j hj
  have own' := own
  obtain ⟨_, ⟨e, h0⟩ | ⟨g', cap', cur, e, _, hgb, _⟩⟩ := own
  · cases e
  · cases e
    refine ⟨?_, by simp [World.frozen?, hgb]⟩
    rw [Nat.zero_add, own'.cellAt j (by omega), ← hd, List.getElem?_map, Array.getElem?_toList, Array.getElem?_eq_getElem hj, getElem!_pos d j hj]
    rfl
theorem own_sorted1 {w2 : World} {B g cap n m : Nat} {ty : TypeId} {xs : List Value} (enc : α → Value) (d : Array α) (os : Array Obj) (hs : d.size = n) (own : w2.ownsRow B ty 1 (.slice (some ⟨g, 0, none⟩) n cap) n xs) :
    (sortWorld enc w2 g 0 m d os).ownsRow B ty 1 (.slice (some ⟨g, 0, none⟩) n cap) n (d.toList.map enc) ∧ Below B w2 (sortWorld enc w2 g 0 m d os) := by
  refine own_put_row (d.map enc) (by simp) (by simp; omega) own rfl rfl rfl ?_ (fun j hj hne => ?_) (fun cur t fr h => ?_)
  · show w2.heap.size ≤ ((w2.heap.modify g _) ++ os).size
    simp
  · show ((w2.heap.modify g _) ++ os)[j]? = _
    rw [Array.getElem?_append_left (by simpa using hj), Array.getElem?_modify, if_neg (fun e => hne e.symm)]
  · have hlt : g < w2.heap.size := (Array.getElem?_eq_some_iff.1 h).1
    show ((w2.heap.modify g _) ++ os)[g]? = _
    rw [Array.getElem?_append_left (by simpa using hlt), Array.getElem?_modify, if_pos rfl, h]
    show some (Obj.cells (Go.Sort.putCells enc 0 d cur) t fr) = _
    congr 2
    unfold Go.Sort.putCells
    apply Array.ext_getElem?
    intro i
    rw [Array.getElem?_mapIdx, Array.getElem?_mapIdx]
    cases hc : cur[i]? with
    | none => rfl
    | some x =>
      simp only [Option.map_some, Array.size_map]
      by_cases hi : 0 ≤ i ∧ i < 0 + d.size
      · rw [if_pos hi, if_pos hi, getElem!_pos d (i - 0) (by omega), getElem!_pos (d.map enc) (i - 0) (by simp; omega)]
        simp
      · rw [if_neg hi, if_neg hi]
end
theorem fis0 (w : World) : FIs w XF0 := ⟨by show noS.size ≤ _; decide, by show 0 ≤ _; omega, ⟨⟨by show 0 ≤ _; omega, none, 0, rfl, Nat.le_refl _, by decide, fun h => absurd (show (0 : Nat) < 0 from h) (by omega)⟩, fun v hv => by cases hv⟩⟩
theorem XF.lies {w : World} {y : XF} (h : FIs w y) : y.fc.lies w := lv_lst h.vs
abbrev XP (p : XF → Prop) := { y : XF // p y }
def cfX (p : XF → Prop) (x y : XP p) : Int := ko x.1.key y.1.key
theorem swoX (p : XF → Prop) : Go.Sort.SWO (ltOf (cfX p)) where
  irrefl x := by simp [ltOf, cfX, ko_self]
  trans x y z h1 h2 := by
    have h1 : ko x.1.key y.1.key < 0 := of_decide_eq_true h1
    have h2 : ko y.1.key z.1.key < 0 := of_decide_eq_true h2
    exact decide_eq_true (show ko x.1.key z.1.key < 0 from kl_trans h1 h2)
  ntrans x y z h1 h2 := by
    have h1 : ¬ ko x.1.key y.1.key < 0 := of_decide_eq_false h1
    have h2 : ¬ ko y.1.key z.1.key < 0 := of_decide_eq_false h2
    refine decide_eq_false (fun (h : ko x.1.key z.1.key < 0) => ?_)
    rcases kl_of h1 with e | e
    · rw [e] at h2; exact h2 h
    · exact h2 (kl_trans e h)
/-- rs is l, in order -/
structure InOrder (l rs : List XF) : Prop where
  perm : rs.Perm l
  up : ∀ (i j : Nat) x y, i < j → rs[i]? = some x → rs[j]? = some y → ¬ ko y.key x.key < 0
theorem order_of {q : XF → Prop} [Inhabited (XP q)] {n : Nat} {d d' : Array (XP q)} (hs : d.size = n) (p : Go.Sort.PermIn 0 n d d') (hsd : Go.Sort.SortedIn (ltOf (cfX q)) 0 n d') : d'.size = n ∧ InOrder (d.toList.map (·.1)) (d'.toList.map (·.1)) := by
  obtain ⟨p1, p2, p3⟩ := p
  have hs' : d'.size = n := by rw [p1, hs]
  refine ⟨hs', ?_, ?_⟩
  · have e1 : (d'.extract 0 n).toList = d'.toList := by rw [← hs']; simp
    have e2 : (d.extract 0 n).toList = d.toList := by rw [← hs]; simp
    rw [e1, e2] at p3
    exact p3.map _
  · intro i j x y hij hx hy hlt
    rw [List.getElem?_map] at hx hy
    have hj : j < d'.size := by
      cases hc : d'.toList[j]? with
      | none => rw [hc] at hy; cases hy
      | some z => have := (List.getElem?_eq_some_iff.1 hc).1; simpa using this
    have h1 := hsd i j (Nat.zero_le _) hij (by omega)
    rw [getElem!_pos d' j hj, getElem!_pos d' i (by omega)] at h1
    rw [Array.getElem?_toList, Array.getElem?_eq_getElem (by omega)] at hx hy
    have ex : (d'[i]'(by omega)).1 = x := Option.some.inj hx
    have ey : (d'[j]'hj).1 = y := Option.some.inj hy
    rw [← ex, ← ey] at hlt
    exact of_decide_eq_false h1 hlt
def XF.tcell (y : XF) : Value := .slice y.a y.vs.length y.c
theorem sortFacts {w0 w : World} {a : Option Addr} {cap : Nat} {l : List XF} (bel : Below w0.heap.size w0 w) (own : w.ownsRow w0.heap.size 31 2 (.slice a l.length cap) l.length (l.flatMap XF.cells)) (ok : ∀ y ∈ l, FIs w0 y) (hlen : l.length ≤ 1000000000) :
    Calls Tryz.prog 69 #[.slice a l.length cap, .func (.func 59) #[] #[]] w fun e w' => e = .returned (.tuple #[]) ∧ ∃ rs, InOrder l rs ∧ w'.ownsRow w0.heap.size 31 2 (.slice a l.length cap) l.length (rs.flatMap XF.cells) ∧ Below w0.heap.size w w' := by
  haveI : Inhabited (XP (FIs w0)) := ⟨⟨XF0, fis0 w0⟩⟩
  have own' := own
  obtain ⟨_, ⟨e, h0⟩ | ⟨g, cap', cur, e, hgB, _⟩⟩ := own
  · have hr : l = [] := List.eq_nil_of_length_eq_zero h0
    subst hr
    have hcon := AnyF.slices_SortFunc_none Tryz.laysSort a cap (.func (.func 59) #[] #[]) w
    refine hcon.mono ?_
    rintro e2 w' ⟨he, rfl⟩
    exact ⟨he, [], ⟨List.Perm.refl _, fun i j x y _ hx _ => by simp at hx⟩, own', Below.refl _ _⟩
  · obtain ⟨rfl, _, rfl⟩ := Value.slice.inj e
    obtain ⟨d, hd⟩ : ∃ d : Array (XP (FIs w0)), d.toList.map (·.1) = l := ⟨(l.pmap (fun y h => (⟨y, h⟩ : XP (FIs w0))) ok).toArray, by simp [List.map_pmap]⟩
    have hs : d.size = l.length := by rw [← hd]; simp
    have hdf : d.toList.flatMap (fun x => x.1.cells) = l.flatMap XF.cells := by rw [← hd, List.flatMap_map]
    have hg : g < w.heap.size := (own'.lt g rfl).2
    have hcmp : CmpLays Tryz.prog 59 #[] (fun x : XP (FIs w0) => x.1.cells) 2 (cfX (FIs w0)) g 0 d.size w := fun m os dk hdk x y => by
      have hw := (own_sortedK (m := m) (fun x : XP (FIs w0) => x.1.cells) (by decide) (fun _ => rfl) dk os (hdk.trans hs) own').2
      have hb : Below w0.heap.size w0 _ := bel.trans hw
      have := AR.vcfD x.1.fc y.1.fc _ (XF.lies (x.2.below hb)) (XF.lies (y.2.below hb))
      exact this
    have hcon := AnyQ.slices_SortFunc Tryz.laysSort 2 Tryz.isAgg31 Tryz.sizeOf31 (fun x : XP (FIs w0) => x.1.cells) (fun _ => rfl) (fun x v hv => by
      simp [XF.cells] at hv
      rcases hv with rfl | rfl <;> rfl) (cfX (FIs w0)) (swoX (FIs w0)) 59 #[] g 0 cap d w (enters_of Tryz.func59 (by kernel_rfl) rfl) hcmp (holdsK_own (fun x : XP (FIs w0) => x.1.cells) (by decide) (fun _ => rfl) d hdf hs own') hg (by omega)
    rw [hs] at hcon
    refine hcon.mono ?_
    rintro e w' ⟨he, d', m, os, hp, hsd, rfl⟩
    obtain ⟨hs', ho⟩ := order_of hs hp hsd
    rw [hd] at ho
    obtain ⟨o1, o2⟩ := own_sortedK (m := m) (fun x : XP (FIs w0) => x.1.cells) (by decide) (fun _ => rfl) d' os hs' own'
    refine ⟨he, _, ho, ?_, o2⟩
    rw [List.flatMap_map]
    exact o1
end Go.Proofs.YtoppgalbmijhdaaGreatDoor
