import Derived.Shelf.SlSortCmp.WholeK
import Derived.Test.YtgfnijhhhgjabaaGreatDoorProg
import Derived.Test.YtgfnijhhhgjabaaGreatDoorG2
import Derived.Shelf.SlSortCmp.NoneTotal
import Derived.Sort.Grow
import Derived.Test.YtgfnijhhhgjabaaGreatDoorG31
section
-- slices.SortFunc's contract laid at this dump, in plain words (lay-plain.mjs)
namespace Go.Proofs
open Go.Shelf
def Tryz.laysSort_ren : Go.Shelf.Ren := ⟨fun | 6 => 88 | 15 => 111 | 14 => 110 | 28 => 132 | 29 => 133 | 20 => 124 | 21 => 125 | 22 => 126 | 23 => 127 | 24 => 128 | 25 => 129 | 26 => 130 | 27 => 131 | 46 => 144 | 47 => 145 | 48 => 146 | 49 => 147 | 50 => 148 | 57 => 154 | n => n, fun | 22 => 100 | 24 => 129 | 25 => 157 | 3 => 3 | 39 => 178 | 0 => 0 | 53 => 194 | 55 => 196 | 4 => 4 | 46 => 188 | 45 => 187 | 50 => 155 | 5 => 5 | 9 => 9 | 66 => 201 | 70 => 205 | 76 => 213 | 77 => 214 | n => n, fun | n => n⟩
theorem Tryz.laysSort : Go.Proofs.SlLaysF0.n6 Tryz.prog Tryz.laysSort_ren := {
  mixed := by kernel_rfl
  f6 := ⟨Tryz.f88.name, by decide, Tryz.func88.trans (congrArg some (by kernel_rfl))⟩
  f14 := ⟨Tryz.f110.name, by decide, Tryz.func110.trans (congrArg some (by kernel_rfl))⟩
  f15 := Tryz.func111.trans (congrArg some (by kernel_rfl))
  f20 := ⟨Tryz.f124.name, by decide, Tryz.func124.trans (congrArg some (by kernel_rfl))⟩
  f21 := ⟨Tryz.f125.name, by decide, Tryz.func125.trans (congrArg some (by kernel_rfl))⟩
  f22 := ⟨Tryz.f126.name, by decide, Tryz.func126.trans (congrArg some (by kernel_rfl))⟩
  f23 := ⟨Tryz.f127.name, by decide, Tryz.func127.trans (congrArg some (by kernel_rfl))⟩
  f24 := ⟨Tryz.f128.name, by decide, Tryz.func128.trans (congrArg some (by kernel_rfl))⟩
  f25 := ⟨Tryz.f129.name, by decide, Tryz.func129.trans (congrArg some (by kernel_rfl))⟩
  f26 := ⟨Tryz.f130.name, by decide, Tryz.func130.trans (congrArg some (by kernel_rfl))⟩
  f27 := ⟨Tryz.f131.name, by decide, Tryz.func131.trans (congrArg some (by kernel_rfl))⟩
  f28 := Tryz.func132.trans (congrArg some (by kernel_rfl))
  f29 := Tryz.func133.trans (congrArg some (by kernel_rfl))
  f46 := ⟨Tryz.f144.name, by decide, Tryz.func144.trans (congrArg some (by kernel_rfl))⟩
  f47 := Tryz.func145.trans (congrArg some (by kernel_rfl))
  f48 := Tryz.func146.trans (congrArg some (by kernel_rfl))
  f49 := ⟨Tryz.f147.name, by decide, Tryz.func147.trans (congrArg some (by kernel_rfl))⟩
  f50 := ⟨Tryz.f148.name, by decide, Tryz.func148.trans (congrArg some (by kernel_rfl))⟩
  f57 := ⟨Tryz.f154.name, by decide, Tryz.func154.trans (congrArg some (by kernel_rfl))⟩
  t0 := Tryz.underlying0
  a0 := Tryz.isAgg0
  z0 := Tryz.sizeOf0
  v0 := Tryz.zeroValue0
  t3 := Tryz.underlying3
  a3 := Tryz.isAgg3
  z3 := Tryz.sizeOf3
  v3 := Tryz.zeroValue3
  t4 := Tryz.underlying4
  a4 := Tryz.isAgg4
  z4 := Tryz.sizeOf4
  v4 := Tryz.zeroValue4
  t5 := Tryz.underlying5
  a5 := Tryz.isAgg5
  z5 := Tryz.sizeOf5
  v5 := Tryz.zeroValue5
  t9 := Tryz.underlying9
  a9 := Tryz.isAgg9
  z9 := Tryz.sizeOf9
  v9 := Tryz.zeroValue9
  t22 := Tryz.underlying100
  a22 := Tryz.isAgg100
  z22 := Tryz.sizeOf100
  v22 := Tryz.zeroValue100
  t25 := Tryz.underlying157
  a25 := Tryz.isAgg157
  z25 := Tryz.sizeOf157
  v25 := Tryz.zeroValue157
  t39 := Tryz.underlying178
  a39 := Tryz.isAgg178
  z39 := Tryz.sizeOf178
  v39 := Tryz.zeroValue178
  t45 := Tryz.underlying187
  a45 := Tryz.isAgg187
  z45 := Tryz.sizeOf187
  v45 := Tryz.zeroValue187
  t46 := Tryz.underlying188
  a46 := Tryz.isAgg188
  z46 := Tryz.sizeOf188
  v46 := Tryz.zeroValue188
  t50 := Tryz.underlying155
  a50 := Tryz.isAgg155
  z50 := Tryz.sizeOf155
  v50 := Tryz.zeroValue155
  t53 := Tryz.underlying194
  a53 := Tryz.isAgg194
  z53 := Tryz.sizeOf194
  v53 := Tryz.zeroValue194
  t55 := Tryz.underlying196
  a55 := Tryz.isAgg196
  z55 := Tryz.sizeOf196
  v55 := Tryz.zeroValue196
  t66 := Tryz.underlying201
  a66 := Tryz.isAgg201
  z66 := Tryz.sizeOf201
  v66 := Tryz.zeroValue201
  t70 := Tryz.underlying205
  a70 := Tryz.isAgg205
  z70 := Tryz.sizeOf205
  v70 := Tryz.zeroValue205
  t76 := Tryz.underlying213
  a76 := Tryz.isAgg213
  z76 := Tryz.sizeOf213
  v76 := Tryz.zeroValue213
  t77 := Tryz.underlying214
  a77 := Tryz.isAgg214
  z77 := Tryz.sizeOf214
  v77 := Tryz.zeroValue214 }
end Go.Proofs
end
section
namespace Go.Proofs.YtgfnijhhhgjabaaGreatDoor
open Go.RowKit Go.Maps
set_option linter.unusedVariables false
set_option linter.unusedSimpArgs false

/-! slices.SortFunc over elements of some cells each -/
theorem grown_of {w w' : World} (hb : Below w.heap.size w w') (hd : w.drawn ≤ w'.drawn) : ∃ q os, w' = Go.Sort.grow (w.drewN q) os := by
  refine ⟨w'.drawn - w.drawn, w'.heap.extract w.heap.size w'.heap.size, ?_⟩
  obtain ⟨heap, tape, drawn, os, output⟩ := w
  obtain ⟨heap', tape', drawn', os', output'⟩ := w'
  obtain ⟨h1, h2, h3, h4, h5⟩ := hb
  simp only at h1 h2 h3 h4 h5 hd
  subst h1 h2 h3
  have e1 : drawn + (drawn' - drawn) = drawn' := by omega
  have e2 : heap ++ heap'.extract heap.size heap'.size = heap' := by
    apply Array.ext_getElem?
    intro i
    by_cases hi : i < heap.size
    · rw [Array.getElem?_append_left hi, h5 i hi]
    · rw [Array.getElem?_append_right (by omega), Array.getElem?_extract]
      by_cases hj : i < heap'.size
      · rw [if_pos (by omega)]
        congr 1
        omega
      · rw [if_neg (by omega), Array.getElem?_eq_none (by omega)]
  show World.mk heap' tape' drawn' os' output' = World.mk (heap ++ heap'.extract heap.size heap'.size) tape' (drawn + (drawn' - drawn)) os' output'
  rw [e1, e2]
section
variable {α : Type} [Inhabited α]
/-- elements of k cells, flat -/
theorem flatK_list (enc : α → List Value) (k : Nat) (hk0 : 0 < k) (hk : ∀ x, (enc x).length = k) (d : Array α) : (Go.Sort.flatK enc k d).toList = d.toList.flatMap enc := by
  have hfl := flat_len enc k hk d.toList
  apply List.ext_getElem?
  intro j
  by_cases hj : j < d.size * k
  · have hd : j / k < d.size := Nat.div_lt_of_lt_mul (by rw [Nat.mul_comm]; exact hj)
    have e1 : (Go.Sort.flatK enc k d).toList[j]? = some ((Go.Sort.flatK enc k d)[j]!) := by
      rw [Array.getElem?_toList, getElem!_pos (Go.Sort.flatK enc k d) j (by simpa using hj), Array.getElem?_eq_getElem]
    rw [e1, Go.Sort.get_flatK enc k d j hj]
    have h2 := flat_at enc k hk (default : α) d.toList (j / k) (j % k) (by simpa using hd) (Nat.mod_lt _ hk0)
    rw [show j / k * k + j % k = j by rw [Nat.mul_comm]; exact Nat.div_add_mod j k] at h2
    rw [h2]
    have hx : d.toList.getD (j / k) default = d[j / k]! := by
      rw [List.getD, Array.getElem?_toList, Array.getElem?_eq_getElem hd, getElem!_pos d (j / k) hd]
      rfl
    rw [hx]
    have hl : j % k < (enc (d[j / k]!)).length := by rw [hk]; exact Nat.mod_lt _ hk0
    rw [getElem!_pos (enc (d[j / k]!)) (j % k) hl]
    exact (List.getElem?_eq_getElem hl).symm
  · rw [List.getElem?_eq_none (by simpa using hj), List.getElem?_eq_none (by rw [hfl]; simpa using hj)]
theorem holdsK_own {w : World} {B g cap n k : Nat} {ty : TypeId} {xs : List Value} (enc : α → List Value) (hk0 : 0 < k) (hk : ∀ x, (enc x).length = k) (d : Array α) (hd : d.toList.flatMap enc = xs) (hs : d.size = n) (own : w.ownsRow B ty k (.slice (some ⟨g, 0, none⟩) n cap) n xs) : Go.Sort.HoldsK enc k w g 0 d := by
  subst hs
  intro j hj
  have hj' : j < d.size * k := by rw [Go.Sort.size_flatK] at hj; exact hj
  have hF := flatK_list enc k hk0 hk d
  rw [hd] at hF
  have own' := own
  obtain ⟨_, ⟨e, h0⟩ | ⟨g', cap', cur, e, _, hgb, _⟩⟩ := own
  · cases e
  · cases e
    refine ⟨?_, by simp [World.frozen?, hgb]⟩
    rw [Nat.zero_add, own'.cellAt j hj', ← hF, Array.getElem?_toList, Array.getElem?_eq_getElem hj, getElem!_pos (Go.Sort.flatK enc k d) j hj]
    rfl
/-- a row whose cells are written anew, and blocks behind all -/
theorem own_put_row {w2 w3 : World} {B g cap n k : Nat} {ty : TypeId} {xs ys : List Value} (F : Array Value) (hF : F.toList = ys) (hFs : F.size = n * k) (own : w2.ownsRow B ty k (.slice (some ⟨g, 0, none⟩) n cap) n xs)
    (hos : w3.os = w2.os) (htp : w3.tape = w2.tape) (hout : w3.output = w2.output) (hsz : w2.heap.size ≤ w3.heap.size) (hblk : ∀ j, j < w2.heap.size → j ≠ g → w3.heap[j]? = w2.heap[j]?) (hg : ∀ cur t fr, w2.heap[g]? = some (.cells cur t fr) → w3.heap[g]? = some (.cells (Go.Sort.putCells id 0 F cur) t fr)) :
    w3.ownsRow B ty k (.slice (some ⟨g, 0, none⟩) n cap) n ys ∧ Below B w2 w3 := by
  obtain ⟨_, ⟨e, h0⟩ | ⟨g', cap', cur, e, hB, hgb, hnc, hcm, hcs, _⟩⟩ := own
  · cases e
  · cases e
    have hlt : g < w2.heap.size := (Array.getElem?_eq_some_iff.1 hgb).1
    have hg2 := hg _ _ _ hgb
    refine ⟨⟨by rw [← hF, Array.length_toList, hFs], .inr ⟨g, cap, _, rfl, hB, hg2, hnc, hcm, by simp [Go.Sort.putCells, hcs], ?_⟩⟩, ⟨hos, htp, hout, hsz, fun j hj => hblk j (by omega) (by omega)⟩⟩
    rw [← hF]
    apply List.ext_getElem?
    intro j
    by_cases hj : j < n * k
    · have hjc : j < cur.size := by rw [hcs]; exact Nat.lt_of_lt_of_le hj (Nat.mul_le_mul_right k hnc)
      rw [List.getElem?_take, if_pos hj, Array.getElem?_toList, Go.Sort.putCells, Array.getElem?_mapIdx, Array.getElem?_eq_getElem hjc, Array.getElem?_toList, Array.getElem?_eq_getElem (by omega)]
      simp only [Option.map_some]
      rw [if_pos (by omega), Nat.sub_zero, getElem!_pos F j (by omega)]
      rfl
    · rw [List.getElem?_eq_none (by simp; omega), List.getElem?_eq_none (by simp; omega)]
theorem own_sortedK {w2 : World} {B g cap n k m : Nat} {ty : TypeId} {xs : List Value} (enc : α → List Value) (hk0 : 0 < k) (hk : ∀ x, (enc x).length = k) (d : Array α) (os : Array Obj) (hs : d.size = n) (own : w2.ownsRow B ty k (.slice (some ⟨g, 0, none⟩) n cap) n xs) :
    (sortWorldK enc k w2 g 0 m d os).ownsRow B ty k (.slice (some ⟨g, 0, none⟩) n cap) n (d.toList.flatMap enc) ∧ Below B w2 (sortWorldK enc k w2 g 0 m d os) := by
  refine own_put_row (Go.Sort.flatK enc k d) (flatK_list enc k hk0 hk d) (by rw [Go.Sort.size_flatK, hs]) own rfl rfl rfl ?_ (fun j hj hne => ?_) (fun cur t fr h => ?_)
  · show w2.heap.size ≤ ((w2.heap.modify g _) ++ os).size
    simp
  · show ((w2.heap.modify g _) ++ os)[j]? = _
    rw [Array.getElem?_append_left (by simpa using hj), Array.getElem?_modify, if_neg (fun e => hne e.symm)]
  · have hlt : g < w2.heap.size := (Array.getElem?_eq_some_iff.1 h).1
    show ((w2.heap.modify g _) ++ os)[g]? = _
    rw [Array.getElem?_append_left (by simpa using hlt), Array.getElem?_modify, if_pos rfl, h]
    rfl
end
end Go.Proofs.YtgfnijhhhgjabaaGreatDoor
end
section
namespace Go.Proofs.YtgfnijhhhgjabaaGreatDoor
open Go.RowKit Go.Maps
set_option linter.unusedVariables false
set_option linter.unusedSimpArgs false
attribute [local go_sem ↓] Go.wp_at_zero Go.wp_at_succ

/-- two names compared -/
def cmpS (a b : ByteArray) : Int := if ltS a b = true then -1 else if ltS b a = true then 1 else 0
theorem isNaNS_any (a : ByteArray) (w : World) : Calls Tryz.prog 112 #[.string a] w fun e w' => e = .returned (.bool false) ∧ w' = w := by
  go_enter Tryz.func112, Tryz.ntmps112
  go_wp2
  go_ret
  simp
set_option maxHeartbeats 1600000 in
theorem cmpStr_any (a b : ByteArray) (w : World) : Calls Tryz.prog 90 #[.string a, .string b] w fun e w' => e = .returned (.int .i64 (cmpS a b)) ∧ w' = w := by
  have HA := Lib.hid (isNaNS_any a w)
  have HB := Lib.hid (isNaNS_any b w)
  cases h1 : ltS a b
  · cases h2 : ltS b a
    · have hc : Hid (cmpS a b = 0) := by show _ = _; simp [cmpS, h1, h2]
      obtain rfl := ltS_tri h1 h2
      have h1' : Op.bytesLess a.toList a.toList = false := h1
      clear h1 h2
      go_enter Tryz.func90, Tryz.ntmps90
      go_wp2_with fail
      refine HA.out.mono ?_
      rintro e w1 ⟨rfl, rfl⟩
      go_wp2_with fail
      refine HB.out.mono ?_
      rintro e w1 ⟨rfl, rfl⟩
      go_wp2
      go_ret
      exact ⟨by rw [hc.out]; rfl, rfl⟩
    · have hc : Hid (cmpS a b = 1) := by show _ = _; simp [cmpS, h1, h2]
      have h1' : Op.bytesLess a.toList b.toList = false := h1
      have hne : (a.toList == b.toList) = false := by
        rw [beq_eq_false_iff_ne]
        intro e
        rw [toList_inj e, ltS_irr] at h2
        cases h2
      clear h1 h2
      go_enter Tryz.func90, Tryz.ntmps90
      go_wp2_with fail
      refine HA.out.mono ?_
      rintro e w1 ⟨rfl, rfl⟩
      go_wp2_with fail
      refine HB.out.mono ?_
      rintro e w1 ⟨rfl, rfl⟩
      go_wp2
      go_ret
      exact ⟨by rw [hc.out]; rfl, rfl⟩
  · have hc : Hid (cmpS a b = -1) := by show _ = _; simp [cmpS, h1]
    have h1' : Op.bytesLess a.toList b.toList = true := h1
    clear h1
    go_enter Tryz.func90, Tryz.ntmps90
    go_wp2_with fail
    refine HA.out.mono ?_
    rintro e w1 ⟨rfl, rfl⟩
    go_wp2_with fail
    refine HB.out.mono ?_
    rintro e w1 ⟨rfl, rfl⟩
    go_wp2
    go_ret
    exact ⟨by rw [hc.out]; rfl, rfl⟩
theorem cmpPd_any (x y : Pd) (w : World) : Calls Tryz.prog 89 #[.agg x.cells.toArray, .agg y.cells.toArray] w fun e w' => e = .returned (.int .i64 (cmpS x.n y.n)) ∧ ∃ q os, w' = Go.Sort.grow (w.drewN q) os := by
  have HC : Hid (∀ u, Calls Tryz.prog 90 #[.string x.n, .string y.n] u fun e w' => e = .returned (.int .i64 (cmpS x.n y.n)) ∧ w' = u) := fun u => cmpStr_any x.n y.n u
  generalize cmpS x.n y.n = c at HC
  unfold Pd.cells
  go_enter Tryz.func89, Tryz.ntmps89
  go_wp2_with fail
  refine (HC.out _).mono ?_
  rintro e w1 ⟨rfl, rfl⟩
  clear HC
  go_wp2
  go_ret
  refine ⟨rfl, grown_of ?_ ?_⟩
  · first
      | exact Below.refl _ _
      | exact ((Below.refl _ _).alloc (Nat.le_refl _) _).alloc (by simp) _
      | exact (((Below.refl _ _).alloc (Nat.le_refl _) _).alloc (by simp) _).drew
  · simp
instance : Inhabited Pd := ⟨Pd0⟩
def cfP (x y : Pd) : Int := cmpS x.n y.n
theorem cmpS_neg {a b : ByteArray} : cmpS a b < 0 ↔ ltS a b = true := by
  unfold cmpS
  split
  · rename_i h; simp [h]
  · rename_i h
    split
    · simp [h]
    · simp [h]
theorem swoP : Go.Sort.SWO (ltOf cfP) where
  irrefl x := by simp [ltOf, cfP, cmpS, ltS_irr]
  trans x y z h1 h2 := by
    have h1 : cfP x y < 0 := of_decide_eq_true h1
    have h2 : cfP y z < 0 := of_decide_eq_true h2
    exact decide_eq_true (cmpS_neg.2 (ltS_trans (cmpS_neg.1 h1) (cmpS_neg.1 h2)))
  ntrans x y z h1 h2 := by
    have h1 : ¬ cfP x y < 0 := of_decide_eq_false h1
    have h2 : ¬ cfP y z < 0 := of_decide_eq_false h2
    refine decide_eq_false (fun (h : cfP x z < 0) => ?_)
    have h3 := cmpS_neg.1 h
    have h1' : ltS x.n y.n = false := by rw [← Bool.not_eq_true]; exact fun k => h1 (cmpS_neg.2 k)
    have h2' : ltS y.n z.n = false := by rw [← Bool.not_eq_true]; exact fun k => h2 (cmpS_neg.2 k)
    cases h4 : ltS y.n x.n with
    | false => rw [ltS_tri h1' h4] at h3; rw [h3] at h2'; cases h2'
    | true => rw [ltS_trans h4 h3] at h2'; cases h2'
/-- predicates of different names sorted -/
theorem sortPds {w : World} {B : Nat} {a : Option Addr} {cap : Nat} {l : List Pd} (own : w.ownsRow B 129 2 (.slice a l.length cap) l.length (l.flatMap Pd.cells)) (nd : (l.map Pd.n).Nodup) (hlen : l.length ≤ 1000000000) :
    Calls Tryz.prog 88 #[.slice a l.length cap, .func (.func 89) #[] #[]] w fun e w' => e = .returned (.tuple #[]) ∧ ∃ rs, rs.Perm l ∧ Up rs ∧ w'.ownsRow B 129 2 (.slice a l.length cap) l.length (rs.flatMap Pd.cells) ∧ Below B w w' := by
  have own' := own
  obtain ⟨_, ⟨e, h0⟩ | ⟨g, cap', cur, e, hgB, _⟩⟩ := own
  · have hr : l = [] := List.eq_nil_of_length_eq_zero h0
    subst hr
    have hcon := AnyF.slices_SortFunc_none Tryz.laysSort a cap (.func (.func 89) #[] #[]) w
    refine hcon.mono ?_
    rintro e2 w' ⟨he, rfl⟩
    exact ⟨he, [], List.Perm.refl _, by simp [Up], own', Below.refl _ _⟩
  · obtain ⟨rfl, _, rfl⟩ := Value.slice.inj e
    have hs : l.toArray.size = l.length := by simp
    have hg : g < w.heap.size := (own'.lt g rfl).2
    have hcmp : CmpLays Tryz.prog 89 #[] Pd.cells 2 cfP g 0 l.toArray.size w := fun m os dk hdk x y => cmpPd_any x y _
    have hcon := AnyQ.slices_SortFunc Tryz.laysSort 2 Tryz.isAgg129 Tryz.sizeOf129 Pd.cells (fun _ => rfl) (fun x v hv => by
      simp [Pd.cells] at hv
      rcases hv with rfl | rfl <;> rfl) cfP swoP 89 #[] g 0 cap l.toArray w (enters_of Tryz.func89 (by kernel_rfl) rfl) hcmp (holdsK_own Pd.cells (by decide) (fun _ => rfl) l.toArray (by simp) hs own') hg (by rw [hs]; omega)
    rw [hs] at hcon
    refine hcon.mono ?_
    rintro e w' ⟨he, d', m, os, hp, hsd, rfl⟩
    obtain ⟨p1, p2, p3⟩ := hp
    have hs' : d'.size = l.length := by rw [p1, hs]
    obtain ⟨o1, o2⟩ := own_sortedK (m := m) Pd.cells (by decide) (fun _ => rfl) d' os hs' own'
    have e1 : (d'.extract 0 l.length).toList = d'.toList := by rw [← hs']; simp
    have e2 : (l.toArray.extract 0 l.length).toList = l := by simp
    rw [e1, e2] at p3
    refine ⟨he, d'.toList, p3, ?_, o1, o2⟩
    refine List.pairwise_iff_getElem.2 fun i j hi hj hij => ?_
    have hi' : i < d'.size := by simpa using hi
    have hj' : j < d'.size := by simpa using hj
    have h1 := hsd i j (Nat.zero_le _) hij (by omega)
    rw [getElem!_pos d' j hj', getElem!_pos d' i hi'] at h1
    have h2 : ¬ cfP d'[j] d'[i] < 0 := of_decide_eq_false h1
    have h3 : ltS d'[j].n d'[i].n = false := by rw [← Bool.not_eq_true]; exact fun k => h2 (cmpS_neg.2 k)
    show ltS d'.toList[i].n d'.toList[j].n = true
    have ei : d'.toList[i] = d'[i] := by simp
    have ej : d'.toList[j] = d'[j] := by simp
    rw [ei, ej]
    cases h4 : ltS d'[i].n d'[j].n with
    | true => rfl
    | false =>
      have nd' : (d'.toList.map Pd.n).Nodup := (p3.map Pd.n).nodup_iff.2 nd
      have h5 := List.pairwise_iff_getElem.1 nd' i j (by simpa using hi) (by simpa using hj) hij
      simp only [List.getElem_map, ei, ej] at h5
      exact absurd (ltS_tri h4 h3) h5
end Go.Proofs.YtgfnijhhhgjabaaGreatDoor
end
