import Derived.Test.YtgfnijhhhgjabaaGreatDoorG3
import Derived.Lib.SmallJoins
import Derived.Maps.OwnSet
import Derived.Maps.AppendAt
import Derived.Deep.OwnRows
import Derived.DeepKeys4
section
namespace Go.Proofs.YtgfnijhhhgjabaaGreatDoor
open Go.RowKit Go.Maps
set_option linter.unusedVariables false
set_option linter.unusedSimpArgs false
attribute [local go_sem ↓] Go.wp_at_zero Go.wp_at_succ

/-- lists of names in memory -/
def strB (s : ByteArray) : List Value := [.string s]
def atS (l : List ByteArray) (i : Nat) : ByteArray := l.getD i noS
theorem atS_eq {l : List ByteArray} {i : Nat} (h : i < l.length) : atS l i = l[i] := by simp [atS, List.getD, List.getElem?_eq_getElem h]
theorem ls_str {w : World} {v : Value} {l : List ByteArray} (h : Ls w v l.length (l.flatMap strB)) : ∃ a c, v = .slice a l.length c ∧ l.length ≤ c ∧ c ≤ maxLen ∧ (0 < l.length → ∃ g off, a = some ⟨g, off, none⟩ ∧ g < w.heap.size ∧ ∀ i, i < l.length → w.cell? ⟨g, off + i, none⟩ = some (.string (atS l i))) := by
  obtain ⟨hn, a, c, hv, h1, h2, hc⟩ := h
  refine ⟨a, c, hv, h1, h2, fun h0 => ?_⟩
  obtain ⟨g, off, ha, hg, hf⟩ := hc h0
  refine ⟨g, off, ha, hg, fun i hi => ?_⟩
  have := hf.elem (k := 1) (fun _ => rfl) noS hi (j := 0) (by omega) rfl
  rw [Nat.mul_one, Nat.add_zero] at this
  exact this
def inB (l : List ByteArray) (s : ByteArray) : Bool := l.any (fun x => decide (x = s))
theorem inB_iff {l : List ByteArray} {s : ByteArray} : inB l s = true ↔ s ∈ l := by
  unfold inB
  rw [List.any_eq_true]
  constructor
  · rintro ⟨x, hx, e⟩
    rw [← of_decide_eq_true e]
    exact hx
  · exact fun h => ⟨s, h, decide_eq_true rfl⟩
/-- the names of variables among terms, as they first stand there -/
def vsT : List ByteArray → List T → List ByteArray
  | out, [] => out
  | out, t :: ts => if t.v = noS ∨ t.v = blankS ∨ inB out t.v = true then vsT out ts else vsT (out ++ [t.v]) ts
theorem vsT_len : ∀ (ts : List T) (out : List ByteArray), (vsT out ts).length ≤ out.length + ts.length
  | [], out => by simp [vsT]
  | t :: ts, out => by
    unfold vsT
    split
    · have := vsT_len ts out; simp only [List.length_cons]; omega
    · have := vsT_len ts (out ++ [t.v]); simp only [List.length_cons, List.length_append, List.length_nil] at this ⊢; omega
theorem vsT_mem : ∀ (ts : List T) (out : List ByteArray) (n : ByteArray), n ∈ vsT out ts → n ∈ out ∨ ∃ t ∈ ts, t.v = n
  | [], out, n, h => .inl (by simpa [vsT] using h)
  | t :: ts, out, n, h => by
    unfold vsT at h
    split at h
    · rcases vsT_mem ts out n h with h1 | ⟨x, h1, h2⟩
      · exact .inl h1
      · exact .inr ⟨x, List.mem_cons_of_mem _ h1, h2⟩
    · rcases vsT_mem ts _ n h with h1 | ⟨x, h1, h2⟩
      · rcases List.mem_append.1 h1 with h3 | h3
        · exact .inl h3
        · exact .inr ⟨t, List.mem_cons_self, (List.mem_singleton.1 h3).symm⟩
      · exact .inr ⟨x, List.mem_cons_of_mem _ h1, h2⟩
theorem vsT_keeps : ∀ (ts : List T) (out : List ByteArray) (n : ByteArray), n ∈ out → n ∈ vsT out ts
  | [], out, n, h => by simpa [vsT] using h
  | t :: ts, out, n, h => by
    unfold vsT
    split
    · exact vsT_keeps ts out n h
    · exact vsT_keeps ts _ n (List.mem_append.2 (.inl h))
theorem vsT_has : ∀ (ts : List T) (out : List ByteArray), ∀ t ∈ ts, t.v ≠ noS → t.v ≠ blankS → t.v ∈ vsT out ts
  | [], out, t, h, _, _ => by cases h
  | x :: ts, out, t, h, h1, h2 => by
    unfold vsT
    rcases List.mem_cons.1 h with rfl | h3
    · split
      · rename_i hc
        rcases hc with hc | hc | hc
        · exact absurd hc h1
        · exact absurd hc h2
        · exact vsT_keeps ts out _ (inB_iff.1 hc)
      · exact vsT_keeps ts _ _ (List.mem_append.2 (.inr (List.mem_singleton.2 rfl)))
    · split
      · exact vsT_has ts out t h3 h1 h2
      · exact vsT_has ts _ t h3 h1 h2

theorem mem_of_atS {l : List ByteArray} {k : Nat} {s : ByteArray} (h : k < l.length) (e : atS l k = s) : s ∈ l := by
  rw [← e, atS_eq h]
  exact List.getElem_mem h
theorem not_mem_atS {l : List ByteArray} {s : ByteArray} (h : ∀ j, j < l.length → atS l j ≠ s) : s ∉ l := by
  intro hm
  obtain ⟨j, hj, e⟩ := List.getElem_of_mem hm
  exact h j hj (by rw [atS_eq hj]; exact e)
theorem infoStr : (Tryz.prog.info? 9).map (fun i => (i.zero, i.size, i.bytes)) = some (some (.string ⟨#[]⟩), 1, 16) := by kernel_rfl
theorem vsT_skip {t : T} {ts : List T} {out : List ByteArray} (h : t.v = noS ∨ t.v = blankS ∨ inB out t.v = true) : vsT out (t :: ts) = vsT out ts := by rw [vsT, if_pos h]
theorem vsT_take {t : T} {ts : List T} {out : List ByteArray} (h1 : ¬ t.v = noS) (h2 : ¬ t.v = blankS) (h3 : ¬ inB out t.v = true) : vsT out (t :: ts) = vsT (out ++ [t.v]) ts := by
  rw [vsT, if_neg]
  rintro (h | h | h)
  · exact h1 h
  · exact h2 h
  · exact h3 h
set_option maxHeartbeats 800000 in
theorem in_any (s : ByteArray) (v : Value) (l : List ByteArray) (w : World) (hl : Ls w v l.length (l.flatMap strB)) : Calls Tryz.prog 20 #[.string s, v] w fun e w' => e = .returned (.bool (inB l s)) ∧ w' = w := by
  obtain ⟨a, c, rfl, hc1, hc2, hat⟩ := ls_str hl
  have hmax : l.length ≤ maxLen := Nat.le_trans hc1 hc2
  unfold maxLen at hmax
  have HAT : Hid _ := hat
  obtain ⟨r, HR⟩ : ∃ r, Hid (inB l s = r) := ⟨_, rfl⟩
  rw [HR.out]
  clear hat hl
  go_enter Tryz.func20, Tryz.ntmps20
  go_wp2
  go_loopw [5] (fun i wr => wr = w ∧ ∃ k : Nat, k ≤ l.length ∧ i = .int .i64 k ∧ Hid (∀ j, j < k → atS l j ≠ s)) (fun i _ => l.length - (intOf i).toNat)
  case atStart => exact ⟨rfl, 0, Nat.zero_le _, rfl, fun j hj => absurd hj (by omega)⟩
  case round =>
    obtain ⟨rfl, k, hk, rfl, HB⟩ := hrel
    by_cases hlt : k < l.length
    · have hlt' : (k : Int) < (l.length : Int) := by omega
      obtain ⟨g, off, rfl, hg, hT⟩ := HAT.out (by omega)
      have x0 := hT k hlt
      obtain ⟨y, HY⟩ : ∃ y, Hid (atS l k = y) := ⟨_, rfl⟩
      rw [HY.out] at x0
      clear hT
      by_cases e : y = s
      · have hB : (y.toList == s.toList) = true := by rw [e]; simp
        have HV : Hid (r = true) := by
          show r = true
          rw [← HR.out]
          exact inB_iff.2 (mem_of_atS hlt (HY.out.trans e))
        clear e
        go_wp2
        go_ret
        exact ⟨by rw [HV.out]; rfl, rfl⟩
      · have hB : (y.toList == s.toList) = false := by
          rw [beq_eq_false_iff_ne]
          exact fun h => e (toList_inj h)
        have HE : Hid (y ≠ s) := e
        clear e
        go_wp2
        go_roundw
        case rel =>
          refine ⟨trivial, k + 1, by omega, by go_num, fun j hj => ?_⟩
          by_cases h : j < k
          · exact HB.out j h
          · obtain rfl : j = k := by omega
            rw [HY.out]
            exact HE.out
        case measure => simp [intOf]; omega
    · obtain rfl : k = l.length := by omega
      have HV : Hid (r = false) := by
        show r = false
        rw [← HR.out]
        exact Bool.eq_false_iff.2 (fun h => not_mem_atS HB.out (inB_iff.1 h))
      go_wp2
      go_ret
      exact ⟨by rw [HV.out]; rfl, rfl⟩
set_option maxHeartbeats 1600000 in
theorem vars_any (v : Value) (ts : List T) (w : World) (h24 : ts.length ≤ 4398046511104) (hl : Lt w v ts) : Calls Tryz.prog 26 #[v] w fun e w' => ∃ sv, e = .returned sv ∧ w'.ownsRow w.heap.size 9 1 sv (vsT [] ts).length ((vsT [] ts).flatMap strB) ∧ Below w.heap.size w w' := by
  obtain ⟨i0, hi0, hz0, hz1, hz2⟩ := info_parts infoStr
  have HWF : Hid (∀ t ∈ ts, t.wf) := hl.wf
  obtain ⟨a, c, rfl, hc1, hc2, hat⟩ := hl.form
  have HAT : Hid _ := hat
  obtain ⟨r, HR⟩ : ∃ r, Hid (vsT [] ts = r) := ⟨_, rfl⟩
  rw [HR.out]
  clear hl hat hc1 hc2
  go_enter Tryz.func26, Tryz.ntmps26
  go_wp2
  go_loopw [3, 4] (fun sv i wr => ∃ k : Nat, k ≤ ts.length ∧ i = .int .i64 k ∧ Below w.heap.size w wr ∧ ∃ s : List ByteArray, wr.ownsRow w.heap.size 9 1 sv s.length (s.flatMap strB) ∧ s.length ≤ k ∧ Hid (vsT s (ts.drop k) = r)) (fun _ i _ => ts.length - (intOf i).toNat)
  case atStart => exact ⟨0, Nat.zero_le _, rfl, Below.refl _ _, [], World.ownsRow_nil _ _ _ _, by simp, HR⟩
  case round =>
    obtain ⟨k, hk, rfl, bel, s, ho, hsl, HS⟩ := hrel
    have HO : Hid (wr.ownsRow w.heap.size 9 1 _ s.length (s.flatMap strB)) := ho
    have HBEL : Hid (Below w.heap.size w wr) := bel
    obtain ⟨ao, co, rfl, hlo⟩ := own_form ho
    by_cases hlt : k < ts.length
    · have hlt' : (k : Int) < (ts.length : Int) := by omega
      obtain ⟨g, off, rfl, hg, hT⟩ := HAT.out (by omega)
      obtain ⟨x0, x1, x2, x3⟩ := (hT k hlt).below bel hg
      have hxw := atT_wf HWF.out k
      have e1 : ts.drop k = atT ts k :: ts.drop (k + 1) := by rw [atT_eq hlt]; exact List.drop_eq_getElem_cons hlt
      have HS' : Hid (vsT s (atT ts k :: ts.drop (k + 1)) = r) := by show _ = r; rw [← e1]; exact HS.out
      clear HS e1 hT ho bel x1 x2 x3
      generalize atT ts k = x at *
      have HXW : Hid _ := hxw
      clear hxw
      by_cases en : x.v = noS
      · have he : x.v.toList.isEmpty = true := by rw [en, ByteArray.toList_eq]; rfl
        have HN : Hid (vsT s (ts.drop (k + 1)) = r) := by show _ = r; rw [← HS'.out, vsT_skip (.inl en)]
        clear en HS'
        go_wp2
        go_roundw
        case rel => exact ⟨k + 1, by omega, by go_num, HBEL.out, s, HO.out, by omega, HN⟩
        case measure => simp [intOf]; omega
      · have he := some_iff x.v en
        by_cases eb : x.v = blankS
        · have hB : (x.v.toList == [95]) = true := by rw [eb, ByteArray.toList_eq]; rfl
          have HN : Hid (vsT s (ts.drop (k + 1)) = r) := by show _ = r; rw [← HS'.out, vsT_skip (.inr (.inl eb))]
          clear en eb HS'
          go_wp2
          go_roundw
          case rel => exact ⟨k + 1, by omega, by go_num, HBEL.out, s, HO.out, by omega, HN⟩
          case measure => simp [intOf]; omega
        · have hB := blank_iff eb
          have HEN : Hid (¬ x.v = noS) := en
          have HEB : Hid (¬ x.v = blankS) := eb
          clear en eb
          have HIN : Hid _ := in_any x.v _ s wr (ls_own HO.out)
          by_cases ei : inB s x.v = true
          · have HN : Hid (vsT s (ts.drop (k + 1)) = r) := by show _ = r; rw [← HS'.out, vsT_skip (.inr (.inr ei))]
            rw [ei] at HIN
            clear ei HS'
            go_wp2_with fail
            refine Calls.mono HIN.out ?_
            rintro e w1 ⟨rfl, rfl⟩
            go_wp2
            go_roundw
            case rel => exact ⟨k + 1, by omega, by go_num, HBEL.out, s, HO.out, by omega, HN⟩
            case measure => simp [intOf]; omega
          · have HN : Hid (vsT (s ++ [x.v]) (ts.drop (k + 1)) = r) := by show _ = r; rw [← HS'.out, vsT_take HEN.out HEB.out ei]
            rw [Bool.eq_false_iff.2 ei] at HIN
            clear ei HS'
            go_wp2_with fail
            refine Calls.mono HIN.out ?_
            rintro e w1 ⟨rfl, rfl⟩
            have hzw := HBEL.out.size
            go_wp2_with (at_builtin; refine wpList_append_own_at _ rfl _ _ 33 rfl w.heap.size 9 i0 _ 1 16 Tryz.underlying33 hi0 hz0 hz1 hz2 rfl (by decide) _ _ _ rfl (own_below HO.out ((Below.refl _ _).alloc (Nat.le_refl _) _)) ⟨_, 0, none⟩ 1 1 [.string x.v] rfl rfl (lit_news _ #[.string x.v] _) (by simp [Value.oneCell']) (by unfold maxLen; omega) (by omega) (by simp; omega) ?_; intro v' w2 hown' hgrow hnil hloc)
            go_roundw
            case rel =>
              refine ⟨k + 1, by omega, by go_num, ?_, s ++ [x.v], ?_, by simp; omega, HN⟩
              · exact (HBEL.out.alloc HBEL.out.size _).grown hgrow (by have := HBEL.out.size; simp; omega) (fun j hj => (HO.out.lt j hj).1)
              · rw [List.flatMap_append, List.length_append]
                exact hown'
            case measure => simp [intOf]; omega
    · obtain rfl : k = ts.length := by omega
      have HV : Hid (s = r) := by
        show s = r
        rw [← HS.out, List.drop_length]
        simp [vsT]
      go_wp2
      go_ret
      rw [← HV.out]
      exact ⟨_, rfl, HO.out, HBEL.out⟩
theorem atomVars_any (pr : ByteArray) (v : Value) (ts : List T) (w : World) (h24 : ts.length ≤ 4398046511104) (hl : Lt w v ts) : Calls Tryz.prog 46 #[.agg #[.string pr, v]] w fun e w' => ∃ sv, e = .returned sv ∧ w'.ownsRow w.heap.size 9 1 sv (vsT [] ts).length ((vsT [] ts).flatMap strB) ∧ Below w.heap.size w w' := by
  obtain ⟨a, c, rfl, hc1, hc2, -⟩ := hl.form
  have b0 := (Below.refl w.heap.size w).alloc (Nat.le_refl _) (.cells #[.string pr, .slice a ts.length c] 48)
  have HL : Hid _ := hl.below b0
  clear hl
  go_enter Tryz.func46, Tryz.ntmps46
  go_wp2_with fail
  refine (vars_any _ ts _ h24 HL.out).mono ?_
  rintro e w1 ⟨sv, rfl, ho, b1⟩
  go_wp2
  go_ret
  exact ⟨_, rfl, Go.Joins.ownsRow_le ho (by simp), b0.trans (b1.mono b0.size)⟩
end Go.Proofs.YtgfnijhhhgjabaaGreatDoor
end
section
namespace Go.Proofs.YtgfnijhhhgjabaaGreatDoor
open Go.RowKit Go.Maps Go.ChangeMaps
set_option linter.unusedVariables false
set_option linter.unusedSimpArgs false

theorem keyedS : Keyed Tryz.prog 9 := string_keyed Tryz.underlying9
theorem keyOf_s (s : ByteArray) (h : s.size ≤ maxLen) : keyOf Tryz.prog 9 (.string s) = some (.string s.data.toList) := by
  unfold keyOf mapKey
  rw [Tryz.underlying9]
  simp [h]
/-- block b is a set of these names -/
def SetIs (w : World) (b : Nat) (ss : List ByteArray) : Prop :=
  ∃ es clock, w.heap[b]? = some (.map es clock) ∧ es.toList.map (fun e => (e.key, e.val)) = ss.map (fun s => (Value.string s, Value.agg #[])) ∧ ∀ s ∈ ss, s.size ≤ maxLen
theorem SetIs.lt {w : World} {b : Nat} {ss : List ByteArray} (h : SetIs w b ss) : b < w.heap.size := by
  obtain ⟨es, c, hb, _⟩ := h
  exact (Array.getElem?_eq_some_iff.1 hb).1
theorem SetIs.of_block {w w' : World} {b : Nat} {ss : List ByteArray} (h : SetIs w b ss) (e : w'.heap[b]? = w.heap[b]?) : SetIs w' b ss := by
  obtain ⟨es, c, hb, r⟩ := h
  exact ⟨es, c, e.trans hb, r⟩
theorem SetIs.made (w : World) : SetIs (w.alloc (.map #[] 0)) w.heap.size [] := ⟨#[], 0, heap_alloc_new w _, rfl, by simp⟩
theorem sents_at {es : Array MapEntry} {ss : List ByteArray} (h : es.toList.map (fun e => (e.key, e.val)) = ss.map (fun s => (Value.string s, Value.agg #[]))) {j : Nat} {e : MapEntry} (hj : es.toList[j]? = some e) :
    ∃ s, ss[j]? = some s ∧ e.key = .string s ∧ e.val = .agg #[] := by
  have h1 := congrArg (fun l => l[j]?) h
  simp only [List.getElem?_map, hj, Option.map_some] at h1
  obtain ⟨p, hp, he⟩ := Option.map_eq_some_iff.1 h1.symm
  simp only [Prod.mk.injEq] at he
  exact ⟨p, hp, he.1.symm, he.2.symm⟩
theorem sents_keys {es : Array MapEntry} {ss : List ByteArray} (h : es.toList.map (fun e => (e.key, e.val)) = ss.map (fun s => (Value.string s, Value.agg #[]))) (hw : ∀ s ∈ ss, s.size ≤ maxLen) : ∀ e ∈ es.toList, ∃ l, keyOf Tryz.prog 9 e.key = some l := by
  intro e he
  obtain ⟨j, hj⟩ := List.getElem?_of_mem he
  obtain ⟨p, hp, hk, _⟩ := sents_at h hj
  rw [hk]
  exact ⟨_, keyOf_s _ (hw p (List.mem_of_getElem? hp))⟩
theorem sents_no {es : Array MapEntry} {ss : List ByteArray} (h : es.toList.map (fun e => (e.key, e.val)) = ss.map (fun s => (Value.string s, Value.agg #[]))) {s : ByteArray} (hn : ∀ e ∈ es.toList, e.key ≠ .string s) : s ∉ ss := by
  intro hp
  obtain ⟨j, hj⟩ := List.getElem?_of_mem hp
  have h1 := congrArg (fun l => l[j]?) h
  simp only [List.getElem?_map, hj, Option.map_some] at h1
  obtain ⟨x, hx, he⟩ := Option.map_eq_some_iff.1 h1
  simp only [Prod.mk.injEq] at he
  exact hn x (List.mem_of_getElem? hx) he.1
theorem zeroNone (w : World) : (zeroValue 140).run Tryz.prog w = .ok (.agg #[]) w := by kernel_rfl
/-- '_, ok := m[s]' -/
theorem SetIs.look {w : World} {b : Nat} {ss : List ByteArray} (h : SetIs w b ss) {s : ByteArray} (hs : s.size ≤ maxLen) :
    (Instr.lookup 137 (.map (some b)) (.string s) true).run Tryz.prog w = .ok (.tuple #[.agg #[], .bool (inB ss s)]) w := by
  obtain ⟨es, c, hb, hes, hw⟩ := h
  have hl := keyOf_s s hs
  rcases keyedS.find w hl es.toList (sents_keys hes hw) with ⟨h1, h2⟩ | ⟨j, e, h1, h2, h3⟩
  · have hi : inB ss s = false := Bool.eq_false_iff.2 (fun hh => sents_no hes h2 (inB_iff.1 hh))
    rw [hi]
    simp [Instr.lookup, run_underlying Tryz.underlying137, MapKept.run_getObj_map hb, keyedS.check w _ hl, h1, Result.andThen, zeroNone]
  · obtain ⟨p, hp, hk, hval⟩ := sents_at hes h2
    have e : p = s := by
      have := hk.symm.trans h3
      injection this
    have hi : inB ss s = true := inB_iff.2 (e ▸ List.mem_of_getElem? hp)
    rw [hi]
    simp [Instr.lookup, run_underlying Tryz.underlying137, MapKept.run_getObj_map hb, keyedS.check w _ hl, h1, hval, Result.andThen]
/-- 'm[s] = struct{}{}' where s is not there -/
theorem SetIs.put {w : World} {b : Nat} {ss : List ByteArray} (h : SetIs w b ss) {s : ByteArray} (hs : s.size ≤ maxLen) (hn : s ∉ ss) :
    ∃ w', (Instr.mapUpdate 137 (.map (some b)) (.string s) (.agg #[])).run Tryz.prog w = .ok () w' ∧ SetIs w' b (ss ++ [s]) ∧ w.mapTurned w' b := by
  obtain ⟨es, c, hb, hes, hw⟩ := h
  have hl := keyOf_s s hs
  rcases keyedS.find w hl es.toList (sents_keys hes hw) with ⟨h1, h2⟩ | ⟨j, e, h1, h2, h3⟩
  · refine ⟨setBlock w b (.map (es.push ⟨.string s, .agg #[], c⟩) (c + 1)), by simp [Instr.mapUpdate, run_underlying Tryz.underlying137, MapKept.run_getObj_map hb, keyedS.check w false hl, h1, MapKept.run_setObj_map _ hb, Result.andThen, setBlock], ⟨_, _, heap_setBlock_same hb _, by simp [hes], ?_⟩, ?_⟩
    · intro p hp
      rcases List.mem_append.1 hp with hp | hp
      · exact hw p hp
      · simp at hp
        subst hp
        exact hs
    · exact ⟨es, c, _, _, hb, rfl⟩
  · obtain ⟨p, hp, hk, hval⟩ := sents_at hes h2
    refine absurd (List.mem_of_getElem? hp) ?_
    have e : p = s := by
      have := hk.symm.trans h3
      injection this
    rw [e]
    exact hn
end Go.Proofs.YtgfnijhhhgjabaaGreatDoor
end
section
namespace Go.Proofs.YtgfnijhhhgjabaaGreatDoor
open Go.RowKit Go.Maps Go.ChangeMaps
set_option linter.unusedVariables false
set_option linter.unusedSimpArgs false

/-- a name and the block of its variable -/
structure Vb where
  v : ByteArray
  b : Nat
def ptrV (x : Vb) : Value := .pointer (some ⟨x.b, 0, none⟩)
def entV (x : Vb) : Value × Value := (.string x.v, ptrV x)
/-- block b is the map from these names to these variables -/
def MapV (w : World) (b : Nat) (s : List Vb) : Prop :=
  ∃ es clock, w.heap[b]? = some (.map es clock) ∧ es.toList.map (fun e => (e.key, e.val)) = s.map entV ∧ ∀ p ∈ s, p.v.size ≤ maxLen
theorem MapV.lt {w : World} {b : Nat} {s : List Vb} (h : MapV w b s) : b < w.heap.size := by
  obtain ⟨es, c, hb, _⟩ := h
  exact (Array.getElem?_eq_some_iff.1 hb).1
theorem MapV.of_block {w w' : World} {b : Nat} {s : List Vb} (h : MapV w b s) (e : w'.heap[b]? = w.heap[b]?) : MapV w' b s := by
  obtain ⟨es, c, hb, r⟩ := h
  exact ⟨es, c, e.trans hb, r⟩
theorem MapV.made (w : World) : MapV (w.alloc (.map #[] 0)) w.heap.size [] := ⟨#[], 0, heap_alloc_new w _, rfl, by simp⟩
theorem vents_at {es : Array MapEntry} {s : List Vb} (h : es.toList.map (fun e => (e.key, e.val)) = s.map entV) {j : Nat} {e : MapEntry} (hj : es.toList[j]? = some e) :
    ∃ p, s[j]? = some p ∧ e.key = .string p.v ∧ e.val = ptrV p := by
  have h1 := congrArg (fun l => l[j]?) h
  simp only [List.getElem?_map, hj, Option.map_some] at h1
  obtain ⟨p, hp, he⟩ := Option.map_eq_some_iff.1 h1.symm
  simp only [entV, Prod.mk.injEq] at he
  exact ⟨p, hp, he.1.symm, he.2.symm⟩
theorem vents_keys {es : Array MapEntry} {s : List Vb} (h : es.toList.map (fun e => (e.key, e.val)) = s.map entV) (hw : ∀ p ∈ s, p.v.size ≤ maxLen) : ∀ e ∈ es.toList, ∃ l, keyOf Tryz.prog 9 e.key = some l := by
  intro e he
  obtain ⟨j, hj⟩ := List.getElem?_of_mem he
  obtain ⟨p, hp, hk, _⟩ := vents_at h hj
  rw [hk]
  exact ⟨_, keyOf_s _ (hw p (List.mem_of_getElem? hp))⟩
theorem vents_no {es : Array MapEntry} {s : List Vb} (h : es.toList.map (fun e => (e.key, e.val)) = s.map entV) {n : ByteArray} (hn : ∀ e ∈ es.toList, e.key ≠ .string n) : ∀ p ∈ s, p.v ≠ n := by
  intro p hp e
  obtain ⟨j, hj⟩ := List.getElem?_of_mem hp
  have h1 := congrArg (fun l => l[j]?) h
  simp only [List.getElem?_map, hj, Option.map_some] at h1
  obtain ⟨x, hx, he⟩ := Option.map_eq_some_iff.1 h1
  simp only [entV, Prod.mk.injEq] at he
  exact hn x (List.mem_of_getElem? hx) (by rw [he.1, e])
theorem zeroPv (w : World) : (zeroValue 80).run Tryz.prog w = .ok (.pointer none) w := by kernel_rfl
/-- where a name's variable lies; none -/
def seekV (s : List Vb) (n : ByteArray) : Option Vb := s.find? (fun p => decide (p.v = n))
def lookV (s : List Vb) (n : ByteArray) : Value := match seekV s n with
  | some p => ptrV p
  | none => .pointer none
theorem MapV.look {w : World} {b : Nat} {s : List Vb} (h : MapV w b s) (nd : (s.map Vb.v).Nodup) {n : ByteArray} (hn : n.size ≤ maxLen) :
    (Instr.lookup 76 (.map (some b)) (.string n) false).run Tryz.prog w = .ok (lookV s n) w := by
  obtain ⟨es, c, hb, hes, hw⟩ := h
  have hl := keyOf_s n hn
  rcases keyedS.find w hl es.toList (vents_keys hes hw) with ⟨h1, h2⟩ | ⟨j, e, h1, h2, h3⟩
  · have : lookV s n = .pointer none := by
      unfold lookV seekV
      rw [List.find?_eq_none.2 (fun p hp => by simpa using vents_no hes h2 p hp)]
    rw [this]
    simp [Instr.lookup, run_underlying Tryz.underlying76, MapKept.run_getObj_map hb, keyedS.check w _ hl, h1, Result.andThen, zeroPv]
  · obtain ⟨p, hp, hk, hval⟩ := vents_at hes h2
    have e : p.v = n := by
      have := hk.symm.trans h3
      injection this
    have hf : s.find? (fun p => decide (p.v = n)) = some p := by
      cases hf : s.find? (fun p => decide (p.v = n)) with
      | none => exact absurd e (by simpa using List.find?_eq_none.1 hf p (List.mem_of_getElem? hp))
      | some q =>
        have hq : q.v = n := by simpa using List.find?_some hf
        obtain ⟨i, hi⟩ := List.getElem?_of_mem (List.mem_of_find?_eq_some hf)
        have e1 : (s.map Vb.v)[i]? = some n := by rw [List.getElem?_map, hi, ← hq]; rfl
        have e2 : (s.map Vb.v)[j]? = some n := by rw [List.getElem?_map, hp, ← e]; rfl
        obtain ⟨i1, i2⟩ := List.getElem?_eq_some_iff.1 e1
        obtain ⟨j1, j2⟩ := List.getElem?_eq_some_iff.1 e2
        have nd' := List.pairwise_iff_getElem.1 nd
        have : i = j := by
          rcases Nat.lt_trichotomy i j with h | h | h
          · exact absurd (i2.trans j2.symm) (nd' i j i1 j1 h)
          · exact h
          · exact absurd (j2.trans i2.symm) (nd' j i j1 i1 h)
        rw [this, hp] at hi
        rw [Option.some.inj hi]
    unfold lookV seekV
    rw [hf]
    simp [Instr.lookup, run_underlying Tryz.underlying76, MapKept.run_getObj_map hb, keyedS.check w _ hl, h1, hval, Result.andThen]
/-- 'm[n] = v' where n is not there -/
theorem MapV.put {w : World} {b : Nat} {s : List Vb} (h : MapV w b s) {p : Vb} (hs : p.v.size ≤ maxLen) (hn : ∀ q ∈ s, q.v ≠ p.v) :
    ∃ w', (Instr.mapUpdate 76 (.map (some b)) (.string p.v) (ptrV p)).run Tryz.prog w = .ok () w' ∧ MapV w' b (s ++ [p]) ∧ w.mapTurned w' b := by
  obtain ⟨es, c, hb, hes, hw⟩ := h
  have hl := keyOf_s p.v hs
  rcases keyedS.find w hl es.toList (vents_keys hes hw) with ⟨h1, h2⟩ | ⟨j, e, h1, h2, h3⟩
  · refine ⟨setBlock w b (.map (es.push ⟨.string p.v, ptrV p, c⟩) (c + 1)), by simp [Instr.mapUpdate, run_underlying Tryz.underlying76, MapKept.run_getObj_map hb, keyedS.check w false hl, h1, MapKept.run_setObj_map _ hb, Result.andThen, setBlock], ⟨_, _, heap_setBlock_same hb _, by simp [hes, entV], ?_⟩, ?_⟩
    · intro q hq
      rcases List.mem_append.1 hq with hq | hq
      · exact hw q hq
      · simp at hq
        subst hq
        exact hs
    · exact ⟨es, c, _, _, hb, rfl⟩
  · obtain ⟨q, hp, hk, hval⟩ := vents_at hes h2
    refine absurd ?_ (hn q (List.mem_of_getElem? hp))
    have := hk.symm.trans h3
    injection this
end Go.Proofs.YtgfnijhhhgjabaaGreatDoor
end
