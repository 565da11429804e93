import Derived.Test.YtheihplldbccpaaGreatDoorLmFd
namespace Go.Proofs.YtheihplldbccpaaGreatDoor
open Go.RowKit Go.Maps
set_option linter.unusedVariables false
set_option linter.unusedSimpArgs false
attribute [local go_sem ↓] Go.wp_at_zero Go.wp_at_succ

def slLen : Value → Nat | .slice _ n _ => n | _ => 0
def Vb0 : Vb := ⟨noS, 0⟩
def atVb (l : List Vb) (i : Nat) : Vb := l.getD i Vb0
theorem atVb_eq {l : List Vb} {i : Nat} (h : i < l.length) : atVb l i = l[i] := by simp [atVb, List.getD, List.getElem?_eq_getElem h]
/-- a list of pointers to variables: it lies at a, with room for c -/
def Lq (w : World) (a : Option Addr) (c : Nat) (xs : List Vb) : Prop := xs.length ≤ c ∧ c ≤ maxLen ∧ (0 < xs.length → ∃ g off, a = some ⟨g, off, none⟩ ∧ g < w.heap.size ∧ ∀ i, i < xs.length → w.cell? ⟨g, off + i, none⟩ = some (ptrV (atVb xs i)))
/-- what isKnown leaves of a side: some that are found fall away ahead -/
def KnL (be : Nat) (l0 l1 s1 : Value) (a : Option Addr) (xs : List Vb) (fs : List ByteArray) (w' : World) : Prop := ∃ ds ys a' c', xs = ds ++ ys ∧ (∀ x ∈ ds, x.v ∈ fs) ∧ RL w' be 87 [l0, .slice a' ys.length c', l1, s1] ∧ Lq w' a' c' ys ∧ (∀ g off, a' = some ⟨g, off, none⟩ → ∃ off0, a = some ⟨g, off0, none⟩)
set_option maxHeartbeats 3200000 in
theorem isKnownL_any {B bf bm : Nat} {vs : List Vb} {fs : List ByteArray} {sv : Value} {w : World} (h : Fd B bf bm vs fs sv w) (be : Nat) {l0 : Value} {l1 : Value} {s1 : Value} (a : Option Addr) (c : Nat) (xs : List Vb) (hq : RL w be 87 [l0, .slice a xs.length c, l1, s1]) (hbe : ¬ FP bf bm vs sv be) (hx : ∀ x ∈ xs, x ∈ vs)
    (hl : Lq w a c xs) (hne : ∀ g off, a = some ⟨g, off, none⟩ → g ≠ be) :
    Calls Tryz.prog 83 #[.pointer (some ⟨be, 0, none⟩)] w fun e w' => e = .returned (.bool (xs.all (fun x => inB fs x.v))) ∧ Tz (fun k => k = be) w w' ∧ KnL be l0 l1 s1 a xs fs w' := by
  obtain ⟨hc1, hc2, hat⟩ := hl
  have HAT := Lib.hid hat
  have HH := Lib.hid h
  have HX := Lib.hid hx
  have HNE := Lib.hid hne
  have HNB := Lib.hid hbe
  have HQ0 := Lib.hid hq
  have hmx : xs.length ≤ maxLen := Nat.le_trans hc1 hc2
  unfold maxLen at hmx hc2
  clear hat h hx hne hbe hq
  go_enter Tryz.func83, Tryz.ntmps83
  go_wp2
  go_loopw [] (fun wr => ∃ (k : Nat) (a' : Option Addr), k ≤ xs.length ∧ Hid (∀ x ∈ xs.take k, x.v ∈ fs) ∧ Hid (RL wr be 87 [l0, .slice a' (xs.length - k) (c - k), l1, s1]) ∧ Hid (Tz (fun k => k = be) w wr) ∧ Hid (k < xs.length → ∃ g off, a = some ⟨g, off, none⟩ ∧ a' = some ⟨g, off + k, none⟩) ∧ Hid (∀ g off, a' = some ⟨g, off, none⟩ → ∃ off0, a = some ⟨g, off0, none⟩)) (fun wr => slLen ((wr.cell? ⟨be, 1, none⟩).getD (.bool false)))
  case atStart => exact ⟨0, a, Nat.zero_le _, fun x hx => (by cases hx), HQ0, Tz.refl _ _, fun h0 => (by obtain ⟨g, off, ha, _⟩ := HAT.out h0; exact ⟨g, off, ha, ha⟩), fun g off e => ⟨off, e⟩⟩
  case round =>
    obtain ⟨k, a', hk, HTK, HR, HT, HA, HA2⟩ := hrel
    have q1 := HR.out.at (j := 1) rfl
    by_cases hlt : k < xs.length
    · obtain ⟨g, off, ha, ha'⟩ := HA.out hlt
      obtain ⟨g2, off2, ha2, hgl, hcs⟩ := HAT.out (by omega)
      have HCS := Lib.hid hcs
      rw [ha] at ha2
      injection ha2 with ha2
      injection ha2 with e1 e2 _
      subst e1 e2
      have hgb : g ≠ be := HNE.out g off ha
      have x0 : wr.cell? ⟨g, off + k, none⟩ = some (ptrV (atVb xs k)) := by rw [World.cell?_of_block (a := ⟨g, off + k, none⟩) (HT.out.block g hgl hgb)]; exact hcs k hlt
      have hmem : atVb xs k ∈ xs := by rw [atVb_eq hlt]; exact List.getElem_mem _
      obtain ⟨x, hxx⟩ : ∃ x, atVb xs k = x := ⟨_, rfl⟩
      rw [hxx] at x0 hmem
      have hxb : x.b ≠ be := fun e => HNB.out (.inr (.inr (.inr ⟨x, HX.out x hmem, e⟩)))
      have hf : wr.cell? ⟨x.b, 1, none⟩ = some (.bool (inB fs x.v)) := by
        rw [World.cell?_of_block (a := ⟨x.b, 1, none⟩) (HT.out.block x.b (HH.out.lt x.b (.inr (.inr (.inr ⟨x, HX.out x hmem, rfl⟩)))) hxb)]
        exact (HH.out.each x (HX.out x hmem)).at (j := 1) rfl
      have hpos : (0 : Int) < ((xs.length - k : Nat) : Int) := by omega
      have HXX := Lib.hid hxx
      unfold ptrV at x0
      clear hcs HAT
      cases hfl : inB fs x.v
      · rw [hfl] at hf
        have e0 : (((xs.length - k : Nat) : Int) == 0) = false := by rw [beq_eq_false_iff_ne]; omega
        have HALL : Hid (xs.all (fun x => inB fs x.v) = false) := by
          show _ = _
          rw [← Bool.not_eq_true]
          intro hc
          rw [List.all_eq_true.1 hc x hmem] at hfl
          cases hfl
        have HLQ : Hid (Lq wr a' (c - k) (xs.drop k)) := by
          show Lq _ _ _ _
          refine ⟨by rw [List.length_drop]; omega, by unfold maxLen; omega, fun _ => ⟨g, off + k, ha', ?_, ?_⟩⟩
          · exact Nat.lt_of_lt_of_le hgl HT.out.size
          · intro i hi
            rw [List.length_drop] at hi
            rw [World.cell?_of_block (a := ⟨g, off + k + i, none⟩) (HT.out.block g hgl hgb)]
            have := HCS.out (k + i) (by omega)
            rw [Nat.add_assoc, this, atVb_eq (by omega), atVb_eq (by rw [List.length_drop]; omega), List.getElem_drop]
        subst ha'
        clear hfl hmem
        go_wp2
        go_ret
        refine ⟨by rw [HALL.out]; rfl, HT.out, ⟨xs.take k, xs.drop k, _, c - k, (List.take_append_drop k xs).symm, HTK.out, ?_, HLQ.out, fun g1 o1 e => (by rw [← ha]; exact HA2.out g1 o1 e)⟩⟩
        rw [List.length_drop]
        exact HR.out
      · rw [hfl] at hf
        have HTK1 : Hid (∀ y ∈ xs.take (k + 1), y.v ∈ fs) := by
          show ∀ y ∈ _, _
          intro y hy
          have e : xs.take (k + 1) = xs.take k ++ [atVb xs k] := by rw [List.take_add_one, List.getElem?_eq_getElem hlt, atVb_eq hlt]; rfl
          rw [e] at hy
          rcases List.mem_append.1 hy with hy | hy
          · exact HTK.out y hy
          · rw [List.mem_singleton.1 hy, HXX.out]
            exact inB_iff.1 hfl
        subst ha'
        have f1 := World.rowIs.frozen HR.out 1
        clear hfl hmem
        go_wp2
        refine ⟨⟨k + 1, if c - k = 1 then some ⟨g, off + k, none⟩ else some ⟨g, off + k + 1, none⟩, by omega, HTK1, ?_, ?_, ?_, ?_⟩, ?_⟩
        · have := HR.out.set 1 (.slice (if c - k = 1 then some ⟨g, off + k, none⟩ else some ⟨g, off + k + 1, none⟩) (xs.length - k - 1) (c - k - 1))
          rw [Nat.sub_sub, Nat.sub_sub] at this
          exact this
        · exact ⟨HT.out.os, HT.out.tape, HT.out.output, by simp only [World.size_setCell]; exact HT.out.size, fun b hb he => by rw [heap_setCell_other _ _ _ _ (by show b ≠ be; exact he)]; exact HT.out.block b hb he⟩
        · exact fun h => ⟨g, off, ha, by rw [if_neg (by omega)]; rfl⟩
        · intro g' off' e
          split at e
          · injection e with e
            injection e with e _ _
            subst e
            exact ⟨off, ha⟩
          · injection e with e
            injection e with e _ _
            subst e
            exact ⟨off, ha⟩
        · rw [World.cell?_setCell_same _ _ _ q1, q1]
          show xs.length - k - 1 < xs.length - k
          omega
    · obtain rfl : k = xs.length := by omega
      have e0 : (((xs.length - xs.length : Nat) : Int) == 0) = true := by rw [Nat.sub_self]; rfl
      have e1 : ¬ (0 : Int) < ((xs.length - xs.length : Nat) : Int) := by rw [Nat.sub_self]; decide
      have HALL : Hid (xs.all (fun x => inB fs x.v) = true) := by
        show _ = _
        rw [List.all_eq_true]
        intro x hx
        exact inB_iff.2 (HTK.out x (by rw [List.take_length]; exact hx))
      go_wp2
      go_ret
      refine ⟨by rw [HALL.out]; rfl, HT.out, ⟨xs, [], _, c - xs.length, (List.append_nil _).symm, fun x hx => HTK.out x (by rw [List.take_length]; exact hx), ?_, ⟨Nat.zero_le _, by unfold maxLen; omega, fun h => absurd h (by simp)⟩, HA2.out⟩⟩
      have := HR.out
      rw [Nat.sub_self] at this
      exact this
/-- what isKnown leaves of a side: some that are found fall away ahead -/
def KnR (be : Nat) (l0 s0 l1 : Value) (a : Option Addr) (xs : List Vb) (fs : List ByteArray) (w' : World) : Prop := ∃ ds ys a' c', xs = ds ++ ys ∧ (∀ x ∈ ds, x.v ∈ fs) ∧ RL w' be 87 [l0, s0, l1, .slice a' ys.length c'] ∧ Lq w' a' c' ys ∧ (∀ g off, a' = some ⟨g, off, none⟩ → ∃ off0, a = some ⟨g, off0, none⟩)
set_option maxHeartbeats 3200000 in
theorem isKnownR_any {B bf bm : Nat} {vs : List Vb} {fs : List ByteArray} {sv : Value} {w : World} (h : Fd B bf bm vs fs sv w) (be : Nat) {l0 : Value} {s0 : Value} {l1 : Value} (a : Option Addr) (c : Nat) (xs : List Vb) (hq : RL w be 87 [l0, s0, l1, .slice a xs.length c]) (hbe : ¬ FP bf bm vs sv be) (hx : ∀ x ∈ xs, x ∈ vs)
    (hl : Lq w a c xs) (hne : ∀ g off, a = some ⟨g, off, none⟩ → g ≠ be) :
    Calls Tryz.prog 83 #[.pointer (some ⟨be, 2, none⟩)] w fun e w' => e = .returned (.bool (xs.all (fun x => inB fs x.v))) ∧ Tz (fun k => k = be) w w' ∧ KnR be l0 s0 l1 a xs fs w' := by
  obtain ⟨hc1, hc2, hat⟩ := hl
  have HAT := Lib.hid hat
  have HH := Lib.hid h
  have HX := Lib.hid hx
  have HNE := Lib.hid hne
  have HNB := Lib.hid hbe
  have HQ0 := Lib.hid hq
  have hmx : xs.length ≤ maxLen := Nat.le_trans hc1 hc2
  unfold maxLen at hmx hc2
  clear hat h hx hne hbe hq
  go_enter Tryz.func83, Tryz.ntmps83
  go_wp2
  go_loopw [] (fun wr => ∃ (k : Nat) (a' : Option Addr), k ≤ xs.length ∧ Hid (∀ x ∈ xs.take k, x.v ∈ fs) ∧ Hid (RL wr be 87 [l0, s0, l1, .slice a' (xs.length - k) (c - k)]) ∧ Hid (Tz (fun k => k = be) w wr) ∧ Hid (k < xs.length → ∃ g off, a = some ⟨g, off, none⟩ ∧ a' = some ⟨g, off + k, none⟩) ∧ Hid (∀ g off, a' = some ⟨g, off, none⟩ → ∃ off0, a = some ⟨g, off0, none⟩)) (fun wr => slLen ((wr.cell? ⟨be, 3, none⟩).getD (.bool false)))
  case atStart => exact ⟨0, a, Nat.zero_le _, fun x hx => (by cases hx), HQ0, Tz.refl _ _, fun h0 => (by obtain ⟨g, off, ha, _⟩ := HAT.out h0; exact ⟨g, off, ha, ha⟩), fun g off e => ⟨off, e⟩⟩
  case round =>
    obtain ⟨k, a', hk, HTK, HR, HT, HA, HA2⟩ := hrel
    have q1 := HR.out.at (j := 3) rfl
    by_cases hlt : k < xs.length
    · obtain ⟨g, off, ha, ha'⟩ := HA.out hlt
      obtain ⟨g2, off2, ha2, hgl, hcs⟩ := HAT.out (by omega)
      have HCS := Lib.hid hcs
      rw [ha] at ha2
      injection ha2 with ha2
      injection ha2 with e1 e2 _
      subst e1 e2
      have hgb : g ≠ be := HNE.out g off ha
      have x0 : wr.cell? ⟨g, off + k, none⟩ = some (ptrV (atVb xs k)) := by rw [World.cell?_of_block (a := ⟨g, off + k, none⟩) (HT.out.block g hgl hgb)]; exact hcs k hlt
      have hmem : atVb xs k ∈ xs := by rw [atVb_eq hlt]; exact List.getElem_mem _
      obtain ⟨x, hxx⟩ : ∃ x, atVb xs k = x := ⟨_, rfl⟩
      rw [hxx] at x0 hmem
      have hxb : x.b ≠ be := fun e => HNB.out (.inr (.inr (.inr ⟨x, HX.out x hmem, e⟩)))
      have hf : wr.cell? ⟨x.b, 1, none⟩ = some (.bool (inB fs x.v)) := by
        rw [World.cell?_of_block (a := ⟨x.b, 1, none⟩) (HT.out.block x.b (HH.out.lt x.b (.inr (.inr (.inr ⟨x, HX.out x hmem, rfl⟩)))) hxb)]
        exact (HH.out.each x (HX.out x hmem)).at (j := 1) rfl
      have hpos : (0 : Int) < ((xs.length - k : Nat) : Int) := by omega
      have HXX := Lib.hid hxx
      unfold ptrV at x0
      clear hcs HAT
      cases hfl : inB fs x.v
      · rw [hfl] at hf
        have e0 : (((xs.length - k : Nat) : Int) == 0) = false := by rw [beq_eq_false_iff_ne]; omega
        have HALL : Hid (xs.all (fun x => inB fs x.v) = false) := by
          show _ = _
          rw [← Bool.not_eq_true]
          intro hc
          rw [List.all_eq_true.1 hc x hmem] at hfl
          cases hfl
        have HLQ : Hid (Lq wr a' (c - k) (xs.drop k)) := by
          show Lq _ _ _ _
          refine ⟨by rw [List.length_drop]; omega, by unfold maxLen; omega, fun _ => ⟨g, off + k, ha', ?_, ?_⟩⟩
          · exact Nat.lt_of_lt_of_le hgl HT.out.size
          · intro i hi
            rw [List.length_drop] at hi
            rw [World.cell?_of_block (a := ⟨g, off + k + i, none⟩) (HT.out.block g hgl hgb)]
            have := HCS.out (k + i) (by omega)
            rw [Nat.add_assoc, this, atVb_eq (by omega), atVb_eq (by rw [List.length_drop]; omega), List.getElem_drop]
        subst ha'
        clear hfl hmem
        go_wp2
        go_ret
        refine ⟨by rw [HALL.out]; rfl, HT.out, ⟨xs.take k, xs.drop k, _, c - k, (List.take_append_drop k xs).symm, HTK.out, ?_, HLQ.out, fun g1 o1 e => (by rw [← ha]; exact HA2.out g1 o1 e)⟩⟩
        rw [List.length_drop]
        exact HR.out
      · rw [hfl] at hf
        have HTK1 : Hid (∀ y ∈ xs.take (k + 1), y.v ∈ fs) := by
          show ∀ y ∈ _, _
          intro y hy
          have e : xs.take (k + 1) = xs.take k ++ [atVb xs k] := by rw [List.take_add_one, List.getElem?_eq_getElem hlt, atVb_eq hlt]; rfl
          rw [e] at hy
          rcases List.mem_append.1 hy with hy | hy
          · exact HTK.out y hy
          · rw [List.mem_singleton.1 hy, HXX.out]
            exact inB_iff.1 hfl
        subst ha'
        have f1 := World.rowIs.frozen HR.out 3
        clear hfl hmem
        go_wp2
        refine ⟨⟨k + 1, if c - k = 1 then some ⟨g, off + k, none⟩ else some ⟨g, off + k + 1, none⟩, by omega, HTK1, ?_, ?_, ?_, ?_⟩, ?_⟩
        · have := HR.out.set 3 (.slice (if c - k = 1 then some ⟨g, off + k, none⟩ else some ⟨g, off + k + 1, none⟩) (xs.length - k - 1) (c - k - 1))
          rw [Nat.sub_sub, Nat.sub_sub] at this
          exact this
        · exact ⟨HT.out.os, HT.out.tape, HT.out.output, by simp only [World.size_setCell]; exact HT.out.size, fun b hb he => by rw [heap_setCell_other _ _ _ _ (by show b ≠ be; exact he)]; exact HT.out.block b hb he⟩
        · exact fun h => ⟨g, off, ha, by rw [if_neg (by omega)]; rfl⟩
        · intro g' off' e
          split at e
          · injection e with e
            injection e with e _ _
            subst e
            exact ⟨off, ha⟩
          · injection e with e
            injection e with e _ _
            subst e
            exact ⟨off, ha⟩
        · rw [World.cell?_setCell_same _ _ _ q1, q1]
          show xs.length - k - 1 < xs.length - k
          omega
    · obtain rfl : k = xs.length := by omega
      have e0 : (((xs.length - xs.length : Nat) : Int) == 0) = true := by rw [Nat.sub_self]; rfl
      have e1 : ¬ (0 : Int) < ((xs.length - xs.length : Nat) : Int) := by rw [Nat.sub_self]; decide
      have HALL : Hid (xs.all (fun x => inB fs x.v) = true) := by
        show _ = _
        rw [List.all_eq_true]
        intro x hx
        exact inB_iff.2 (HTK.out x (by rw [List.take_length]; exact hx))
      go_wp2
      go_ret
      refine ⟨by rw [HALL.out]; rfl, HT.out, ⟨xs, [], _, c - xs.length, (List.append_nil _).symm, fun x hx => HTK.out x (by rw [List.take_length]; exact hx), ?_, ⟨Nat.zero_le _, by unfold maxLen; omega, fun h => absurd h (by simp)⟩, HA2.out⟩⟩
      have := HR.out
      rw [Nat.sub_self] at this
      exact this
end Go.Proofs.YtheihplldbccpaaGreatDoor
