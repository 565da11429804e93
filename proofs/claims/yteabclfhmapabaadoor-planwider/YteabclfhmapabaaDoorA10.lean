import Derived.Test.YteabclfhmapabaaDoorA9
section
namespace Go.Proofs.YteabclfhmapabaaDoor
open Go.RowKit Go.Maps
set_option linter.unusedVariables false
set_option linter.unusedSimpArgs false
attribute [local go_sem ↓] Go.wp_at_zero Go.wp_at_succ

def slLen : Value → Nat | .slice _ n _ => n | _ => 0
def Vb0 : Vb := ⟨noS, 0⟩
def atVb (l : List Vb) (i : Nat) : Vb := l.getD i Vb0
theorem atVb_eq {l : List Vb} {i : Nat} (h : i < l.length) : atVb l i = l[i] := by simp [atVb, List.getD, List.getElem?_eq_getElem h]
/-- a list of pointers to variables: it lies at a, with room for c -/
def Lq (w : World) (a : Option Addr) (c : Nat) (xs : List Vb) : Prop := xs.length ≤ c ∧ c ≤ maxLen ∧ (0 < xs.length → ∃ g off, a = some ⟨g, off, none⟩ ∧ g < w.heap.size ∧ ∀ i, i < xs.length → w.cell? ⟨g, off + i, none⟩ = some (ptrV (atVb xs i)))
/-- what isKnown leaves of a side: some that are found fall away ahead -/
def KnL (be : Nat) (l0 l1 s1 : Value) (a : Option Addr) (xs : List Vb) (fs : List ByteArray) (w' : World) : Prop := ∃ ds ys a' c', xs = ds ++ ys ∧ (∀ x ∈ ds, x.v ∈ fs) ∧ RL w' be 155 [l0, .slice a' ys.length c', l1, s1] ∧ Lq w' a' c' ys ∧ (∀ g off, a' = some ⟨g, off, none⟩ → ∃ off0, a = some ⟨g, off0, none⟩)
set_option maxHeartbeats 3200000 in
theorem isKnownL_any {B bf bm : Nat} {vs : List Vb} {fs : List ByteArray} {sv : Value} {w : World} (h : Fd B bf bm vs fs sv w) (be : Nat) {l0 : Value} {l1 : Value} {s1 : Value} (a : Option Addr) (c : Nat) (xs : List Vb) (hq : RL w be 155 [l0, .slice a xs.length c, l1, s1]) (hbe : ¬ FP bf bm vs sv be) (hx : ∀ x ∈ xs, x ∈ vs)
    (hl : Lq w a c xs) (hne : ∀ g off, a = some ⟨g, off, none⟩ → g ≠ be) :
    Calls Tryd.prog 82 #[.pointer (some ⟨be, 0, none⟩)] w fun e w' => e = .returned (.bool (xs.all (fun x => inB fs x.v))) ∧ Tz (fun k => k = be) w w' ∧ KnL be l0 l1 s1 a xs fs w' := by
  obtain ⟨hc1, hc2, hat⟩ := hl
  have HAT := Lib.hid hat
  have HH := Lib.hid h
  have HX := Lib.hid hx
  have HNE := Lib.hid hne
  have HNB := Lib.hid hbe
  have HQ0 := Lib.hid hq
  have hmx : xs.length ≤ maxLen := Nat.le_trans hc1 hc2
  unfold maxLen at hmx hc2
  clear hat h hx hne hbe hq
  go_enter Tryd.func82, Tryd.ntmps82
  go_wp2
  go_loopw [] (fun wr => ∃ (k : Nat) (a' : Option Addr), k ≤ xs.length ∧ Hid (∀ x ∈ xs.take k, x.v ∈ fs) ∧ Hid (RL wr be 155 [l0, .slice a' (xs.length - k) (c - k), l1, s1]) ∧ Hid (Tz (fun k => k = be) w wr) ∧ Hid (k < xs.length → ∃ g off, a = some ⟨g, off, none⟩ ∧ a' = some ⟨g, off + k, none⟩) ∧ Hid (∀ g off, a' = some ⟨g, off, none⟩ → ∃ off0, a = some ⟨g, off0, none⟩)) (fun wr => slLen ((wr.cell? ⟨be, 1, none⟩).getD (.bool false)))
  case atStart => exact ⟨0, a, Nat.zero_le _, fun x hx => (by cases hx), HQ0, Tz.refl _ _, fun h0 => (by obtain ⟨g, off, ha, _⟩ := HAT.out h0; exact ⟨g, off, ha, ha⟩), fun g off e => ⟨off, e⟩⟩
  case round =>
    obtain ⟨k, a', hk, HTK, HR, HT, HA, HA2⟩ := hrel
    have q1 := HR.out.at (j := 1) rfl
    by_cases hlt : k < xs.length
    · obtain ⟨g, off, ha, ha'⟩ := HA.out hlt
      obtain ⟨g2, off2, ha2, hgl, hcs⟩ := HAT.out (by omega)
      have HCS := Lib.hid hcs
      rw [ha] at ha2
      injection ha2 with ha2
      injection ha2 with e1 e2 _
      subst e1 e2
      have hgb : g ≠ be := HNE.out g off ha
      have x0 : wr.cell? ⟨g, off + k, none⟩ = some (ptrV (atVb xs k)) := by rw [World.cell?_of_block (a := ⟨g, off + k, none⟩) (HT.out.block g hgl hgb)]; exact hcs k hlt
      have hmem : atVb xs k ∈ xs := by rw [atVb_eq hlt]; exact List.getElem_mem _
      obtain ⟨x, hxx⟩ : ∃ x, atVb xs k = x := ⟨_, rfl⟩
      rw [hxx] at x0 hmem
      have hxb : x.b ≠ be := fun e => HNB.out (.inr (.inr (.inr ⟨x, HX.out x hmem, e⟩)))
      have hf : wr.cell? ⟨x.b, 1, none⟩ = some (.bool (inB fs x.v)) := by
        rw [World.cell?_of_block (a := ⟨x.b, 1, none⟩) (HT.out.block x.b (HH.out.lt x.b (.inr (.inr (.inr ⟨x, HX.out x hmem, rfl⟩)))) hxb)]
        exact (HH.out.each x (HX.out x hmem)).at (j := 1) rfl
      have hpos : (0 : Int) < ((xs.length - k : Nat) : Int) := by omega
      have HXX := Lib.hid hxx
      unfold ptrV at x0
      clear hcs HAT
      cases hfl : inB fs x.v
      · rw [hfl] at hf
        have e0 : (((xs.length - k : Nat) : Int) == 0) = false := by rw [beq_eq_false_iff_ne]; omega
        have HALL : Hid (xs.all (fun x => inB fs x.v) = false) := by
          show _ = _
          rw [← Bool.not_eq_true]
          intro hc
          rw [List.all_eq_true.1 hc x hmem] at hfl
          cases hfl
        have HLQ : Hid (Lq wr a' (c - k) (xs.drop k)) := by
          show Lq _ _ _ _
          refine ⟨by rw [List.length_drop]; omega, by unfold maxLen; omega, fun _ => ⟨g, off + k, ha', ?_, ?_⟩⟩
          · exact Nat.lt_of_lt_of_le hgl HT.out.size
          · intro i hi
            rw [List.length_drop] at hi
            rw [World.cell?_of_block (a := ⟨g, off + k + i, none⟩) (HT.out.block g hgl hgb)]
            have := HCS.out (k + i) (by omega)
            rw [Nat.add_assoc, this, atVb_eq (by omega), atVb_eq (by rw [List.length_drop]; omega), List.getElem_drop]
        subst ha'
        clear hfl hmem
        go_wp2
        go_ret
        refine ⟨by rw [HALL.out]; rfl, HT.out, ⟨xs.take k, xs.drop k, _, c - k, (List.take_append_drop k xs).symm, HTK.out, ?_, HLQ.out, fun g1 o1 e => (by rw [← ha]; exact HA2.out g1 o1 e)⟩⟩
        rw [List.length_drop]
        exact HR.out
      · rw [hfl] at hf
        have HTK1 : Hid (∀ y ∈ xs.take (k + 1), y.v ∈ fs) := by
          show ∀ y ∈ _, _
          intro y hy
          have e : xs.take (k + 1) = xs.take k ++ [atVb xs k] := by rw [List.take_add_one, List.getElem?_eq_getElem hlt, atVb_eq hlt]; rfl
          rw [e] at hy
          rcases List.mem_append.1 hy with hy | hy
          · exact HTK.out y hy
          · rw [List.mem_singleton.1 hy, HXX.out]
            exact inB_iff.1 hfl
        subst ha'
        have f1 := World.rowIs.frozen HR.out 1
        clear hfl hmem
        go_wp2
        refine ⟨⟨k + 1, if c - k = 1 then some ⟨g, off + k, none⟩ else some ⟨g, off + k + 1, none⟩, by omega, HTK1, ?_, ?_, ?_, ?_⟩, ?_⟩
        · have := HR.out.set 1 (.slice (if c - k = 1 then some ⟨g, off + k, none⟩ else some ⟨g, off + k + 1, none⟩) (xs.length - k - 1) (c - k - 1))
          rw [Nat.sub_sub, Nat.sub_sub] at this
          exact this
        · exact ⟨HT.out.os, HT.out.tape, HT.out.output, by simp only [World.size_setCell]; exact HT.out.size, fun b hb he => by rw [heap_setCell_other _ _ _ _ (by show b ≠ be; exact he)]; exact HT.out.block b hb he⟩
        · exact fun h => ⟨g, off, ha, by rw [if_neg (by omega)]; rfl⟩
        · intro g' off' e
          split at e
          · injection e with e
            injection e with e _ _
            subst e
            exact ⟨off, ha⟩
          · injection e with e
            injection e with e _ _
            subst e
            exact ⟨off, ha⟩
        · rw [World.cell?_setCell_same _ _ _ q1, q1]
          show xs.length - k - 1 < xs.length - k
          omega
    · obtain rfl : k = xs.length := by omega
      have e0 : (((xs.length - xs.length : Nat) : Int) == 0) = true := by rw [Nat.sub_self]; rfl
      have e1 : ¬ (0 : Int) < ((xs.length - xs.length : Nat) : Int) := by rw [Nat.sub_self]; decide
      have HALL : Hid (xs.all (fun x => inB fs x.v) = true) := by
        show _ = _
        rw [List.all_eq_true]
        intro x hx
        exact inB_iff.2 (HTK.out x (by rw [List.take_length]; exact hx))
      go_wp2
      go_ret
      refine ⟨by rw [HALL.out]; rfl, HT.out, ⟨xs, [], _, c - xs.length, (List.append_nil _).symm, fun x hx => HTK.out x (by rw [List.take_length]; exact hx), ?_, ⟨Nat.zero_le _, by unfold maxLen; omega, fun h => absurd h (by simp)⟩, HA2.out⟩⟩
      have := HR.out
      rw [Nat.sub_self] at this
      exact this
/-- what isKnown leaves of a side: some that are found fall away ahead -/
def KnR (be : Nat) (l0 s0 l1 : Value) (a : Option Addr) (xs : List Vb) (fs : List ByteArray) (w' : World) : Prop := ∃ ds ys a' c', xs = ds ++ ys ∧ (∀ x ∈ ds, x.v ∈ fs) ∧ RL w' be 155 [l0, s0, l1, .slice a' ys.length c'] ∧ Lq w' a' c' ys ∧ (∀ g off, a' = some ⟨g, off, none⟩ → ∃ off0, a = some ⟨g, off0, none⟩)
set_option maxHeartbeats 3200000 in
theorem isKnownR_any {B bf bm : Nat} {vs : List Vb} {fs : List ByteArray} {sv : Value} {w : World} (h : Fd B bf bm vs fs sv w) (be : Nat) {l0 : Value} {s0 : Value} {l1 : Value} (a : Option Addr) (c : Nat) (xs : List Vb) (hq : RL w be 155 [l0, s0, l1, .slice a xs.length c]) (hbe : ¬ FP bf bm vs sv be) (hx : ∀ x ∈ xs, x ∈ vs)
    (hl : Lq w a c xs) (hne : ∀ g off, a = some ⟨g, off, none⟩ → g ≠ be) :
    Calls Tryd.prog 82 #[.pointer (some ⟨be, 2, none⟩)] w fun e w' => e = .returned (.bool (xs.all (fun x => inB fs x.v))) ∧ Tz (fun k => k = be) w w' ∧ KnR be l0 s0 l1 a xs fs w' := by
  obtain ⟨hc1, hc2, hat⟩ := hl
  have HAT := Lib.hid hat
  have HH := Lib.hid h
  have HX := Lib.hid hx
  have HNE := Lib.hid hne
  have HNB := Lib.hid hbe
  have HQ0 := Lib.hid hq
  have hmx : xs.length ≤ maxLen := Nat.le_trans hc1 hc2
  unfold maxLen at hmx hc2
  clear hat h hx hne hbe hq
  go_enter Tryd.func82, Tryd.ntmps82
  go_wp2
  go_loopw [] (fun wr => ∃ (k : Nat) (a' : Option Addr), k ≤ xs.length ∧ Hid (∀ x ∈ xs.take k, x.v ∈ fs) ∧ Hid (RL wr be 155 [l0, s0, l1, .slice a' (xs.length - k) (c - k)]) ∧ Hid (Tz (fun k => k = be) w wr) ∧ Hid (k < xs.length → ∃ g off, a = some ⟨g, off, none⟩ ∧ a' = some ⟨g, off + k, none⟩) ∧ Hid (∀ g off, a' = some ⟨g, off, none⟩ → ∃ off0, a = some ⟨g, off0, none⟩)) (fun wr => slLen ((wr.cell? ⟨be, 3, none⟩).getD (.bool false)))
  case atStart => exact ⟨0, a, Nat.zero_le _, fun x hx => (by cases hx), HQ0, Tz.refl _ _, fun h0 => (by obtain ⟨g, off, ha, _⟩ := HAT.out h0; exact ⟨g, off, ha, ha⟩), fun g off e => ⟨off, e⟩⟩
  case round =>
    obtain ⟨k, a', hk, HTK, HR, HT, HA, HA2⟩ := hrel
    have q1 := HR.out.at (j := 3) rfl
    by_cases hlt : k < xs.length
    · obtain ⟨g, off, ha, ha'⟩ := HA.out hlt
      obtain ⟨g2, off2, ha2, hgl, hcs⟩ := HAT.out (by omega)
      have HCS := Lib.hid hcs
      rw [ha] at ha2
      injection ha2 with ha2
      injection ha2 with e1 e2 _
      subst e1 e2
      have hgb : g ≠ be := HNE.out g off ha
      have x0 : wr.cell? ⟨g, off + k, none⟩ = some (ptrV (atVb xs k)) := by rw [World.cell?_of_block (a := ⟨g, off + k, none⟩) (HT.out.block g hgl hgb)]; exact hcs k hlt
      have hmem : atVb xs k ∈ xs := by rw [atVb_eq hlt]; exact List.getElem_mem _
      obtain ⟨x, hxx⟩ : ∃ x, atVb xs k = x := ⟨_, rfl⟩
      rw [hxx] at x0 hmem
      have hxb : x.b ≠ be := fun e => HNB.out (.inr (.inr (.inr ⟨x, HX.out x hmem, e⟩)))
      have hf : wr.cell? ⟨x.b, 1, none⟩ = some (.bool (inB fs x.v)) := by
        rw [World.cell?_of_block (a := ⟨x.b, 1, none⟩) (HT.out.block x.b (HH.out.lt x.b (.inr (.inr (.inr ⟨x, HX.out x hmem, rfl⟩)))) hxb)]
        exact (HH.out.each x (HX.out x hmem)).at (j := 1) rfl
      have hpos : (0 : Int) < ((xs.length - k : Nat) : Int) := by omega
      have HXX := Lib.hid hxx
      unfold ptrV at x0
      clear hcs HAT
      cases hfl : inB fs x.v
      · rw [hfl] at hf
        have e0 : (((xs.length - k : Nat) : Int) == 0) = false := by rw [beq_eq_false_iff_ne]; omega
        have HALL : Hid (xs.all (fun x => inB fs x.v) = false) := by
          show _ = _
          rw [← Bool.not_eq_true]
          intro hc
          rw [List.all_eq_true.1 hc x hmem] at hfl
          cases hfl
        have HLQ : Hid (Lq wr a' (c - k) (xs.drop k)) := by
          show Lq _ _ _ _
          refine ⟨by rw [List.length_drop]; omega, by unfold maxLen; omega, fun _ => ⟨g, off + k, ha', ?_, ?_⟩⟩
          · exact Nat.lt_of_lt_of_le hgl HT.out.size
          · intro i hi
            rw [List.length_drop] at hi
            rw [World.cell?_of_block (a := ⟨g, off + k + i, none⟩) (HT.out.block g hgl hgb)]
            have := HCS.out (k + i) (by omega)
            rw [Nat.add_assoc, this, atVb_eq (by omega), atVb_eq (by rw [List.length_drop]; omega), List.getElem_drop]
        subst ha'
        clear hfl hmem
        go_wp2
        go_ret
        refine ⟨by rw [HALL.out]; rfl, HT.out, ⟨xs.take k, xs.drop k, _, c - k, (List.take_append_drop k xs).symm, HTK.out, ?_, HLQ.out, fun g1 o1 e => (by rw [← ha]; exact HA2.out g1 o1 e)⟩⟩
        rw [List.length_drop]
        exact HR.out
      · rw [hfl] at hf
        have HTK1 : Hid (∀ y ∈ xs.take (k + 1), y.v ∈ fs) := by
          show ∀ y ∈ _, _
          intro y hy
          have e : xs.take (k + 1) = xs.take k ++ [atVb xs k] := by rw [List.take_add_one, List.getElem?_eq_getElem hlt, atVb_eq hlt]; rfl
          rw [e] at hy
          rcases List.mem_append.1 hy with hy | hy
          · exact HTK.out y hy
          · rw [List.mem_singleton.1 hy, HXX.out]
            exact inB_iff.1 hfl
        subst ha'
        have f1 := World.rowIs.frozen HR.out 3
        clear hfl hmem
        go_wp2
        refine ⟨⟨k + 1, if c - k = 1 then some ⟨g, off + k, none⟩ else some ⟨g, off + k + 1, none⟩, by omega, HTK1, ?_, ?_, ?_, ?_⟩, ?_⟩
        · have := HR.out.set 3 (.slice (if c - k = 1 then some ⟨g, off + k, none⟩ else some ⟨g, off + k + 1, none⟩) (xs.length - k - 1) (c - k - 1))
          rw [Nat.sub_sub, Nat.sub_sub] at this
          exact this
        · exact ⟨HT.out.os, HT.out.tape, HT.out.output, by simp only [World.size_setCell]; exact HT.out.size, fun b hb he => by rw [heap_setCell_other _ _ _ _ (by show b ≠ be; exact he)]; exact HT.out.block b hb he⟩
        · exact fun h => ⟨g, off, ha, by rw [if_neg (by omega)]; rfl⟩
        · intro g' off' e
          split at e
          · injection e with e
            injection e with e _ _
            subst e
            exact ⟨off, ha⟩
          · injection e with e
            injection e with e _ _
            subst e
            exact ⟨off, ha⟩
        · rw [World.cell?_setCell_same _ _ _ q1, q1]
          show xs.length - k - 1 < xs.length - k
          omega
    · obtain rfl : k = xs.length := by omega
      have e0 : (((xs.length - xs.length : Nat) : Int) == 0) = true := by rw [Nat.sub_self]; rfl
      have e1 : ¬ (0 : Int) < ((xs.length - xs.length : Nat) : Int) := by rw [Nat.sub_self]; decide
      have HALL : Hid (xs.all (fun x => inB fs x.v) = true) := by
        show _ = _
        rw [List.all_eq_true]
        intro x hx
        exact inB_iff.2 (HTK.out x (by rw [List.take_length]; exact hx))
      go_wp2
      go_ret
      refine ⟨by rw [HALL.out]; rfl, HT.out, ⟨xs, [], _, c - xs.length, (List.append_nil _).symm, fun x hx => HTK.out x (by rw [List.take_length]; exact hx), ?_, ⟨Nat.zero_le _, by unfold maxLen; omega, fun h => absurd h (by simp)⟩, HA2.out⟩⟩
      have := HR.out
      rw [Nat.sub_self] at this
      exact this
end Go.Proofs.YteabclfhmapabaaDoor
end
section
namespace Go.Proofs.YteabclfhmapabaaDoor
open Go.RowKit Go.Maps
set_option linter.unusedVariables false
set_option linter.unusedSimpArgs false
attribute [local go_sem ↓] Go.wp_at_zero Go.wp_at_succ

/-- an equation: its block, what it says, and what is left of its sides -/
structure Er where
  be : Nat
  q : Qn
  l0 : Option Vb
  x0 : List Vb
  a0 : Option Addr
  c0 : Nat
  l1 : Option Vb
  x1 : List Vb
  a1 : Option Addr
  c1 : Nat
def ptrO : Option Vb → Value
  | some x => ptrV x
  | none => .pointer none
/-- an equation in memory, beside a finder -/
structure EqIs (bf bm : Nat) (vs : List Vb) (fs : List ByteArray) (sv : Value) (w : World) (r : Er) : Prop where
  row : RL w r.be 155 [ptrO r.l0, .slice r.a0 r.x0.length r.c0, ptrO r.l1, .slice r.a1 r.x1.length r.c1]
  q0 : Lq w r.a0 r.c0 r.x0
  q1 : Lq w r.a1 r.c1 r.x1
  n0 : r.q.1.lone = r.l0.map Vb.v
  n1 : r.q.2.lone = r.l1.map Vb.v
  v0 : ∃ ds, r.q.1.vars = ds ++ r.x0.map Vb.v ∧ ∀ n ∈ ds, n ∈ fs
  v1 : ∃ ds, r.q.2.vars = ds ++ r.x1.map Vb.v ∧ ∀ n ∈ ds, n ∈ fs
  m0 : ∀ x, r.l0 = some x → x ∈ vs
  m1 : ∀ x, r.l1 = some x → x ∈ vs
  i0 : ∀ x ∈ r.x0, x ∈ vs
  i1 : ∀ x ∈ r.x1, x ∈ vs
  nf : ¬ FP bf bm vs sv r.be
  g0 : ∀ g off, r.a0 = some ⟨g, off, none⟩ → ¬ FP bf bm vs sv g ∧ g ≠ r.be ∧ g < w.heap.size
  g1 : ∀ g off, r.a1 = some ⟨g, off, none⟩ → ¬ FP bf bm vs sv g ∧ g ≠ r.be ∧ g < w.heap.size
/-- what a finder and an equation are behind give -/
def GvP (B bf bm : Nat) (vs : List Vb) (fs : List ByteArray) (sv : Value) (r : Er) (o : Option ByteArray) (w w' : World) : Prop :=
  ∃ r' sv', r'.be = r.be ∧ (r'.q = r.q ∧ r'.l0 = r.l0 ∧ r'.l1 = r.l1) ∧ (∀ g off, (r'.a0 = some ⟨g, off, none⟩ → ∃ off0, r.a0 = some ⟨g, off0, none⟩) ∧ (r'.a1 = some ⟨g, off, none⟩ → ∃ off0, r.a1 = some ⟨g, off0, none⟩)) ∧ Fd B bf bm vs (fs ++ o.toList) sv' w' ∧ EqIs bf bm vs (fs ++ o.toList) sv' w' r' ∧ Tz (fun k => FP bf bm vs sv k ∨ k = r.be) w w' ∧ (∀ g, sv'.ownBlock = some g → sv.ownBlock = some g ∨ w.heap.size ≤ g)
theorem GvP.still {B bf bm : Nat} {vs : List Vb} {fs : List ByteArray} {sv : Value} {r : Er} {w : World} (h : Fd B bf bm vs fs sv w) (hr : EqIs bf bm vs fs sv w r) : GvP B bf bm vs fs sv r none w w :=
  ⟨r, sv, rfl, ⟨rfl, rfl, rfl⟩, fun g off => ⟨fun e => ⟨off, e⟩, fun e => ⟨off, e⟩⟩, by simpa using h, by simpa using hr, Tz.refl _ _, fun g hg => .inl hg⟩
theorem Lq.keep {w w' : World} {a : Option Addr} {c : Nat} {xs : List Vb} (h : Lq w a c xs) (hz : w.heap.size ≤ w'.heap.size) (hk : ∀ g off, a = some ⟨g, off, none⟩ → w'.heap[g]? = w.heap[g]?) : Lq w' a c xs := by
  obtain ⟨h1, h2, h3⟩ := h
  refine ⟨h1, h2, fun h0 => ?_⟩
  obtain ⟨g, off, ha, hg, hc⟩ := h3 h0
  exact ⟨g, off, ha, by omega, fun i hi => by rw [World.cell?_of_block (a := ⟨g, off + i, none⟩) (hk g off ha)]; exact hc i hi⟩
/-- an equation stays while its blocks stay -/
theorem EqIs.keep {bf bm : Nat} {vs vs' : List Vb} {fs fs' : List ByteArray} {sv sv' : Value} {w w' : World} {r : Er} {ex : Nat → Prop} (h : EqIs bf bm vs fs sv w r) (ht : Tz ex w w') (hx : ∀ k, ¬ FP bf bm vs sv k → k < w.heap.size → ¬ ex k) (hfs : ∀ n ∈ fs, n ∈ fs') (hvs : ∀ x ∈ vs, x ∈ vs') (hnf : ∀ k, k < w.heap.size → ¬ FP bf bm vs sv k → ¬ FP bf bm vs' sv' k) : EqIs bf bm vs' fs' sv' w' r := by
  have hbl := World.rowIs.lt h.row
  have k0 : ∀ g off, r.a0 = some ⟨g, off, none⟩ → w'.heap[g]? = w.heap[g]? := fun g off e => ht.block g (h.g0 g off e).2.2 (hx g (h.g0 g off e).1 (h.g0 g off e).2.2)
  have k1 : ∀ g off, r.a1 = some ⟨g, off, none⟩ → w'.heap[g]? = w.heap[g]? := fun g off e => ht.block g (h.g1 g off e).2.2 (hx g (h.g1 g off e).1 (h.g1 g off e).2.2)
  refine ⟨World.rowIs.of_block h.row (ht.block r.be hbl (hx r.be h.nf hbl)), h.q0.keep ht.size k0, h.q1.keep ht.size k1, h.n0, h.n1, ?_, ?_, fun x e => hvs x (h.m0 x e), fun x e => hvs x (h.m1 x e), fun x e => hvs x (h.i0 x e), fun x e => hvs x (h.i1 x e), hnf _ hbl h.nf, fun g off e => ⟨hnf g (h.g0 g off e).2.2 (h.g0 g off e).1, (h.g0 g off e).2.1, Nat.lt_of_lt_of_le (h.g0 g off e).2.2 ht.size⟩, fun g off e => ⟨hnf g (h.g1 g off e).2.2 (h.g1 g off e).1, (h.g1 g off e).2.1, Nat.lt_of_lt_of_le (h.g1 g off e).2.2 ht.size⟩⟩
  · obtain ⟨ds, e, hd⟩ := h.v0
    exact ⟨ds, e, fun n hn => hfs n (hd n hn)⟩
  · obtain ⟨ds, e, hd⟩ := h.v1
    exact ⟨ds, e, fun n hn => hfs n (hd n hn)⟩
/-- an equation behind isKnown of its right side, and of its left one -/
theorem EqIs.knownR {bf bm : Nat} {vs : List Vb} {fs : List ByteArray} {sv : Value} {w w' : World} {r : Er} (h : EqIs bf bm vs fs sv w r) (ht : Tz (fun k => k = r.be) w w') (hk : KnR r.be (ptrO r.l0) (.slice r.a0 r.x0.length r.c0) (ptrO r.l1) r.a1 r.x1 fs w') :
    ∃ r', r'.be = r.be ∧ (r'.q = r.q ∧ r'.l0 = r.l0 ∧ r'.l1 = r.l1) ∧ (∀ g off, (r'.a0 = some ⟨g, off, none⟩ → ∃ off0, r.a0 = some ⟨g, off0, none⟩) ∧ (r'.a1 = some ⟨g, off, none⟩ → ∃ off0, r.a1 = some ⟨g, off0, none⟩)) ∧ EqIs bf bm vs fs sv w' r' := by
  obtain ⟨ds, ys, a', c', e, hd, hrow, hl, ha⟩ := hk
  refine ⟨{ r with x1 := ys, a1 := a', c1 := c' }, rfl, ⟨rfl, rfl, rfl⟩, fun g off => ⟨fun e => ⟨off, e⟩, fun e => ha g off e⟩, ?_⟩
  refine ⟨hrow, h.q0.keep ht.size (fun g off e => ht.block g (h.g0 g off e).2.2 (h.g0 g off e).2.1), hl, h.n0, h.n1, h.v0, ?_, h.m0, h.m1, h.i0, fun x hx => h.i1 x (by rw [e]; exact List.mem_append.2 (.inr hx)), h.nf, fun g off e => ⟨(h.g0 g off e).1, (h.g0 g off e).2.1, Nat.lt_of_lt_of_le (h.g0 g off e).2.2 ht.size⟩, fun g off e2 => ?_⟩
  · obtain ⟨d0, e0, h0⟩ := h.v1
    refine ⟨d0 ++ ds.map Vb.v, by rw [e0, e, List.map_append, List.append_assoc], fun n hn => ?_⟩
    rcases List.mem_append.1 hn with hn | hn
    · exact h0 n hn
    · obtain ⟨x, hx, rfl⟩ := List.mem_map.1 hn
      exact hd x hx
  · obtain ⟨off0, e3⟩ := ha g off e2
    exact ⟨(h.g1 g off0 e3).1, (h.g1 g off0 e3).2.1, Nat.lt_of_lt_of_le (h.g1 g off0 e3).2.2 ht.size⟩
theorem EqIs.knownL {bf bm : Nat} {vs : List Vb} {fs : List ByteArray} {sv : Value} {w w' : World} {r : Er} (h : EqIs bf bm vs fs sv w r) (ht : Tz (fun k => k = r.be) w w') (hk : KnL r.be (ptrO r.l0) (ptrO r.l1) (.slice r.a1 r.x1.length r.c1) r.a0 r.x0 fs w') :
    ∃ r', r'.be = r.be ∧ (r'.q = r.q ∧ r'.l0 = r.l0 ∧ r'.l1 = r.l1) ∧ (∀ g off, (r'.a0 = some ⟨g, off, none⟩ → ∃ off0, r.a0 = some ⟨g, off0, none⟩) ∧ (r'.a1 = some ⟨g, off, none⟩ → ∃ off0, r.a1 = some ⟨g, off0, none⟩)) ∧ EqIs bf bm vs fs sv w' r' := by
  obtain ⟨ds, ys, a', c', e, hd, hrow, hl, ha⟩ := hk
  refine ⟨{ r with x0 := ys, a0 := a', c0 := c' }, rfl, ⟨rfl, rfl, rfl⟩, fun g off => ⟨fun e => ha g off e, fun e => ⟨off, e⟩⟩, ?_⟩
  refine ⟨hrow, hl, h.q1.keep ht.size (fun g off e => ht.block g (h.g1 g off e).2.2 (h.g1 g off e).2.1), h.n0, h.n1, ?_, h.v1, h.m0, h.m1, fun x hx => h.i0 x (by rw [e]; exact List.mem_append.2 (.inr hx)), h.i1, h.nf, fun g off e2 => ?_, fun g off e => ⟨(h.g1 g off e).1, (h.g1 g off e).2.1, Nat.lt_of_lt_of_le (h.g1 g off e).2.2 ht.size⟩⟩
  · obtain ⟨d0, e0, h0⟩ := h.v0
    refine ⟨d0 ++ ds.map Vb.v, by rw [e0, e, List.map_append, List.append_assoc], fun n hn => ?_⟩
    rcases List.mem_append.1 hn with hn | hn
    · exact h0 n hn
    · obtain ⟨x, hx, rfl⟩ := List.mem_map.1 hn
      exact hd x hx
  · obtain ⟨off0, e3⟩ := ha g off e2
    exact ⟨(h.g0 g off0 e3).1, (h.g0 g off0 e3).2.1, Nat.lt_of_lt_of_le (h.g0 g off0 e3).2.2 ht.size⟩
/-- what find leaves of what is not the finder's -/
theorem fp_new {B bf bm : Nat} {vs : List Vb} {fs : List ByteArray} {sv sv' : Value} {w : World} (h : Fd B bf bm vs fs sv w) (hn : ∀ g, sv'.ownBlock = some g → sv.ownBlock = some g ∨ w.heap.size ≤ g) : ∀ k, k < w.heap.size → ¬ FP bf bm vs sv k → ¬ FP bf bm vs sv' k := by
  rintro k hk hf (e | e | e | e)
  · exact hf (.inl e)
  · exact hf (.inr (.inl e))
  · rcases hn k e with e | e
    · exact hf (.inr (.inr (.inl e)))
    · omega
  · exact hf (.inr (.inr (.inr e)))
theorem GvP.quiet {B bf bm : Nat} {vs : List Vb} {fs : List ByteArray} {sv : Value} {r r' : Er} {w w' : World} (h : Fd B bf bm vs fs sv w) (hr : EqIs bf bm vs fs sv w r) (ht : Tz (fun k => k = r.be) w w') (h1 : r'.be = r.be) (h2 : r'.q = r.q ∧ r'.l0 = r.l0 ∧ r'.l1 = r.l1) (h3 : ∀ g off, (r'.a0 = some ⟨g, off, none⟩ → ∃ off0, r.a0 = some ⟨g, off0, none⟩) ∧ (r'.a1 = some ⟨g, off, none⟩ → ∃ off0, r.a1 = some ⟨g, off0, none⟩)) (h4 : EqIs bf bm vs fs sv w' r') : GvP B bf bm vs fs sv r none w w' :=
  ⟨r', sv, h1, h2, h3, by simpa using h.keep (fun k hk => ht.block k (h.lt k hk) (fun e => hr.nf (e ▸ hk))), by simpa using h4, ⟨ht.os, ht.tape, ht.output, ht.size, fun b hb he => ht.block b hb (fun e => he (.inr e))⟩, fun g hg => .inl hg⟩
theorem GvP.gave {B bf bm : Nat} {vs : List Vb} {fs : List ByteArray} {sv sv' : Value} {r r' : Er} {w w1 w2 : World} {v : ByteArray} (h : Fd B bf bm vs fs sv w) (hr : EqIs bf bm vs fs sv w r) (ht : Tz (fun k => k = r.be) w w1) (h1 : r'.be = r.be) (h2 : r'.q = r.q ∧ r'.l0 = r.l0 ∧ r'.l1 = r.l1) (h3 : ∀ g off, (r'.a0 = some ⟨g, off, none⟩ → ∃ off0, r.a0 = some ⟨g, off0, none⟩) ∧ (r'.a1 = some ⟨g, off, none⟩ → ∃ off0, r.a1 = some ⟨g, off0, none⟩)) (h4 : EqIs bf bm vs fs sv w1 r')
    (hf1 : Fd B bf bm vs fs sv w1) (hf2 : Fd B bf bm vs (fs ++ [v]) sv' w2) (ht2 : Tz (FP bf bm vs sv) w1 w2) (hn2 : ∀ g, sv'.ownBlock = some g → sv.ownBlock = some g ∨ w1.heap.size ≤ g) : GvP B bf bm vs fs sv r (some v) w w2 := by
  have hnn : ∀ g, sv'.ownBlock = some g → sv.ownBlock = some g ∨ w.heap.size ≤ g := fun g hg => (hn2 g hg).imp id (fun k => Nat.le_trans ht.size k)
  refine ⟨r', sv', h1, h2, h3, hf2, ?_, ?_, hnn⟩
  · exact h4.keep ht2 (fun k hk _ => hk) (fun n hn => List.mem_append.2 (.inl hn)) (fun x hx => hx) (fp_new hf1 hn2)
  · exact Tz.trans ⟨ht.os, ht.tape, ht.output, ht.size, fun b hb he => ht.block b hb (fun e => he (.inr e))⟩ ht2 (fun b _ e => .inl e)
set_option maxHeartbeats 3200000 in
theorem give0_any {B bf bm : Nat} {vs : List Vb} {fs : List ByteArray} {sv : Value} {w : World} (h : Fd B bf bm vs fs sv w) (hB : B ≤ w.heap.size) (r : Er) (hr : EqIs bf bm vs fs sv w r) (hl : fs.length ≤ 1000000000) (hw : r.be < w.heap.size) :
    Calls Tryd.prog 76 #[.pointer (some ⟨bf, 0, none⟩), ptrO r.l0, .pointer (some ⟨r.be, 2, none⟩)] w fun e w' => e = .returned (.bool (givesO r.q.1.lone r.q.2.vars fs).isSome) ∧ GvP B bf bm vs fs sv r (givesO r.q.1.lone r.q.2.vars fs) w w' := by
  have HH := Lib.hid h
  have HR := Lib.hid hr
  obtain ⟨o, ho⟩ : ∃ o, givesO r.q.1.lone r.q.2.vars fs = o := ⟨_, rfl⟩
  rw [ho]
  have HO := Lib.hid ho
  have HL1 := Lib.hid hr.n0
  cases hl0 : r.l0 with
  | none =>
    have HN : Hid (o = none) := by show o = _; rw [← HO.out, HL1.out, hl0]; rfl
    clear ho h hr hl0
    unfold ptrO
    go_enter Tryd.func76, Tryd.ntmps76
    go_wp2
    go_ret
    refine ⟨by rw [HN.out]; rfl, ?_⟩
    rw [HN.out]
    exact GvP.still HH.out HR.out
  | some x =>
    have hx : x ∈ vs := hr.m0 x hl0
    have hc := (h.each x hx).at (j := 1) rfl
    have HX := Lib.hid hx
    have HLN : Hid (r.q.1.lone = some x.v) := by show _ = _; rw [HL1.out, hl0]; rfl
    unfold ptrO ptrV
    cases hq : inB fs x.v
    · rw [hq] at hc
      have HQ := Lib.hid hq
      have HK := Lib.hid (isKnownR_any h r.be r.a1 r.c1 r.x1 hr.row hr.nf hr.i1 hr.q1 (fun g off e => (hr.g1 g off e).2.1))
      have HAL : Hid ((r.q.2.vars).all (inB fs) = r.x1.all (fun x => inB fs x.v)) := by
        show _ = _
        obtain ⟨ds, e, hds⟩ := hr.v1
        rw [e, List.all_append, List.all_map]
        have : ds.all (inB fs) = true := List.all_eq_true.2 (fun n hn => inB_iff.2 (hds n hn))
        rw [this]
        rfl
      cases hq2 : r.x1.all (fun x => inB fs x.v)
      · have HN : Hid (o = none) := by show o = _; rw [← HO.out, HLN.out]; unfold givesO; simp only [HQ.out, HAL.out, hq2]; rfl
        rw [hq2] at HK
        clear ho h hr hl0 hq hq2 hx
        go_enter Tryd.func76, Tryd.ntmps76
        go_wp2_with fail
        refine HK.out.mono ?_
        rintro e w1 ⟨rfl, ht, hk⟩
        have HT := Lib.hid ht
        have HKN := Lib.hid hk
        clear ht hk HK
        go_wp2
        go_ret
        refine ⟨by rw [HN.out]; rfl, ?_⟩
        rw [HN.out]
        obtain ⟨r', h1, h2, h3, h4⟩ := HR.out.knownR HT.out HKN.out
        exact GvP.quiet HH.out HR.out HT.out h1 h2 h3 h4
      · have HN : Hid (o = some x.v) := by show o = _; rw [← HO.out, HLN.out]; unfold givesO; simp only [HQ.out, HAL.out, hq2]; rfl
        rw [hq2] at HK
        clear ho h hr hl0 hq hq2 hx
        go_enter Tryd.func76, Tryd.ntmps76
        go_wp2_with fail
        refine HK.out.mono ?_
        rintro e w1 ⟨rfl, ht, hk⟩
        have HT := Lib.hid ht
        have HKN := Lib.hid hk
        have HF1 : Hid (Fd B bf bm vs fs sv w1) := HH.out.keep (fun k hk => ht.block k (HH.out.lt k hk) (fun e => HR.out.nf (e ▸ hk)))
        have HFI := Lib.hid (find_any HF1.out (Nat.le_trans hB ht.size) x HX.out hl)
        clear ht hk HK hc
        go_wp2_with fail
        refine HFI.out.mono ?_
        rintro e w2 ⟨⟨u, rfl⟩, sv', hf2, ht2, hn2⟩
        have HF2 := Lib.hid hf2
        have HT2 := Lib.hid ht2
        have HN2 := Lib.hid hn2
        clear hf2 ht2 hn2 HFI
        go_wp2
        go_ret
        refine ⟨by rw [HN.out]; rfl, ?_⟩
        rw [HN.out]
        obtain ⟨r', h1, h2, h3, h4⟩ := HR.out.knownR HT.out HKN.out
        have hf2 := HF2.out
        have : addN fs x.v = fs ++ [x.v] := by unfold addN; rw [HQ.out]; rfl
        rw [this] at hf2
        exact GvP.gave HH.out HR.out HT.out h1 h2 h3 h4 HF1.out hf2 HT2.out HN2.out
    · rw [hq] at hc
      have HN : Hid (o = none) := by show o = _; rw [← HO.out, HLN.out]; unfold givesO; simp only [hq]; rfl
      clear ho h hr hl0 hq hx
      go_enter Tryd.func76, Tryd.ntmps76
      go_wp2
      go_ret
      refine ⟨by rw [HN.out]; rfl, ?_⟩
      rw [HN.out]
      exact GvP.still HH.out HR.out
set_option maxHeartbeats 3200000 in
theorem give1_any {B bf bm : Nat} {vs : List Vb} {fs : List ByteArray} {sv : Value} {w : World} (h : Fd B bf bm vs fs sv w) (hB : B ≤ w.heap.size) (r : Er) (hr : EqIs bf bm vs fs sv w r) (hl : fs.length ≤ 1000000000) (hw : r.be < w.heap.size) :
    Calls Tryd.prog 76 #[.pointer (some ⟨bf, 0, none⟩), ptrO r.l1, .pointer (some ⟨r.be, 0, none⟩)] w fun e w' => e = .returned (.bool (givesO r.q.2.lone r.q.1.vars fs).isSome) ∧ GvP B bf bm vs fs sv r (givesO r.q.2.lone r.q.1.vars fs) w w' := by
  have HH := Lib.hid h
  have HR := Lib.hid hr
  obtain ⟨o, ho⟩ : ∃ o, givesO r.q.2.lone r.q.1.vars fs = o := ⟨_, rfl⟩
  rw [ho]
  have HO := Lib.hid ho
  have HL1 := Lib.hid hr.n1
  cases hl0 : r.l1 with
  | none =>
    have HN : Hid (o = none) := by show o = _; rw [← HO.out, HL1.out, hl0]; rfl
    clear ho h hr hl0
    unfold ptrO
    go_enter Tryd.func76, Tryd.ntmps76
    go_wp2
    go_ret
    refine ⟨by rw [HN.out]; rfl, ?_⟩
    rw [HN.out]
    exact GvP.still HH.out HR.out
  | some x =>
    have hx : x ∈ vs := hr.m1 x hl0
    have hc := (h.each x hx).at (j := 1) rfl
    have HX := Lib.hid hx
    have HLN : Hid (r.q.2.lone = some x.v) := by show _ = _; rw [HL1.out, hl0]; rfl
    unfold ptrO ptrV
    cases hq : inB fs x.v
    · rw [hq] at hc
      have HQ := Lib.hid hq
      have HK := Lib.hid (isKnownL_any h r.be r.a0 r.c0 r.x0 hr.row hr.nf hr.i0 hr.q0 (fun g off e => (hr.g0 g off e).2.1))
      have HAL : Hid ((r.q.1.vars).all (inB fs) = r.x0.all (fun x => inB fs x.v)) := by
        show _ = _
        obtain ⟨ds, e, hds⟩ := hr.v0
        rw [e, List.all_append, List.all_map]
        have : ds.all (inB fs) = true := List.all_eq_true.2 (fun n hn => inB_iff.2 (hds n hn))
        rw [this]
        rfl
      cases hq2 : r.x0.all (fun x => inB fs x.v)
      · have HN : Hid (o = none) := by show o = _; rw [← HO.out, HLN.out]; unfold givesO; simp only [HQ.out, HAL.out, hq2]; rfl
        rw [hq2] at HK
        clear ho h hr hl0 hq hq2 hx
        go_enter Tryd.func76, Tryd.ntmps76
        go_wp2_with fail
        refine HK.out.mono ?_
        rintro e w1 ⟨rfl, ht, hk⟩
        have HT := Lib.hid ht
        have HKN := Lib.hid hk
        clear ht hk HK
        go_wp2
        go_ret
        refine ⟨by rw [HN.out]; rfl, ?_⟩
        rw [HN.out]
        obtain ⟨r', h1, h2, h3, h4⟩ := HR.out.knownL HT.out HKN.out
        exact GvP.quiet HH.out HR.out HT.out h1 h2 h3 h4
      · have HN : Hid (o = some x.v) := by show o = _; rw [← HO.out, HLN.out]; unfold givesO; simp only [HQ.out, HAL.out, hq2]; rfl
        rw [hq2] at HK
        clear ho h hr hl0 hq hq2 hx
        go_enter Tryd.func76, Tryd.ntmps76
        go_wp2_with fail
        refine HK.out.mono ?_
        rintro e w1 ⟨rfl, ht, hk⟩
        have HT := Lib.hid ht
        have HKN := Lib.hid hk
        have HF1 : Hid (Fd B bf bm vs fs sv w1) := HH.out.keep (fun k hk => ht.block k (HH.out.lt k hk) (fun e => HR.out.nf (e ▸ hk)))
        have HFI := Lib.hid (find_any HF1.out (Nat.le_trans hB ht.size) x HX.out hl)
        clear ht hk HK hc
        go_wp2_with fail
        refine HFI.out.mono ?_
        rintro e w2 ⟨⟨u, rfl⟩, sv', hf2, ht2, hn2⟩
        have HF2 := Lib.hid hf2
        have HT2 := Lib.hid ht2
        have HN2 := Lib.hid hn2
        clear hf2 ht2 hn2 HFI
        go_wp2
        go_ret
        refine ⟨by rw [HN.out]; rfl, ?_⟩
        rw [HN.out]
        obtain ⟨r', h1, h2, h3, h4⟩ := HR.out.knownL HT.out HKN.out
        have hf2 := HF2.out
        have : addN fs x.v = fs ++ [x.v] := by unfold addN; rw [HQ.out]; rfl
        rw [this] at hf2
        exact GvP.gave HH.out HR.out HT.out h1 h2 h3 h4 HF1.out hf2 HT2.out HN2.out
    · rw [hq] at hc
      have HN : Hid (o = none) := by show o = _; rw [← HO.out, HLN.out]; unfold givesO; simp only [hq]; rfl
      clear ho h hr hl0 hq hx
      go_enter Tryd.func76, Tryd.ntmps76
      go_wp2
      go_ret
      refine ⟨by rw [HN.out]; rfl, ?_⟩
      rw [HN.out]
      exact GvP.still HH.out HR.out
end Go.Proofs.YteabclfhmapabaaDoor
end
