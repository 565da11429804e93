import Derived.Test.YtikjphfeeljhbaaGreatDoorPrintW
import Derived.Test.YtikjphfeeljhbaaGreatDoorTermTree
namespace Go.Proofs.YtikjphfeeljhbaaGreatDoor
open Go.RowKit Go.Maps
set_option linter.unusedVariables false
set_option linter.unusedSimpArgs false
attribute [local go_sem ↓] Go.wp_at_zero Go.wp_at_succ

def bytesOf (ss : List ByteArray) : List UInt8 := ss.flatMap (fun s => s.data.toList)
theorem bytesOf_take {ss : List ByteArray} {k : Nat} (h : k < ss.length) : bytesOf (ss.take (k + 1)) = bytesOf (ss.take k) ++ ss[k].data.toList := by
  unfold bytesOf
  rw [List.take_add_one, List.getElem?_eq_getElem h, List.flatMap_append]
  simp
theorem bytesOf_le {ss : List ByteArray} {k : Nat} (h : k ≤ ss.length) : (bytesOf (ss.take k)).length ≤ (bytesOf ss).length := by
  have e : bytesOf ss = bytesOf (ss.take k) ++ bytesOf (ss.drop k) := by
    unfold bytesOf
    rw [← List.flatMap_append, List.take_append_drop]
  rw [e, List.length_append]
  omega

set_option maxHeartbeats 1600000 in
theorem put_any {B b g : Nat} {l : List UInt8} {w : World} (ss : List ByteArray) (fr : Nat × Nat) (h : BldA B b l w) (hBw : B ≤ w.heap.size) (hl : l.length + (bytesOf ss).length ≤ 1099511627776) (hn : ss.length ≤ 1000)
    (hg : w.heap[g]? = some (.cells (ss.map Value.string).toArray 9 fr)) (hgb : g ≠ b) :
    Calls Tryz.prog 33 #[self b, .slice (some ⟨g, 0, none⟩) ss.length ss.length] w (Wrote B b l (bytesOf ss) w) := by
  have HG : Hid _ := hg
  have HL : Hid _ := hl
  have HH : Hid (BldA B b l w) := h
  clear hg hl h
  unfold self
  go_enter Tryz.func33, Tryz.ntmps33
  go_wp2
  go_loopw [8] (fun i wr => ∃ k : Nat, k ≤ ss.length ∧ i = .int .i64 k ∧ Hid (BldA B b (l ++ bytesOf (ss.take k)) wr ∧ Below B w wr ∧ Spare b w wr)) (fun i _ => ss.length - (intOf i).toNat)
  case atStart => exact ⟨0, Nat.zero_le _, rfl, by simpa [bytesOf] using HH.out, Below.refl _ _, Spare.refl _ _⟩
  case round =>
    obtain ⟨k, hk, rfl, HB⟩ := hrel
    by_cases hlt : k < ss.length
    · have hlt' : (k : Int) < (ss.length : Int) := by omega
      have c : wr.cell? ⟨g, k, none⟩ = some (.string ss[k]) := by rw [HB.out.2.2.cell HG.out (by decide) hgb]; simp [hlt]
      have HX : Hid (bytesOf (ss.take (k + 1)) = bytesOf (ss.take k) ++ ss[k].data.toList) := bytesOf_take hlt
      have HY : Hid ((bytesOf (ss.take (k + 1))).length ≤ (bytesOf ss).length) := bytesOf_le hlt
      generalize ss[k] = s at c HX
      have HZ : Hid ((l ++ bytesOf (ss.take k)).length ≤ 1099511627776 ∧ s.size ≤ 1099511627776) := by
        have e : (bytesOf (ss.take (k + 1))).length = (bytesOf (ss.take k)).length + s.size := by rw [HX.out, List.length_append, len_toList]
        have := HY.out
        have := HL.out
        refine ⟨?_, by omega⟩
        rw [List.length_append]; omega
      clear HY
      go_wp2_with fail
      refine (WriteString_any s HB.out.1 HZ.out.1 HZ.out.2 (Nat.le_trans hBw HB.out.2.1.size)).mono ?_
      rintro e w2 ⟨rfl, hb3, hb4, hb5⟩
      go_wp2
      go_roundw
      case rel => exact ⟨k + 1, by omega, by go_num, by rw [HX.out, ← List.append_assoc]; exact hb3, HB.out.2.1.trans hb4, HB.out.2.2.trans hb5⟩
      case measure => simp [intOf]; omega
    · obtain rfl : k = ss.length := by omega
      go_wp2
      go_end0
      exact ⟨rfl, by have := HB.out.1; rw [List.take_length] at this; exact this, HB.out.2.1, HB.out.2.2⟩
theorem put_one {B b g : Nat} {l : List UInt8} {w : World} (s : ByteArray) (fr : Nat × Nat) (h : BldA B b l w) (hBw : B ≤ w.heap.size) (hl : l.length + s.size ≤ 1099511627776)
    (hg : w.heap[g]? = some (.cells #[.string s] 9 fr)) (hgb : g ≠ b) :
    Calls Tryz.prog 33 #[self b, .slice (some ⟨g, 0, none⟩) 1 1] w (Wrote B b l s.data.toList w) := by
  have e : bytesOf [s] = s.data.toList := by simp [bytesOf]
  have := put_any [s] fr h hBw (by rw [e, len_toList]; exact hl) (by simp) hg hgb
  rw [e] at this
  exact this
/-- a piece that was laid just now -/
theorem put_new {B b g : Nat} {l : List UInt8} {w : World} (s : ByteArray) (hg : g = w.heap.size) (h : BldA B b l w) (hBw : B ≤ w.heap.size) (hl : l.length + s.size ≤ 1099511627776) :
    Calls Tryz.prog 33 #[self b, .slice (some ⟨g, 0, none⟩) 1 1] (w.alloc (.cells #[.string s] 9)) (Wrote B b l s.data.toList w) := by
  subst hg
  have BA := (Below.refl w.heap.size w).alloc (Nat.le_refl _) (.cells #[.string s] 9)
  refine (put_one s (0, 0) (h.below BA) (Nat.le_trans hBw BA.size) hl (heap_alloc_new w _) (by have := h.lt; omega)).mono ?_
  rintro e w' ⟨rfl, h1, h2, h3⟩
  exact ⟨rfl, h1, (BA.mono hBw).trans h2, (Spare.below BA).trans h3⟩
theorem put_new3 {B b g : Nat} {l : List UInt8} {w : World} (s1 s2 s3 : ByteArray) (hg : g = w.heap.size) (h : BldA B b l w) (hBw : B ≤ w.heap.size) (hl : l.length + (s1.size + s2.size + s3.size) ≤ 1099511627776) :
    Calls Tryz.prog 33 #[self b, .slice (some ⟨g, 0, none⟩) 3 3] (w.alloc (.cells #[.string s1, .string s2, .string s3] 9)) (Wrote B b l (s1.data.toList ++ s2.data.toList ++ s3.data.toList) w) := by
  subst hg
  have BA := (Below.refl w.heap.size w).alloc (Nat.le_refl _) (.cells #[.string s1, .string s2, .string s3] 9)
  have e : bytesOf [s1, s2, s3] = s1.data.toList ++ s2.data.toList ++ s3.data.toList := by simp [bytesOf]
  have := put_any (g := w.heap.size) [s1, s2, s3] (0, 0) (h.below BA) (Nat.le_trans hBw BA.size) (by rw [e]; simp only [List.length_append, len_toList]; exact hl) (by simp) (heap_alloc_new w _) (by have := h.lt; omega)
  rw [e] at this
  refine this.mono ?_
  rintro e w' ⟨rfl, h1, h2, h3⟩
  exact ⟨rfl, h1, (BA.mono hBw).trans h2, (Spare.below BA).trans h3⟩
theorem Wrote.from {B b : Nat} {l t : List UInt8} {w0 w : World} {e : Ending} {w' : World} (h : Wrote B b l t w e w') (h1 : Below B w0 w) (h2 : Spare b w0 w) : Wrote B b l t w0 e w' :=
  ⟨h.1, h.2.1, h1.trans h.2.2.1, h2.trans h.2.2.2⟩

/-- the text of a value that is one -/
def showB (v : V) : List UInt8 := if v.k = 1 then Lib.itoa v.n else if nameB v.s then v.s.data.toList else (quoteQ v.s).data.toList
def showS (v : V) : ByteArray := if v.k = 1 then ⟨(Lib.itoa v.n).toArray⟩ else if nameB v.s then v.s else quoteQ v.s
theorem showS_bytes (v : V) : (showS v).data.toList = showB v := by
  unfold showS showB
  split
  · simp
  · split <;> rfl
theorem V.wf.num0 {v : V} (h : v.wf) : -9223372036854775808 ≤ v.n ∧ v.n ≤ 9223372036854775807 := by
  have := h.num
  simp only [Lit.wf, Bool.and_eq_true, decide_eq_true_eq] at this
  exact this
/-- the table of the powers of ten -/
abbrev PW (w : World) : Prop := Lib.TabIs Tryz.prog w "internal/strconv.uint64pow10" .u64 Lib.pow10Tab
set_option maxHeartbeats 1600000 in
theorem wvalue_any {B b : Nat} {l : List UInt8} {w : World} (v : V) (hv : v.wf) (hok : okV v = true) (hp : PW w) (h : BldA B b l w) (hBw : B ≤ w.heap.size) (hl : l.length + (showB v).length ≤ 1099511627776) :
    Calls Tryz.prog 42 #[self b, v.val] w (Wrote B b l (showB v) w) := by
  have hs : (showS v).size = (showB v).length := by rw [← showS_bytes, len_toList]
  have HE : Hid _ := showS_bytes v
  have hc : chk v.k v.n v.s = 0 := by simpa [okV, chkV] using hok
  have hV : showV v.k v.n v.s = .tuple #[.string (showS v), .int .i64 0] := by unfold showV showS; rw [if_pos hc]
  have BA := (Below.refl w.heap.size w).alloc (Nat.le_refl _) (.cells #[.int .i8 v.k, .int .i64 v.n, .string v.s] 69)
  have HP : Hid _ := tab_below hp BA
  have HB : Hid (BldA B b l _) := h.below BA
  have HL : Hid _ := hl
  have H0 := hv.num0
  clear hp h hl hc hok
  unfold V.val self
  go_enter Tryz.func42, Tryz.ntmps42
  go_wp2_with fail
  refine (vshow_any v.k v.n v.s _ HP.out hv.text H0.1 H0.2).mono ?_
  rintro e w1 ⟨rfl, b1⟩
  rw [hV]
  have b1' := BA.trans (b1.mono BA.size)
  have hbl := HB.out.below b1
  clear b1 HP HB BA
  generalize showS v = s at hs HE
  go_wp2_with fail
  refine (put_new s rfl hbl (Nat.le_trans hBw b1'.size) (by have := HL.out; omega)).mono ?_
  rintro e w2 hw2
  have hw3 := hw2.from (b1'.mono hBw) (Spare.below b1')
  rw [HE.out] at hw3
  obtain ⟨rfl, hw3⟩ := hw3
  go_wp2
  go_end0
  exact ⟨rfl, hw3⟩

/-- the text of a term that is one -/
def termT (t : T) : List UInt8 := if t.v = noS then showB t.a else t.v.data.toList
set_option maxHeartbeats 1600000 in
theorem wterm_any {B b : Nat} {l : List UInt8} {w : World} (t : T) (ht : t.wf) (hok : termB t = true) (hp : PW w) (h : BldA B b l w) (hBw : B ≤ w.heap.size) (hl : l.length + (termT t).length ≤ 1099511627776) :
    Calls Tryz.prog 56 #[self b, t.val] w (Wrote B b l (termT t) w) := by
  obtain ⟨tv, v⟩ := t
  have hv := ht.val
  have BA := (Below.refl w.heap.size w).alloc (Nat.le_refl _) (.cells #[.string tv, .int .i8 v.k, .int .i64 v.n, .string v.s] 71)
  have hbl := h.below BA
  have HP : Hid _ := tab_below hp BA
  unfold T.val self
  unfold termB at hok
  unfold termT at hl ⊢
  dsimp only at *
  by_cases e0 : tv = noS
  · rw [if_pos e0] at hok hl ⊢
    subst e0
    have HL : Hid _ := hl
    have HK : Hid _ := hok
    clear hok hl hp h
    unfold noS at *
    go_enter Tryz.func56, Tryz.ntmps56
    go_wp2_with fail
    refine (wvalue_any v hv HK.out HP.out hbl (Nat.le_trans hBw BA.size) HL.out).mono ?_
    rintro e w2 hw2
    obtain ⟨rfl, hw3⟩ := hw2.from (BA.mono hBw) (Spare.below BA)
    go_wp2
    go_end0
    exact ⟨rfl, hw3⟩
  · rw [if_neg e0] at hl ⊢
    have he := some_iff tv e0
    rw [len_toList] at hl
    have HL : Hid _ := hl
    clear hok e0 hp h HP hl
    go_enter Tryz.func56, Tryz.ntmps56
    go_wp2_with fail
    refine (put_new tv (by simp) hbl (Nat.le_trans hBw BA.size) HL.out).mono ?_
    rintro e w2 hw2
    obtain ⟨rfl, hw3⟩ := hw2.from (BA.mono hBw) (Spare.below BA)
    go_wp2
    go_end0
    exact ⟨rfl, hw3⟩
end Go.Proofs.YtikjphfeeljhbaaGreatDoor
