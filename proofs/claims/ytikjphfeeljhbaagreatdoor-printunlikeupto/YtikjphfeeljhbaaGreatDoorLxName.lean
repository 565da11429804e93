import Derived.Lib.LaidTab
import Derived.Lib.ItoaNum
import Derived.Test.YtikjphfeeljhbaaGreatDoorLxWord
import Derived.Test.YtikjphfeeljhbaaGreatDoorTermAtom
import Derived.Deep.MidRow
namespace Go.Proofs.YtikjphfeeljhbaaGreatDoor.LX
open Go.RowKit
set_option linter.unusedVariables false
set_option linter.unusedSimpArgs false
attribute [local go_sem ↓] Go.wp_at_zero Go.wp_at_succ

def kwAt (k : Nat) : List UInt8 := kws.getD k []
def strV (l : List UInt8) : Value := .string ⟨l.toArray⟩
def kwRow : List Value := kws.map strV
theorem kwRow_at {k : Nat} (h : k < 8) : kwRow.toArray[k]? = some (.string ⟨(kwAt k).toArray⟩) := by
  have e : ∀ k : Fin 8, kws[k.val]? = some (kwAt k.val) := by decide
  have := e ⟨k, h⟩
  simp at this
  simp [kwRow, this, strV]
/-- the table of the keywords -/
structure Gl (w : World) : Prop where
  kw : w.rangeAt 4 0 kwRow
theorem Gl.below {w w' : World} (h : Gl w) (hb : Below w.heap.size w w') : Gl w' :=
  ⟨fun i v hi => by have hu := h.kw i v hi; rw [hb.cell (p := ⟨4, 0 + i, none⟩) (World.block_lt_of_cell? _ _ hu)]; exact hu⟩
theorem load_kw {w : World} (hk : w.rangeAt 4 0 kwRow) :
    (Instr.loadAt 143 (.pointer (some ⟨4, 0, none⟩))).run Tryz.prog w = .ok (.agg kwRow.toArray) w :=
  run_loadAt_mid w _ 0 _ kwRow _ hk Tryz.underlying143 rfl (by kernel_rfl)
/-- a load whose run is known -/
theorem wpList_loadEq {P : Program} (w : World) {ops : Array Oper} {rest : List Oper} {o : Oper} {a : Act} {Q : Exit → Act → World → Prop} (hgd : o.guard = none) (p : Operand) (t : TypeId)
    (ho : o.op = Op.load t p) (v c : Value) (hp : a.eval p = v) (hrun : (Instr.loadAt t v).run P w = .ok c w)
    (hK : wpList P ops Q rest (a.put o.dst c) w) : wpList P ops Q (o :: rest) a w := by
  refine wpList_plain hgd fun K' hK' => ?_
  unfold Oper.wp
  simp [execOp, ho, hp, hrun, Result.andThen]
  exact hK' _ _ hK

theorem run_index_row {P : Program} (w : World) (t e : TypeId) (n : Nat) (cs : Array Value) (k : Nat) (v : Value) (h : P.underlying t = some (.array n e)) (h1 : (sizeOf e).run P w = .ok 1 w) (h2 : ∀ w, (isAgg e).run P w = .ok false w) (hk : k < n) (hv : cs[k]? = some v) :
    (Instr.index t (.agg cs) (.int .i64 k)).run P w = .ok v w := by
  have hn : (0 : Int) ≤ k ∧ (k : Int) < n := by omega
  simp [Instr.index, run_underlying h, asIntOf, hn, go_sem, hv, h2, h1, hk]
theorem bytes_ext {s : ByteArray} {l : List UInt8} : s.data.toList = l ↔ s = ⟨l.toArray⟩ := by
  cases s with | mk d => 
  constructor
  · intro h; subst h; simp
  · intro h; simp at h; subst h; simp

theorem kwU_none {l : List UInt8} (h : ∀ j, j < 8 → l ≠ kwAt j) : kwU l = false := by
  unfold kwU
  rw [decide_eq_false_iff_not]
  intro hm
  obtain ⟨j, hj, e⟩ := List.mem_iff_getElem.mp hm
  refine h j (by simpa [kws] using hj) ?_
  unfold kwAt
  rw [List.getD_eq_getElem?_getD, List.getElem?_eq_getElem hj, ← e]; rfl
theorem kwU_some {l : List UInt8} {j : Nat} (hj : j < 8) (h : l = kwAt j) : kwU l = true := by
  unfold kwU
  rw [decide_eq_true_iff]
  subst h
  match j, hj with
  | 0, _ => decide | 1, _ => decide | 2, _ => decide | 3, _ => decide | 4, _ => decide | 5, _ => decide | 6, _ => decide | 7, _ => decide

set_option maxHeartbeats 1600000 in
set_option maxRecDepth 100000 in
theorem Keyword_any (s : ByteArray) (w : World) (hg : Gl w) : Calls Tryz.prog 63 #[.string s] w fun e w' => e = .returned (.bool (kwU s.data.toList)) ∧ w' = w := by
  have HL := load_kw hg.kw
  clear hg
  go_enter Tryz.func63, Tryz.ntmps63
  go_wp2_with (first
    | (refine wpList_loadEq _ rfl (.global 4) 143 rfl _ _ rfl HL ?_)
    | fail)
  clear HL
  go_loop [6] (fun i => ∃ k : Nat, k ≤ 8 ∧ i = .int .i64 k ∧ Hid (∀ j, j < k → s.data.toList ≠ kwAt j)) (fun i => 8 - (intOf i).toNat)
  case atStart => exact ⟨0, Nat.zero_le _, rfl, fun j hj => by omega⟩
  case round =>
    obtain ⟨k, hk, rfl, HN⟩ := hrel
    by_cases hlt : k < 8
    · have hlt' : (k : Int) < 8 := by omega
      have hix := run_index_row w 143 9 8 kwRow.toArray k _ Tryz.underlying143 (Tryz.sizeOf9 w) Tryz.isAgg9 hlt (kwRow_at hlt)
      by_cases he : s.data.toList = kwAt k
      · have HY : Hid (kwU s.data.toList = true) := kwU_some hlt he
        have he' := bytes_ext.mp he
        clear HN he
        generalize kwRow.toArray = R at *
        generalize hx : (⟨(kwAt k).toArray⟩ : ByteArray) = x at *
        clear hx
        subst he'
        go_wp2
        go_ret
        exact ⟨ret_bool HY.out.symm, rfl⟩
      · have HS : Hid (∀ j, j < k + 1 → s.data.toList ≠ kwAt j) := fun j hj => by
          by_cases e : j = k
          · subst e; exact he
          · exact HN.out j (by omega)
        have he' : (s.toList == (⟨(kwAt k).toArray⟩ : ByteArray).toList) = false := by
          rw [beq_eq_false_iff_ne, ByteArray.toList_eq, ByteArray.toList_eq]
          simpa using he
        clear HN he
        generalize kwRow.toArray = R at *
        generalize (⟨(kwAt k).toArray⟩ : ByteArray) = x at *
        go_wp2
        go_round
        case rel => exact ⟨k + 1, by omega, by go_num, HS⟩
        case measure => simp [intOf]; omega
    · have HF : Hid (kwU s.data.toList = false) := kwU_none fun j hj => HN.out j (by omega)
      have hlt' : ¬ (k : Int) < 8 := by omega
      clear HN
      go_wp2
      go_ret
      exact ⟨ret_bool HF.out.symm, rfl⟩

theorem empty_iff (s : ByteArray) : s.toList.isEmpty = decide (s.size = 0) := by
  rw [ByteArray.toList_eq, ← ByteArray.size_data, ← Array.length_toList]
  cases s.data.toList <;> simp
theorem wordU_eq (s : ByteArray) : wordU s.data.toList = (decide (s.size ≠ 0) && decide (s.size ≤ 120) && decide (runLen s.data.toList = s.size)) := by
  unfold wordU
  rw [len_toList]
  congr 2
  have := len_toList s
  congr 1
  apply propext
  constructor
  · intro h e; apply h; exact List.length_eq_zero_iff.mp (by omega)
  · intro h e; apply h; rw [← this, e]; rfl

set_option maxHeartbeats 1600000 in
theorem isWord_any (s : ByteArray) (w : World) (hs : s.size ≤ maxLen) : Calls Tryz.prog 61 #[.string s] w fun e w' => e = .returned (.bool (wordU s.data.toList)) ∧ Below w.heap.size w w' := by
  have HM : Hid (s.size ≤ maxLen) := hs
  unfold maxLen at hs
  rw [wordU_eq]
  by_cases h0 : s.size = 0
  · have he : s.toList.isEmpty = true := by rw [empty_iff]; simpa using h0
    have HF : Hid ((decide (s.size ≠ 0) && decide (s.size ≤ 120) && decide (runLen s.data.toList = s.size)) = false) := by show _ = _; simp [h0]
    go_enter Tryz.func61, Tryz.ntmps61
    go_wp2
    go_ret
    exact ⟨ret_bool (by first | rfl | exact HF.out.symm), Below.refl _ _⟩
  · have he : s.toList.isEmpty = false := by rw [empty_iff]; simpa using h0
    by_cases h1 : s.size ≤ 120
    · have h1' : (s.size : Int) ≤ 120 := by omega
      have HF : Hid ((decide (s.size ≠ 0) && decide (s.size ≤ 120) && decide (runLen s.data.toList = s.size)) = decide (runLen s.data.toList = s.size)) := by show _ = _; simp [h0, h1]
      rw [HF.out]
      clear HF
      generalize hr : runLen s.data.toList = r
      have hx : ((r : Int) == (s.size : Int)) = decide (r = s.size) := by
        by_cases e : r = s.size
        · simp [e]
        · have : ¬ (r : Int) = (s.size : Int) := by omega
          simp [e, this]
      by_cases e : r = s.size
      · have e' : (r : Int) = (s.size : Int) := by omega
        go_enter Tryz.func61, Tryz.ntmps61
        go_wp2_with (go_at_call 76; refine (runLength_any _ _ HM.out).mono ?_; rw [hr]; rintro e w1 ⟨rfl, hb1⟩)
        go_ret
        exact ⟨ret_bool (by simp [e]), hb1⟩
      · have e' : ¬ (r : Int) = (s.size : Int) := by omega
        go_enter Tryz.func61, Tryz.ntmps61
        go_wp2_with (go_at_call 76; refine (runLength_any _ _ HM.out).mono ?_; rw [hr]; rintro e w1 ⟨rfl, hb1⟩)
        go_ret
        exact ⟨ret_bool (by simp [e]), hb1⟩
    · have h1' : ¬ (s.size : Int) ≤ 120 := by omega
      have HF : Hid ((decide (s.size ≠ 0) && decide (s.size ≤ 120) && decide (runLen s.data.toList = s.size)) = false) := by show _ = _; simp [h1]
      go_enter Tryz.func61, Tryz.ntmps61
      go_wp2
      go_ret
      exact ⟨ret_bool (by first | rfl | exact HF.out.symm), Below.refl _ _⟩

theorem list_at (s : ByteArray) (h : 0 < s.size) : s.data.toList = s[0] :: s.data.toList.drop 1 := by
  have := drop_at s h
  simpa using this
theorem headB_at (p : UInt8 → Bool) (s : ByteArray) (h : 0 < s.size) : headB p s.data.toList = p s[0] := by
  rw [list_at s h]; rfl
theorem wordU_pos {s : ByteArray} (h : wordU s.data.toList = true) : 0 < s.size := by
  rw [wordU_eq] at h
  simp only [Bool.and_eq_true, decide_eq_true_eq] at h
  omega
theorem wrap_u8 (c : UInt8) : wrap32 (c.toNat : Int) = (c.toNat : Int) := by
  have := c.toNat_lt
  unfold wrap32
  omega

set_option maxHeartbeats 1600000 in
theorem Name_any (s : ByteArray) (w : World) (hg : Gl w) (hs : s.size ≤ maxLen) : Calls Tryz.prog 39 #[.string s] w fun e w' => e = .returned (.bool (nameU s.data.toList)) ∧ Below w.heap.size w w' := by
  unfold nameU
  cases hw : wordU s.data.toList
  · go_enter Tryz.func39, Tryz.ntmps39
    go_wp2_with (go_at_call 61; refine (isWord_any _ _ hs).mono ?_; rw [hw]; rintro e w1 ⟨rfl, hb1⟩)
    go_ret
    exact ⟨ret_bool (by first | rfl | simp), hb1⟩
  · have hp := wordU_pos hw
    have hp' : (0 : Int) < (s.size : Int) := by omega
    have hwr := wrap_u8 (s[0]'hp)
    rw [headB_at _ s hp, ← smallI_u]
    cases hk : kwU s.data.toList <;> cases hm : smallI ((s[0]'hp).toNat : Int)
    all_goals
      go_enter Tryz.func39, Tryz.ntmps39
      go_wp2_with (first
        | (go_at_call 61; refine (isWord_any _ _ hs).mono ?_; rw [hw]; rintro e w1 ⟨rfl, hb1⟩; have hg1 := hg.below hb1; clear hg)
        | (go_at_call 62; refine (isSmall_any _ _).mono ?_; rintro e w2 ⟨rfl, rfl⟩)
        | (go_at_call 63; refine (Keyword_any _ _ hg1).mono ?_; rintro e w2 ⟨rfl, rfl⟩))
      go_ret
      exact ⟨ret_bool (by first | rfl | simp), hb1⟩

theorem nil_iff {s : ByteArray} : s.data.toList = [] ↔ s.size = 0 := by rw [← len_toList]; exact List.length_eq_zero_iff.symm
theorem letter_run (c : UInt8) : Go.Proofs.YtikjphfeeljhbaaGreatDoor.letterB (c.toNat : Int) = runU c := by
  unfold Go.Proofs.YtikjphfeeljhbaaGreatDoor.letterB Go.Proofs.YtikjphfeeljhbaaGreatDoor.smallB Go.Proofs.YtikjphfeeljhbaaGreatDoor.capitalB Go.Proofs.YtikjphfeeljhbaaGreatDoor.digitB runU letU smallU capU digU
  rw [Bool.eq_iff_iff]
  simp
  omega
theorem letters_iff (s : ByteArray) : ∀ n, n ≤ s.size → (Go.Proofs.YtikjphfeeljhbaaGreatDoor.lettersB s n = true ↔ ∀ x ∈ s.data.toList.take n, runU x = true)
  | 0, _ => by simp [Go.Proofs.YtikjphfeeljhbaaGreatDoor.lettersB]
  | n + 1, hn => by
    have hlt : n < s.size := by omega
    simp only [Go.Proofs.YtikjphfeeljhbaaGreatDoor.lettersB, Bool.and_eq_true]
    rw [letters_iff s n (by omega), Go.Proofs.YtikjphfeeljhbaaGreatDoor.byteAt_eq hlt, letter_run, Go.Proofs.YtikjphfeeljhbaaGreatDoor.take_more s hlt]
    simp only [List.mem_append, List.mem_singleton]
    constructor
    · rintro ⟨h1, h2⟩ x (hx | rfl)
      · exact h1 x hx
      · exact h2
    · intro h
      exact ⟨fun x hx => h x (.inl hx), h _ (.inr rfl)⟩
theorem run_le : ∀ l : List UInt8, runLen l ≤ l.length
  | [] => Nat.le_refl _
  | c :: r => by
    have := run_le r
    rw [runLen]
    split
    · simpa using this
    · exact Nat.zero_le _
theorem run_iff : ∀ l : List UInt8, runLen l = l.length ↔ ∀ x ∈ l, runU x = true
  | [] => by simp [runLen]
  | c :: r => by
    have ih := run_iff r
    by_cases hc : runU c = true
    · rw [runLen, if_pos hc, List.length_cons]
      simp only [List.mem_cons, forall_eq_or_imp, hc, true_and]
      rw [← ih]
      omega
    · rw [runLen, if_neg hc, List.length_cons]
      simp only [List.mem_cons, forall_eq_or_imp]
      constructor
      · intro h; omega
      · intro h; exact absurd h.1 hc
theorem head_at (p : UInt8 → Bool) : ∀ (l : List UInt8) (hp : 0 < l.length), headB p l = p (l[0]'hp)
  | [], hp => absurd hp (by simp)
  | a :: r, hp => rfl
theorem name_eq (s : ByteArray) : Go.Proofs.YtikjphfeeljhbaaGreatDoor.nameB s = nameU s.data.toList := by
  by_cases h0 : s.size = 0
  · have e : s.data.toList = [] := nil_iff.2 h0
    unfold Go.Proofs.YtikjphfeeljhbaaGreatDoor.nameB
    rw [e, h0]
    rfl
  · have hne : s.data.toList ≠ [] := fun e => h0 (nil_iff.1 e)
    have hl := len_toList s
    have h1 : Go.Proofs.YtikjphfeeljhbaaGreatDoor.lettersB s s.size = decide (runLen s.data.toList = s.data.toList.length) := by
      rw [Bool.eq_iff_iff, decide_eq_true_iff, letters_iff s s.size (Nat.le_refl _), run_iff]
      rw [List.take_of_length_le (by omega)]
    have h2 : Go.Proofs.YtikjphfeeljhbaaGreatDoor.smallB (Go.Proofs.YtikjphfeeljhbaaGreatDoor.byteAt s 0) = headB smallU s.data.toList := by
      rw [Go.Proofs.YtikjphfeeljhbaaGreatDoor.byteAt_eq (by omega : 0 < s.size)]
      have hp : 0 < s.data.toList.length := by omega
      have e : s[0]'(by omega) = s.data.toList[0]'hp := rfl
      have e2 := head_at smallU s.data.toList hp
      rw [e, e2]
      unfold Go.Proofs.YtikjphfeeljhbaaGreatDoor.smallB smallU
      rw [decide_eq_decide]
      omega
    have h3 : Go.Proofs.YtikjphfeeljhbaaGreatDoor.kwB s = kwU s.data.toList := by
      unfold Go.Proofs.YtikjphfeeljhbaaGreatDoor.kwB kwU
      rw [ByteArray.toList_eq]
      rfl
    unfold Go.Proofs.YtikjphfeeljhbaaGreatDoor.nameB nameU wordU
    rw [h1, h2, h3, hl]
    simp only [decide_eq_true hne, decide_eq_true h0, Bool.true_and]
    cases decide (s.size ≤ 120) <;> cases headB smallU s.data.toList <;> cases kwU s.data.toList <;> cases decide (runLen s.data.toList = s.size) <;> rfl
theorem lexName_any (s : ByteArray) (w : World) (hg : Gl w) (hs : s.size ≤ maxLen) : Calls Tryz.prog 39 #[.string s] w fun e w' => e = .returned (.bool (Go.Proofs.YtikjphfeeljhbaaGreatDoor.nameB s)) ∧ Below w.heap.size w w' := by
  rw [name_eq]
  exact Name_any s w hg hs
end Go.Proofs.YtikjphfeeljhbaaGreatDoor.LX
