import Derived.Lib.LaidTab
import Derived.Lib.ItoaNum
import Derived.Test.YthkbcgedjecnlaaDoorLexWord
import Derived.Deep.MidRow
namespace Go.Proofs.YthkbcgedjecnlaaDoor
open Go.RowKit
set_option linter.unusedVariables false
set_option linter.unusedSimpArgs false
attribute [local go_sem ↓] Go.wp_at_zero Go.wp_at_succ

def kwAt (k : Nat) : List UInt8 := kws.getD k []
def sgAt (k : Nat) : List UInt8 := sgs.getD k []
def strV (l : List UInt8) : Value := .string ⟨l.toArray⟩
def kwRow : List Value := kws.map strV
def sgRow : List Value := sgs.map strV
theorem kwRow_at {k : Nat} (h : k < 8) : kwRow.toArray[k]? = some (.string ⟨(kwAt k).toArray⟩) := by
  have e : ∀ k : Fin 8, kws[k.val]? = some (kwAt k.val) := by decide
  have := e ⟨k, h⟩
  simp at this
  simp [kwRow, this, strV]
theorem sgRow_at {k : Nat} (h : k < 18) : sgRow.toArray[k]? = some (.string ⟨(sgAt k).toArray⟩) := by
  have e : ∀ k : Fin 18, sgs[k.val]? = some (sgAt k.val) := by decide
  have := e ⟨k, h⟩
  simp at this
  simp [sgRow, this, strV]

/-- what the package-level variables hold that the calls look into -/
structure Gl (w : World) : Prop where
  kw : w.rangeAt 0 0 kwRow
  sg : w.rangeAt 1 0 sgRow
  es : ∃ te pe, w.cell? ⟨2, 0, none⟩ = some (.iface te pe)
  er : ∃ te pe, w.cell? ⟨3, 0, none⟩ = some (.iface te pe)
  pw : Lib.TabIs Tryd.prog w "internal/strconv.uint64pow10" .u64 Lib.pow10Tab
theorem tab_kept {W W' : World} {name : String} {k : IntKind} {zs : List Int} (h : Lib.TabIs Tryd.prog W name k zs) (hb : Below W.heap.size W W') : Lib.TabIs Tryd.prog W' name k zs := by
  unfold Lib.TabIs World.var? at h ⊢
  cases hg : Tryd.prog.globalNamed name with
  | none => rw [hg] at h; cases h
  | some g =>
    rw [hg] at h
    simp only [Option.bind_some] at h ⊢
    have hlt : g < W.heap.size := by
      by_cases hl : g < W.heap.size
      · exact hl
      · rw [Array.getElem?_eq_none (by omega)] at h; cases h
    rw [hb.block g hlt]
    exact h
theorem Gl.below {w w' : World} (h : Gl w) (hb : Below w.heap.size w w') : Gl w' := by
  have hc : ∀ {b i : Nat} {u : Value}, w.cell? ⟨b, i, none⟩ = some u → w'.cell? ⟨b, i, none⟩ = some u := fun {b i u} hu => by
    rw [hb.cell (p := ⟨b, i, none⟩) (World.block_lt_of_cell? _ _ hu)]; exact hu
  obtain ⟨a, b, e1⟩ := h.es
  obtain ⟨c, d, e2⟩ := h.er
  exact ⟨fun i v hi => hc (h.kw i v hi), fun i v hi => hc (h.sg i v hi), ⟨a, b, hc e1⟩, ⟨c, d, hc e2⟩, tab_kept h.pw hb⟩
theorem Gl.alloc {w : World} (h : Gl w) (o : Obj) : Gl (w.alloc o) := h.below ((Below.refl _ _).alloc (Nat.le_refl _) _)

theorem load_kw {w : World} (hk : w.rangeAt 0 0 kwRow) :
    (Instr.loadAt 65 (.pointer (some ⟨0, 0, none⟩))).run Tryd.prog w = .ok (.agg kwRow.toArray) w :=
  run_loadAt_mid w _ 0 _ kwRow _ hk Tryd.underlying65 rfl (by kernel_rfl)
theorem load_sg {w : World} (hk : w.rangeAt 1 0 sgRow) :
    (Instr.loadAt 74 (.pointer (some ⟨1, 0, none⟩))).run Tryd.prog w = .ok (.agg sgRow.toArray) w :=
  run_loadAt_mid w _ 0 _ sgRow _ hk Tryd.underlying74 rfl (by kernel_rfl)

/-- a load whose run is known -/
theorem wpList_loadEq {P : Program} (w : World) {ops : Array Oper} {rest : List Oper} {o : Oper} {a : Act} {Q : Exit → Act → World → Prop} (hgd : o.guard = none) (p : Operand) (t : TypeId)
    (ho : o.op = Op.load t p) (v c : Value) (hp : a.eval p = v) (hrun : (Instr.loadAt t v).run P w = .ok c w)
    (hK : wpList P ops Q rest (a.put o.dst c) w) : wpList P ops Q (o :: rest) a w := by
  refine wpList_plain hgd fun K' hK' => ?_
  unfold Oper.wp
  simp [execOp, ho, hp, hrun, Result.andThen]
  exact hK' _ _ hK

theorem run_index_row {P : Program} (w : World) (t e : TypeId) (n : Nat) (cs : Array Value) (k : Nat) (v : Value) (h : P.underlying t = some (.array n e)) (h1 : (sizeOf e).run P w = .ok 1 w) (h2 : ∀ w, (isAgg e).run P w = .ok false w) (hk : k < n) (hv : cs[k]? = some v) :
    (Instr.index t (.agg cs) (.int .i64 k)).run P w = .ok v w := by
  have hn : (0 : Int) ≤ k ∧ (k : Int) < n := by omega
  simp [Instr.index, run_underlying h, asIntOf, hn, go_sem, hv, h2, h1, hk]
theorem bytes_ext {s : ByteArray} {l : List UInt8} : s.data.toList = l ↔ s = ⟨l.toArray⟩ := by
  cases s with | mk d => 
  constructor
  · intro h; subst h; simp
  · intro h; simp at h; subst h; simp

theorem kwU_none {l : List UInt8} (h : ∀ j, j < 8 → l ≠ kwAt j) : kwU l = false := by
  unfold kwU
  rw [decide_eq_false_iff_not]
  intro hm
  obtain ⟨j, hj, e⟩ := List.mem_iff_getElem.mp hm
  refine h j (by simpa [kws] using hj) ?_
  unfold kwAt
  rw [List.getD_eq_getElem?_getD, List.getElem?_eq_getElem hj, ← e]; rfl
theorem kwU_some {l : List UInt8} {j : Nat} (hj : j < 8) (h : l = kwAt j) : kwU l = true := by
  unfold kwU
  rw [decide_eq_true_iff]
  subst h
  match j, hj with
  | 0, _ => decide | 1, _ => decide | 2, _ => decide | 3, _ => decide | 4, _ => decide | 5, _ => decide | 6, _ => decide | 7, _ => decide

set_option maxHeartbeats 1600000 in
set_option maxRecDepth 100000 in
theorem Keyword_any (s : ByteArray) (w : World) (hg : Gl w) : Calls Tryd.prog 13 #[.string s] w fun e w' => e = .returned (.bool (kwU s.data.toList)) ∧ w' = w := by
  have HL := load_kw hg.kw
  clear hg
  go_enter Tryd.func13, Tryd.ntmps13
  go_wp2_with (first
    | (refine wpList_loadEq _ rfl (.global 0) 65 rfl _ _ rfl HL ?_)
    | fail)
  clear HL
  go_loop [6] (fun i => ∃ k : Nat, k ≤ 8 ∧ i = .int .i64 k ∧ Hid (∀ j, j < k → s.data.toList ≠ kwAt j)) (fun i => 8 - (intOf i).toNat)
  case atStart => exact ⟨0, Nat.zero_le _, rfl, fun j hj => by omega⟩
  case round =>
    obtain ⟨k, hk, rfl, HN⟩ := hrel
    by_cases hlt : k < 8
    · have hlt' : (k : Int) < 8 := by omega
      have hix := run_index_row w 65 9 8 kwRow.toArray k _ Tryd.underlying65 (Tryd.sizeOf9 w) Tryd.isAgg9 hlt (kwRow_at hlt)
      by_cases he : s.data.toList = kwAt k
      · have HY : Hid (kwU s.data.toList = true) := kwU_some hlt he
        have he' := bytes_ext.mp he
        clear HN he
        generalize kwRow.toArray = R at *
        generalize hx : (⟨(kwAt k).toArray⟩ : ByteArray) = x at *
        clear hx
        subst he'
        go_wp2
        go_ret
        exact ⟨ret_bool HY.out.symm, rfl⟩
      · have HS : Hid (∀ j, j < k + 1 → s.data.toList ≠ kwAt j) := fun j hj => by
          by_cases e : j = k
          · subst e; exact he
          · exact HN.out j (by omega)
        have he' : (s.toList == (⟨(kwAt k).toArray⟩ : ByteArray).toList) = false := by
          rw [beq_eq_false_iff_ne, ByteArray.toList_eq, ByteArray.toList_eq]
          simpa using he
        clear HN he
        generalize kwRow.toArray = R at *
        generalize (⟨(kwAt k).toArray⟩ : ByteArray) = x at *
        go_wp2
        go_round
        case rel => exact ⟨k + 1, by omega, by go_num, HS⟩
        case measure => simp [intOf]; omega
    · have HF : Hid (kwU s.data.toList = false) := kwU_none fun j hj => HN.out j (by omega)
      have hlt' : ¬ (k : Int) < 8 := by omega
      clear HN
      go_wp2
      go_ret
      exact ⟨ret_bool HF.out.symm, rfl⟩

theorem empty_iff (s : ByteArray) : s.toList.isEmpty = decide (s.size = 0) := by
  rw [ByteArray.toList_eq, ← ByteArray.size_data, ← Array.length_toList]
  cases s.data.toList <;> simp
theorem wordU_eq (s : ByteArray) : wordU s.data.toList = (decide (s.size ≠ 0) && decide (s.size ≤ 120) && decide (runLen s.data.toList = s.size)) := by
  unfold wordU
  rw [len_toList]
  congr 2
  have := len_toList s
  congr 1
  apply propext
  constructor
  · intro h e; apply h; exact List.length_eq_zero_iff.mp (by omega)
  · intro h e; apply h; rw [← this, e]; rfl

set_option maxHeartbeats 1600000 in
theorem isWord_any (s : ByteArray) (w : World) (hs : s.size ≤ maxLen) : Calls Tryd.prog 49 #[.string s] w fun e w' => e = .returned (.bool (wordU s.data.toList)) ∧ Below w.heap.size w w' := by
  have HM : Hid (s.size ≤ maxLen) := hs
  unfold maxLen at hs
  rw [wordU_eq]
  by_cases h0 : s.size = 0
  · have he : s.toList.isEmpty = true := by rw [empty_iff]; simpa using h0
    have HF : Hid ((decide (s.size ≠ 0) && decide (s.size ≤ 120) && decide (runLen s.data.toList = s.size)) = false) := by show _ = _; simp [h0]
    go_enter Tryd.func49, Tryd.ntmps49
    go_wp2
    go_ret
    exact ⟨ret_bool (by first | rfl | exact HF.out.symm), Below.refl _ _⟩
  · have he : s.toList.isEmpty = false := by rw [empty_iff]; simpa using h0
    by_cases h1 : s.size ≤ 120
    · have h1' : (s.size : Int) ≤ 120 := by omega
      have HF : Hid ((decide (s.size ≠ 0) && decide (s.size ≤ 120) && decide (runLen s.data.toList = s.size)) = decide (runLen s.data.toList = s.size)) := by show _ = _; simp [h0, h1]
      rw [HF.out]
      clear HF
      generalize hr : runLen s.data.toList = r
      have hx : ((r : Int) == (s.size : Int)) = decide (r = s.size) := by
        by_cases e : r = s.size
        · simp [e]
        · have : ¬ (r : Int) = (s.size : Int) := by omega
          simp [e, this]
      by_cases e : r = s.size
      · have e' : (r : Int) = (s.size : Int) := by omega
        go_enter Tryd.func49, Tryd.ntmps49
        go_wp2_with (go_at_call 39; refine (runLength_any _ _ HM.out).mono ?_; rw [hr]; rintro e w1 ⟨rfl, hb1⟩)
        go_ret
        exact ⟨ret_bool (by simp [e]), hb1⟩
      · have e' : ¬ (r : Int) = (s.size : Int) := by omega
        go_enter Tryd.func49, Tryd.ntmps49
        go_wp2_with (go_at_call 39; refine (runLength_any _ _ HM.out).mono ?_; rw [hr]; rintro e w1 ⟨rfl, hb1⟩)
        go_ret
        exact ⟨ret_bool (by simp [e]), hb1⟩
    · have h1' : ¬ (s.size : Int) ≤ 120 := by omega
      have HF : Hid ((decide (s.size ≠ 0) && decide (s.size ≤ 120) && decide (runLen s.data.toList = s.size)) = false) := by show _ = _; simp [h1]
      go_enter Tryd.func49, Tryd.ntmps49
      go_wp2
      go_ret
      exact ⟨ret_bool (by first | rfl | exact HF.out.symm), Below.refl _ _⟩

theorem list_at (s : ByteArray) (h : 0 < s.size) : s.data.toList = s[0] :: s.data.toList.drop 1 := by
  have := drop_at s h
  simpa using this
theorem headB_at (p : UInt8 → Bool) (s : ByteArray) (h : 0 < s.size) : headB p s.data.toList = p s[0] := by
  rw [list_at s h]; rfl
theorem wordU_pos {s : ByteArray} (h : wordU s.data.toList = true) : 0 < s.size := by
  rw [wordU_eq] at h
  simp only [Bool.and_eq_true, decide_eq_true_eq] at h
  omega
theorem wrap_u8 (c : UInt8) : wrap32 (c.toNat : Int) = (c.toNat : Int) := by
  have := c.toNat_lt
  unfold wrap32
  omega

set_option maxHeartbeats 1600000 in
theorem Name_any (s : ByteArray) (w : World) (hg : Gl w) (hs : s.size ≤ maxLen) : Calls Tryd.prog 40 #[.string s] w fun e w' => e = .returned (.bool (nameU s.data.toList)) ∧ Below w.heap.size w w' := by
  unfold nameU
  cases hw : wordU s.data.toList
  · go_enter Tryd.func40, Tryd.ntmps40
    go_wp2_with (go_at_call 49; refine (isWord_any _ _ hs).mono ?_; rw [hw]; rintro e w1 ⟨rfl, hb1⟩)
    go_ret
    exact ⟨ret_bool (by first | rfl | simp), hb1⟩
  · have hp := wordU_pos hw
    have hp' : (0 : Int) < (s.size : Int) := by omega
    have hwr := wrap_u8 (s[0]'hp)
    rw [headB_at _ s hp, ← smallI_u]
    cases hk : kwU s.data.toList <;> cases hm : smallI ((s[0]'hp).toNat : Int)
    all_goals
      go_enter Tryd.func40, Tryd.ntmps40
      go_wp2_with (first
        | (go_at_call 49; refine (isWord_any _ _ hs).mono ?_; rw [hw]; rintro e w1 ⟨rfl, hb1⟩; have hg1 := hg.below hb1; clear hg)
        | (go_at_call 37; refine (isSmall_any _ _).mono ?_; rintro e w2 ⟨rfl, rfl⟩)
        | (go_at_call 13; refine (Keyword_any _ _ hg1).mono ?_; rintro e w2 ⟨rfl, rfl⟩))
      go_ret
      exact ⟨ret_bool (by first | rfl | simp), hb1⟩

set_option maxHeartbeats 1600000 in
theorem Variable_any (s : ByteArray) (w : World) (hs : s.size ≤ maxLen) : Calls Tryd.prog 54 #[.string s] w fun e w' => e = .returned (.bool (varU s.data.toList)) ∧ Below w.heap.size w w' := by
  unfold varU
  cases hw : wordU s.data.toList
  · go_enter Tryd.func54, Tryd.ntmps54
    go_wp2_with (go_at_call 49; refine (isWord_any _ _ hs).mono ?_; rw [hw]; rintro e w1 ⟨rfl, hb1⟩)
    go_ret
    exact ⟨ret_bool (by first | rfl | simp), hb1⟩
  · have hp := wordU_pos hw
    have hp' : (0 : Int) < (s.size : Int) := by omega
    have hwr := wrap_u8 (s[0]'hp)
    rw [headB_at _ s hp, ← capI_u]
    cases hm : capI ((s[0]'hp).toNat : Int)
    all_goals
      go_enter Tryd.func54, Tryd.ntmps54
      go_wp2_with (first
        | (go_at_call 49; refine (isWord_any _ _ hs).mono ?_; rw [hw]; rintro e w1 ⟨rfl, hb1⟩)
        | (go_at_call 38; refine (isCapital_any _ _).mono ?_; rintro e w2 ⟨rfl, rfl⟩))
      go_ret
      exact ⟨ret_bool (by first | rfl | simp), hb1⟩
end Go.Proofs.YthkbcgedjecnlaaDoor
