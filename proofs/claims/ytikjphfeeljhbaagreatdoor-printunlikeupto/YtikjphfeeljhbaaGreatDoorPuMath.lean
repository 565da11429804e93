import Derived.Test.YtikjphfeeljhbaaGreatDoorPrB
import Derived.Test.YtikjphfeeljhbaaGreatDoorFbLines
namespace Go.Proofs.YtikjphfeeljhbaaGreatDoor
set_option linter.unusedVariables false
set_option linter.unusedSimpArgs false
namespace PU
theorem lettersB_at {s : ByteArray} : ∀ {n : Nat}, lettersB s n = true → ∀ {k : Nat}, k < n → letterB (byteAt s k) = true
  | 0, _, k, hk => absurd hk (by omega)
  | n + 1, h, k, hk => by
    simp only [lettersB, Bool.and_eq_true] at h
    by_cases e : k = n
    · rw [e]; exact h.2
    · exact lettersB_at h.1 (by omega)
/-- a byte of a word -/
def isL (c : UInt8) : Bool := letterB (c.toNat : Int)
/-- what follows is no more of a word -/
def stL (r : List UInt8) : Prop := ∀ c x, r = c :: x → isL c = false
theorem stL_nil : stL [] := fun c x h => by cases h
theorem stL_cons {c : UInt8} {x : List UInt8} (h : isL c = false) : stL (c :: x) := fun d y e => by
  injection e with e1 e2
  rw [← e1]; exact h
theorem word_inj : ∀ {a b r s : List UInt8}, a.all isL = true → b.all isL = true → stL r → stL s → a ++ r = b ++ s → a = b ∧ r = s
  | [], [], r, s, _, _, _, _, h => ⟨rfl, h⟩
  | [], c :: b, r, s, _, hb, hr, _, h => by
    have := hr c (b ++ s) h
    simp only [List.all_cons, Bool.and_eq_true] at hb
    rw [hb.1] at this; cases this
  | c :: a, [], r, s, ha, _, _, hs, h => by
    have := hs c (a ++ r) h.symm
    simp only [List.all_cons, Bool.and_eq_true] at ha
    rw [ha.1] at this; cases this
  | c :: a, d :: b, r, s, ha, hb, hr, hs, h => by
    simp only [List.all_cons, Bool.and_eq_true] at ha hb
    simp only [List.cons_append, List.cons.injEq] at h
    obtain ⟨h1, h2⟩ := word_inj ha.2 hb.2 hr hs h.2
    exact ⟨by rw [h.1, h1], h2⟩
theorem bytes_inj {a b : ByteArray} (h : a.data.toList = b.data.toList) : a = b := by
  cases a; cases b; simp only at h; congr 1; exact Array.toList_inj.1 h
theorem letters_all {s : ByteArray} (h : lettersB s s.size = true) : s.data.toList.all isL = true := by
  rw [List.all_eq_true]
  intro c hc
  obtain ⟨i, hi, rfl⟩ := List.getElem_of_mem hc
  have hi2 : i < s.size := by rw [← len_toList]; exact hi
  have h1 := lettersB_at h hi2
  rw [byteAt_eq hi2] at h1
  have e : s.data.toList[i] = s[i] := by simp [ByteArray.getElem_eq_getElem_data]
  unfold isL
  rw [e]; exact h1
theorem head_byte {s : ByteArray} (h : s.size ≠ 0) : ∃ c l, s.data.toList = c :: l ∧ byteAt s 0 = (c.toNat : Int) := by
  have h0 : 0 < s.size := by omega
  cases e : s.data.toList with
  | nil => rw [← len_toList, e] at h0; cases h0
  | cons c l =>
    refine ⟨c, l, rfl, ?_⟩
    rw [byteAt_eq h0]
    have : s[0] = s.data.toList[0]'(by rw [len_toList]; exact h0) := by simp [ByteArray.getElem_eq_getElem_data]
    rw [this]
    simp [e]
/-- a name: a word that opens with a small letter, no keyword -/
theorem name_form {s : ByteArray} (h : nameB s = true) : s.data.toList.all isL = true ∧ s.data.toList ∉ keywords ∧ ∃ c l, s.data.toList = c :: l ∧ 97 ≤ c.toNat ∧ c.toNat ≤ 122 := by
  unfold nameB at h
  simp only [Bool.and_eq_true, decide_eq_true_eq, Bool.not_eq_true'] at h
  obtain ⟨⟨⟨⟨h1, h2⟩, h3⟩, h4⟩, h5⟩ := h
  refine ⟨letters_all h5, ?_, ?_⟩
  · unfold kwB at h4
    rw [ByteArray.toList_eq] at h4
    exact of_decide_eq_false h4
  · obtain ⟨c, l, e, hb⟩ := head_byte h1
    refine ⟨c, l, e, ?_⟩
    unfold smallB at h3
    rw [hb] at h3
    have := of_decide_eq_true h3
    omega
theorem var_form {s : ByteArray} (h : varB s = true) : s.data.toList.all isL = true ∧ ∃ c l, s.data.toList = c :: l ∧ 65 ≤ c.toNat ∧ c.toNat ≤ 90 := by
  unfold varB wordB at h
  simp only [Bool.and_eq_true, decide_eq_true_eq] at h
  obtain ⟨⟨⟨h1, h2⟩, h3⟩, h5⟩ := h
  refine ⟨letters_all h5, ?_⟩
  obtain ⟨c, l, e, hb⟩ := head_byte h1
  refine ⟨c, l, e, ?_⟩
  rw [hb] at h3
  omega
/-- digits -/
def digV (a : Nat) (c : UInt8) : Nat := a * 10 + (c.toNat - 48)
theorem digU_nat (n : Nat) (h : n < 10) : (UInt8.ofNat (48 + n)).toNat = 48 + n := by
  rw [UInt8.toNat_ofNat']; omega
theorem dec_val (u : Nat) : (Lib.decDigits u).foldl digV 0 = u := by
  induction u using Nat.strongRecOn with
  | _ u ih =>
    rw [Lib.decDigits]
    split
    · rename_i h
      simp only [List.foldl_cons, List.foldl_nil, digV, digU_nat u h]
      omega
    · rename_i h
      rw [List.foldl_append, ih _ (by omega)]
      simp only [List.foldl_cons, List.foldl_nil, digV, digU_nat (u % 10) (by omega)]
      omega
theorem dec_inj {a b : Nat} (h : Lib.decDigits a = Lib.decDigits b) : a = b := by rw [← dec_val a, ← dec_val b, h]
theorem isL_digit {n : Nat} (h : n < 10) : isL (UInt8.ofNat (48 + n)) = true := by
  unfold isL letterB digitB
  rw [digU_nat n h]
  simp only [Bool.or_eq_true, decide_eq_true_eq]
  exact .inl (.inr (by omega))
theorem dec_all (u : Nat) : (Lib.decDigits u).all isL = true := by
  induction u using Nat.strongRecOn with
  | _ u ih =>
    rw [Lib.decDigits]
    split
    · rename_i h
      simp only [List.all_cons, List.all_nil, Bool.and_true]
      exact isL_digit h
    · rename_i h
      rw [List.all_append, ih _ (by omega)]
      simp only [List.all_cons, List.all_nil, Bool.and_true, Bool.true_and]
      exact isL_digit (by omega)
theorem dec_head (u : Nat) : ∃ c l, Lib.decDigits u = c :: l ∧ 48 ≤ c.toNat ∧ c.toNat ≤ 57 := by
  induction u using Nat.strongRecOn with
  | _ u ih =>
    rw [Lib.decDigits]
    split
    · rename_i h
      exact ⟨_, _, rfl, by rw [digU_nat u h]; omega⟩
    · rename_i h
      obtain ⟨c, l, e, hc⟩ := ih (u / 10) (by omega)
      rw [e]
      exact ⟨c, _, rfl, hc⟩
/-- quoted texts -/
theorem hexU_inj : ∀ a b : Fin 16, hexU a.val = hexU b.val → a = b := by decide
theorem piece_cons (c : UInt8) : ∃ x l, pieceQ c = x :: l ∧ x ≠ 34 := by
  unfold pieceQ
  split
  · exact ⟨_, _, rfl, by decide⟩
  · split
    · exact ⟨_, _, rfl, by decide⟩
    · rename_i h1 h2
      split
      · exact ⟨_, _, rfl, fun e => h2 (.inl (by rw [e]; rfl))⟩
      · exact ⟨_, _, rfl, by decide⟩
theorem piece_cases (c : UInt8) : (c.toNat = 10 ∧ pieceQ c = [92, 110]) ∨ ((c.toNat = 34 ∨ c.toNat = 92) ∧ pieceQ c = [92, c]) ∨ ((c.toNat ≠ 10 ∧ c.toNat ≠ 92) ∧ pieceQ c = [c]) ∨ (c.toNat ≠ 10 ∧ pieceQ c = [92, 120, hexU (c.toNat / 16), hexU (c.toNat % 16)]) := by
  unfold pieceQ
  split
  · rename_i h; exact .inl ⟨h, rfl⟩
  · rename_i h
    split
    · rename_i h2; exact .inr (.inl ⟨h2, rfl⟩)
    · rename_i h2
      split
      · exact .inr (.inr (.inl ⟨⟨h, by omega⟩, rfl⟩))
      · exact .inr (.inr (.inr ⟨h, rfl⟩))
theorem piece_inj {c d : UInt8} {x y : List UInt8} (h : pieceQ c ++ x = pieceQ d ++ y) : c = d ∧ x = y := by
  have toN : ∀ {a b : UInt8}, a.toNat = b.toNat → a = b := fun h => UInt8.toNat_inj.1 h
  have hc := c.toNat_lt
  have hd := d.toNat_lt
  have eqN : ∀ {a b : UInt8}, a = b → a.toNat = b.toNat := fun h => by rw [h]
  have n92 : (92 : UInt8).toNat = 92 := rfl
  have n110 : (110 : UInt8).toNat = 110 := rfl
  have n120 : (120 : UInt8).toNat = 120 := rfl
  rcases piece_cases c with ⟨c1, e1⟩ | ⟨c1, e1⟩ | ⟨c1, e1⟩ | ⟨c1, e1⟩ <;> rcases piece_cases d with ⟨d1, e2⟩ | ⟨d1, e2⟩ | ⟨d1, e2⟩ | ⟨d1, e2⟩ <;> rw [e1, e2] at h
  · injection h with h1 h2; injection h2 with h3 h4; exact ⟨toN (by omega), h4⟩
  · injection h with h1 h2; injection h2 with h3 h4; have := eqN h3; omega
  · injection h with h1 h2; have := eqN h1; omega
  · injection h with h1 h2; injection h2 with h3 h4; have := eqN h3; omega
  · injection h with h1 h2; injection h2 with h3 h4; have := eqN h3; omega
  · injection h with h1 h2; injection h2 with h3 h4; exact ⟨h3, h4⟩
  · injection h with h1 h2; have := eqN h1; omega
  · injection h with h1 h2; injection h2 with h3 h4; have := eqN h3; omega
  · injection h with h1 h2; have := eqN h1; omega
  · injection h with h1 h2; have := eqN h1; omega
  · injection h with h1 h2; exact ⟨h1, h2⟩
  · injection h with h1 h2; have := eqN h1; omega
  · injection h with h1 h2; injection h2 with h3 h4; have := eqN h3; omega
  · injection h with h1 h2; injection h2 with h3 h4; have := eqN h3; omega
  · injection h with h1 h2; have := eqN h1; omega
  · injection h with h1 h2; injection h2 with h3 h4; injection h4 with h5 h6; injection h6 with h7 h8
    have q := hexU_inj ⟨c.toNat / 16, by omega⟩ ⟨d.toNat / 16, by omega⟩ h5
    have m := hexU_inj ⟨c.toNat % 16, by omega⟩ ⟨d.toNat % 16, by omega⟩ h7
    have q' := congrArg Fin.val q
    have m' := congrArg Fin.val m
    simp only at q' m'
    exact ⟨toN (by omega), h8⟩
theorem pieces_inj : ∀ {a b x y : List UInt8}, a.flatMap pieceQ ++ 34 :: x = b.flatMap pieceQ ++ 34 :: y → a = b ∧ x = y
  | [], [], x, y, h => ⟨rfl, by simpa using h⟩
  | [], d :: b, x, y, h => by
    obtain ⟨z, l, e, hz⟩ := piece_cons d
    simp only [List.flatMap_nil, List.nil_append, List.flatMap_cons, e, List.cons_append, List.cons.injEq] at h
    exact absurd h.1.symm hz
  | c :: a, [], x, y, h => by
    obtain ⟨z, l, e, hz⟩ := piece_cons c
    simp only [List.flatMap_nil, List.nil_append, List.flatMap_cons, e, List.cons_append, List.cons.injEq] at h
    exact absurd h.1 hz
  | c :: a, d :: b, x, y, h => by
    simp only [List.flatMap_cons, List.append_assoc] at h
    obtain ⟨h1, h2⟩ := piece_inj h
    obtain ⟨h3, h4⟩ := pieces_inj h2
    exact ⟨by rw [h1, h3], h4⟩
/-- terms as they may be, by the class of their first byte -/
def cls (c : UInt8) : Nat := if 65 ≤ c.toNat ∧ c.toNat ≤ 90 then 1 else if c.toNat = 95 then 2 else if 48 ≤ c.toNat ∧ c.toNat ≤ 57 then 3 else if c.toNat = 45 then 4 else if 97 ≤ c.toNat ∧ c.toNat ≤ 122 then 5 else if c.toNat = 34 then 6 else 0
inductive TF : Nat → T → Prop
  | var (v : ByteArray) : varB v = true → TF 1 ⟨v, V0⟩
  | blank : TF 2 ⟨blankS, V0⟩
  | num (n : Int) : 0 ≤ n → TF 3 ⟨noS, ⟨1, n, noS⟩⟩
  | neg (n : Int) : n < 0 → TF 4 ⟨noS, ⟨1, n, noS⟩⟩
  | name (s : ByteArray) : nameB s = true → TF 5 ⟨noS, ⟨2, 0, s⟩⟩
  | quo (s : ByteArray) : nameB s = false → TF 6 ⟨noS, ⟨2, 0, s⟩⟩
theorem noS_of {s : ByteArray} (h : s.toList = []) : s = noS := bytes_inj (by rw [ByteArray.toList_eq] at h; rw [h]; rfl)
theorem TF_of {t : T} (h : termB t = true) : ∃ k, TF k t := by
  obtain ⟨v, k, n, s⟩ := t
  unfold termB at h
  simp only at h
  split at h
  · rename_i hv
    subst hv
    unfold okV chkV chk at h
    simp only at h
    by_cases c : k = 1 ∧ s.toList = [] ∨ k = 2 ∧ n = 0 ∧ (s.size : Int) ≤ 200
    · rcases c with ⟨rfl, hs⟩ | ⟨rfl, rfl, _⟩
      · rw [noS_of hs]
        by_cases hn : 0 ≤ n
        · exact ⟨3, .num n hn⟩
        · exact ⟨4, .neg n (by omega)⟩
      · cases e : nameB s
        · exact ⟨6, .quo s e⟩
        · exact ⟨5, .name s e⟩
    · rw [if_neg c] at h; cases h
  · simp only [Bool.and_eq_true, Bool.or_eq_true, decide_eq_true_eq] at h
    obtain ⟨h1, h2⟩ := h
    rw [h1]
    rcases h2 with rfl | h2
    · exact ⟨2, .blank⟩
    · exact ⟨1, .var v h2⟩
theorem termT_no (a : V) : termT ⟨noS, a⟩ = showB a := by unfold termT; rw [if_pos rfl]
theorem noS_size : noS.size = 0 := rfl
theorem var_ne {v : ByteArray} (h : varB v = true) : v ≠ noS := fun e => by
  obtain ⟨_, c, l, e2, _⟩ := var_form h
  rw [e] at e2; cases e2
theorem termT_var {v : ByteArray} (h : varB v = true) : termT ⟨v, V0⟩ = v.data.toList := by unfold termT; rw [if_neg (var_ne h)]
theorem termT_blank : termT ⟨blankS, V0⟩ = [95] := by unfold termT; rw [if_neg (by decide)]; rfl
theorem termT_num {n : Int} (h : 0 ≤ n) : termT ⟨noS, ⟨1, n, noS⟩⟩ = Lib.decDigits n.toNat := by rw [termT_no]; unfold showB Lib.itoa; rw [if_pos rfl, if_neg (by simp only; omega)]
theorem termT_neg {n : Int} (h : n < 0) : termT ⟨noS, ⟨1, n, noS⟩⟩ = 45 :: Lib.decDigits n.natAbs := by rw [termT_no]; unfold showB Lib.itoa; rw [if_pos rfl, if_pos (by simp only; omega)]
theorem termT_name {s : ByteArray} (h : nameB s = true) : termT ⟨noS, ⟨2, 0, s⟩⟩ = s.data.toList := by rw [termT_no]; unfold showB; rw [if_neg (by simp), if_pos h]
theorem termT_quo {s : ByteArray} (h : nameB s = false) : termT ⟨noS, ⟨2, 0, s⟩⟩ = 34 :: (s.data.toList.flatMap pieceQ ++ [34]) := by
  rw [termT_no]; unfold showB; rw [if_neg (by simp), if_neg (by simp [h])]; unfold quoteQ; simp
theorem TF.head {k : Nat} {t : T} (h : TF k t) : ∃ c l, termT t = c :: l ∧ cls c = k := by
  cases h with
  | var v hv =>
    obtain ⟨_, c, l, e, h1⟩ := var_form hv
    rw [termT_var hv]
    exact ⟨c, l, e, by unfold cls; rw [if_pos h1]⟩
  | blank => rw [termT_blank]; exact ⟨_, _, rfl, rfl⟩
  | num n hn =>
    obtain ⟨c, l, e, h1⟩ := dec_head n.toNat
    rw [termT_num hn]
    exact ⟨c, l, e, by unfold cls; rw [if_neg (by omega), if_neg (by omega), if_pos h1]⟩
  | neg n hn => rw [termT_neg hn]; exact ⟨_, _, rfl, rfl⟩
  | name s hs =>
    obtain ⟨_, _, c, l, e, h1⟩ := name_form hs
    rw [termT_name hs]
    exact ⟨c, l, e, by unfold cls; rw [if_neg (by omega), if_neg (by omega), if_neg (by omega), if_neg (by omega), if_pos h1]⟩
  | quo s hs => rw [termT_quo hs]; exact ⟨_, _, rfl, rfl⟩
theorem term_inj {t u : T} (ht : termB t = true) (hu : termB u = true) {r s : List UInt8} (hr : stL r) (hs : stL s) (h : termT t ++ r = termT u ++ s) : t = u ∧ r = s := by
  obtain ⟨k, ht⟩ := TF_of ht
  obtain ⟨j, hu⟩ := TF_of hu
  obtain ⟨c, l, e1, q1⟩ := ht.head
  obtain ⟨d, m, e2, q2⟩ := hu.head
  have hkj : k = j := by
    rw [e1, e2] at h
    injection h with h1 h2
    rw [← q1, ← q2, h1]
  subst hkj
  clear e1 q1 e2 q2
  cases ht with
  | var v hv => cases hu with
    | var v' hv' =>
      rw [termT_var hv, termT_var hv'] at h
      obtain ⟨h1, h2⟩ := word_inj (var_form hv).1 (var_form hv').1 hr hs h
      exact ⟨by rw [bytes_inj h1], h2⟩
  | blank => cases hu with
    | blank => rw [termT_blank] at h; injection h with h1 h2; exact ⟨rfl, h2⟩
  | num n hn => cases hu with
    | num m hm =>
      rw [termT_num hn, termT_num hm] at h
      obtain ⟨h1, h2⟩ := word_inj (dec_all _) (dec_all _) hr hs h
      have := dec_inj h1
      exact ⟨by rw [show n = m by omega], h2⟩
  | neg n hn => cases hu with
    | neg m hm =>
      rw [termT_neg hn, termT_neg hm] at h
      injection h with h0 h
      obtain ⟨h1, h2⟩ := word_inj (dec_all _) (dec_all _) hr hs h
      have := dec_inj h1
      exact ⟨by rw [show n = m by omega], h2⟩
  | name v hv => cases hu with
    | name v' hv' =>
      rw [termT_name hv, termT_name hv'] at h
      obtain ⟨h1, h2⟩ := word_inj (name_form hv).1 (name_form hv').1 hr hs h
      exact ⟨by rw [bytes_inj h1], h2⟩
  | quo v hv => cases hu with
    | quo v' hv' =>
      rw [termT_quo hv, termT_quo hv'] at h
      injection h with h0 h
      have h : v.data.toList.flatMap pieceQ ++ 34 :: r = v'.data.toList.flatMap pieceQ ++ 34 :: s := by simpa using h
      obtain ⟨h1, h2⟩ := pieces_inj h
      exact ⟨by rw [bytes_inj h1], h2⟩
/-- a keyword is no term's text -/
theorem term_kw {t : T} (ht : termB t = true) {w r s : List UInt8} (hw : w ∈ keywords) (hwl : w.all isL = true) (hr : stL r) (hs : stL s) : termT t ++ r ≠ w ++ s := by
  intro h
  have hw5 : ∃ c l, w = c :: l ∧ cls c = 5 := by
    simp only [keywords, List.mem_cons, List.not_mem_nil, or_false] at hw
    rcases hw with rfl | rfl | rfl | rfl | rfl | rfl | rfl | rfl <;> exact ⟨_, _, rfl, rfl⟩
  obtain ⟨d, m, e2, q2⟩ := hw5
  obtain ⟨k, ht⟩ := TF_of ht
  obtain ⟨c, l, e1, q1⟩ := ht.head
  have hkj : k = 5 := by
    rw [e1, e2] at h
    injection h with h1 h2
    rw [← q1, ← q2, h1]
  subst hkj
  cases ht with
  | name v hv =>
    rw [termT_name hv] at h
    obtain ⟨h1, h2⟩ := word_inj (name_form hv).1 hwl hr hs h
    exact (name_form hv).2.1 (h1 ▸ hw)
def hold (e : E) : Int := holdT e.op.toNat
def Kb (b : Bool) (n : Nat) : Nat := if b then n + 1 else n
/-- an expression as it may be, its text, and how many parts and brackets that has -/
inductive X : Nat → E → List UInt8 → Prop
  | leaf (t : T) : namedB t = true → X 1 (.mk 0 t []) (termT t)
  | neg {n : Nat} {k : E} {s : List UInt8} : X n k s → X (Kb (decide (hold k < 3) || unsB k) n + 1) (.mk 1 T0 [k]) (45 :: kidT (decide (hold k < 3) || unsB k) s)
  | fn {n : Nat} {k : E} {s : List UInt8} (p : Nat) : 8 ≤ p → p ≤ 10 → X n k s → X (n + 2) (.mk p T0 [k]) (opT p ++ (40 :: (s ++ [41])))
  | bin {n m : Nat} {a b : E} {s u : List UInt8} (p : Nat) : 2 ≤ p → p ≤ 7 → X n a s → X m b u →
      X (Kb (decide (hold a < holdT p)) n + Kb (decide (hold b < holdT p + 1)) m + 1) (.mk p T0 [a, b]) (kidT (decide (hold a < holdT p)) s ++ (32 :: (opT p ++ (32 :: kidT (decide (hold b < holdT p + 1)) u))))
def Pt (h : Int) (n : Nat) (e : E) (z : List UInt8) : Prop := ∃ m s, X m e s ∧ n = Kb (decide (hold e < h)) m ∧ z = kidT (decide (hold e < h)) s
inductive TL (h : Int) : Nat → List (Nat × E) → List UInt8 → Prop
  | nil : TL h 0 [] []
  | cons {n m : Nat} {b : E} {u t : List UInt8} {L : List (Nat × E)} (p : Nat) : 2 ≤ p → p ≤ 7 → holdT p = h → Pt (h + 1) n b u → TL h m L t → TL h (n + m) ((p, b) :: L) (32 :: (opT p ++ (32 :: (u ++ t))))
def fold (e : E) (L : List (Nat × E)) : E := L.foldl (fun a x => .mk x.1 T0 [a, x.2]) e
def st (h : Int) (r : List UInt8) : Prop := stL r ∧ ∀ (p : Nat) (x : List UInt8), 2 ≤ p → p ≤ 7 → h ≤ holdT p → r ≠ 32 :: (opT p ++ (32 :: x))
def Read (h : Int) (N : Nat) : Prop := ∀ (n : Nat) (e : E) (z : List UInt8) (m : Nat) (f : E) (y : List UInt8) (k : Nat) (L : List (Nat × E)) (t : List UInt8) (j : Nat) (M : List (Nat × E)) (t' r s : List UInt8),
  n + m + k + j ≤ N → Pt h n e z → Pt h m f y → TL h k L t → TL h j M t' → st h r → st h s → z ++ (t ++ r) = y ++ (t' ++ s) → fold e L = fold f M ∧ r = s
def Reads (h : Int) (N : Nat) : Prop := ∀ (n : Nat) (e : E) (z : List UInt8) (m : Nat) (f : E) (y r s : List UInt8),
  n + m ≤ N → Pt h n e z → Pt h m f y → st h r → st h s → z ++ r = y ++ s → e = f ∧ r = s
theorem opT_one {p : Nat} (h1 : 2 ≤ p) (h2 : p ≤ 7) : ∃ c, opT p = [c] := by
  have : p = 2 ∨ p = 3 ∨ p = 4 ∨ p = 5 ∨ p = 6 ∨ p = 7 := by omega
  rcases this with rfl | rfl | rfl | rfl | rfl | rfl <;> exact ⟨_, rfl⟩
theorem opT_inj {p q : Nat} (h1 : 2 ≤ p) (h2 : p ≤ 7) (h3 : 2 ≤ q) (h4 : q ≤ 7) {x y : List UInt8} (h : opT p ++ x = opT q ++ y) : p = q ∧ x = y := by
  obtain ⟨c, e1⟩ := opT_one h1 h2
  obtain ⟨d, e2⟩ := opT_one h3 h4
  have h0 := h
  rw [e1, e2] at h0
  injection h0 with h5 h6
  have hpq : opT p = opT q := by rw [e1, e2, h5]
  refine ⟨?_, h6⟩
  have := (by decide : ∀ a b : Fin 8, 2 ≤ a.val → 2 ≤ b.val → opT a.val = opT b.val → a = b) ⟨p, by omega⟩ ⟨q, by omega⟩ h1 h3 hpq
  exact congrArg Fin.val this
theorem isL_32 : isL 32 = false := by decide
theorem isL_40 : isL 40 = false := by decide
theorem isL_41 : isL 41 = false := by decide
theorem isL_44 : isL 44 = false := by decide
theorem isL_46 : isL 46 = false := by decide
theorem st_more {h : Int} {r : List UInt8} (hr : st h r) : st (h + 1) r := ⟨hr.1, fun p x a b c => hr.2 p x a b (by omega)⟩
theorem st_byte {h : Int} {c : UInt8} {x : List UInt8} (h1 : isL c = false) (h2 : c ≠ 32) : st h (c :: x) := ⟨stL_cons h1, fun p y _ _ _ e => by injection e with e1 _; exact h2 e1⟩
theorem st_tail {h : Int} {k : Nat} {L : List (Nat × E)} {t r : List UInt8} (hT : TL h k L t) (hr : st h r) : st (h + 1) (t ++ r) := by
  cases hT with
  | nil => exact st_more hr
  | cons p h1 h2 h3 hb hT =>
    refine ⟨stL_cons isL_32, fun q x a b c e => ?_⟩
    injection e with _ e
    simp only [List.append_eq, List.append_assoc] at e
    have := (opT_inj h1 h2 a b e).1
    subst this
    omega
theorem tails {h : Int} {N : Nat} (R : Reads (h + 1) N) : ∀ {L : List (Nat × E)} {k : Nat} {t : List UInt8} {M : List (Nat × E)} {j : Nat} {t' r s : List UInt8},
    TL h k L t → TL h j M t' → k + j ≤ N → st h r → st h s → t ++ r = t' ++ s → L = M ∧ r = s := by
  intro L
  induction L with
  | nil =>
    intro k t M j t' r s h1 h2 hk hr hs e
    cases h1
    cases h2 with
    | nil => exact ⟨rfl, by simpa using e⟩
    | cons p a b c hb hT =>
      exact absurd (by simpa using e) (hr.2 p _ a b (by omega))
  | cons x L ih =>
    intro k t M j t' r s h1 h2 hk hr hs e
    cases h1 with
    | cons p a b c hb hT =>
      cases h2 with
      | nil => exact absurd (by simpa using e.symm) (hs.2 p _ a b (by omega))
      | cons q a' b' c' hb' hT' =>
        injection e with _ e
        simp only [List.append_eq, List.append_assoc] at e
        obtain ⟨e1, e2⟩ := opT_inj a b a' b' e
        injection e2 with _ e2
        simp only [List.append_eq, List.append_assoc] at e2
        obtain ⟨e3, e4⟩ := R _ _ _ _ _ _ _ _ (by omega) hb hb' (st_tail hT hr) (st_tail hT' hs) e2
        obtain ⟨e5, e6⟩ := ih hT hT' (by omega) hr hs e4
        subst e1 e3 e5
        exact ⟨rfl, e6⟩
theorem holdT_le {p : Nat} (h1 : 2 ≤ p) (h2 : p ≤ 7) : 1 ≤ holdT p ∧ holdT p ≤ 2 := by
  have : p = 2 ∨ p = 3 ∨ p = 4 ∨ p = 5 ∨ p = 6 ∨ p = 7 := by omega
  rcases this with rfl | rfl | rfl | rfl | rfl | rfl <;> decide
theorem holdT_fn {p : Nat} (h1 : 8 ≤ p) (h2 : p ≤ 10) : holdT p = 4 := by
  have : p = 8 ∨ p = 9 ∨ p = 10 := by omega
  rcases this with rfl | rfl | rfl <;> rfl
theorem hold_nat (p : Nat) (t : T) (l : List E) : hold (.mk p t l) = holdT p := rfl
theorem X.hold1 {n : Nat} {e : E} {s : List UInt8} (h : X n e s) : 1 ≤ hold e := by
  cases h with
  | leaf t _ => exact (by decide : (1 : Int) ≤ holdT 0)
  | neg h => exact (by decide : (1 : Int) ≤ holdT 1)
  | fn p a b h => rw [hold_nat, holdT_fn a b]; omega
  | bin p a b h1 h2 => rw [hold_nat]; exact (holdT_le a b).1
/-- an expression that holds as fast as the place's own operations: it is one of them -/
theorem Pt.peel {h : Int} {n : Nat} {e : E} {z : List UInt8} (hP : Pt h n e z) (he : hold e = h) (h2 : h ≤ 2) : ∃ n1 n2 p a b za ub, n = n1 + n2 + 1 ∧ e = .mk (p : Nat) T0 [a, b] ∧ 2 ≤ p ∧ p ≤ 7 ∧ holdT p = h ∧ Pt h n1 a za ∧ Pt (h + 1) n2 b ub ∧ z = za ++ (32 :: (opT p ++ (32 :: ub))) := by
  obtain ⟨m, s, hX, hn, hz⟩ := hP
  have hb : decide (hold e < h) = false := decide_eq_false (by omega)
  rw [hb] at hn hz
  simp only [Kb, kidT, Bool.false_eq_true, if_false] at hn hz
  subst hn hz
  cases hX with
  | leaf t _ => exact absurd he (by show (4 : Int) ≠ h; omega)
  | neg _ => exact absurd he (by show (3 : Int) ≠ h; omega)
  | fn p a b _ => rw [hold_nat, holdT_fn a b] at he; omega
  | bin p a b h3 h4 =>
    rw [hold_nat] at he
    subst he
    exact ⟨_, _, p, _, _, _, _, rfl, rfl, a, b, rfl, ⟨_, _, h3, rfl, rfl⟩, ⟨_, _, h4, rfl, rfl⟩, rfl⟩
theorem Pt.up {h : Int} {n : Nat} {e : E} {z : List UInt8} (hP : Pt h n e z) (he : hold e ≠ h) : Pt (h + 1) n e z := by
  obtain ⟨m, s, hX, hn, hz⟩ := hP
  have : decide (hold e < h + 1) = decide (hold e < h) := by
    by_cases c : hold e < h
    · rw [decide_eq_true c, decide_eq_true (by omega)]
    · rw [decide_eq_false c, decide_eq_false (by omega)]
  exact ⟨m, s, hX, by rw [this]; exact hn, by rw [this]; exact hz⟩
theorem read_step {h : Int} (h2 : h ≤ 2) : ∀ N, (∀ N', N' ≤ N → Reads (h + 1) N') → Read h N := by
  intro N
  induction N with
  | zero =>
    intro _ n e z m f y k L t j M t' r s hN hP hQ hT hU hr hs h
    exfalso
    obtain ⟨m1, s1, hX, hn, _⟩ := hP
    have : 1 ≤ m1 := by cases hX <;> omega
    have : m1 ≤ n := by rw [hn]; unfold Kb; split <;> omega
    omega
  | succ N ih =>
    intro hR n e z m f y k L t j M t' r s hN hP hQ hT hU hr hs hh
    have IH := ih (fun N' h => hR N' (by omega))
    by_cases he : hold e = h
    · obtain ⟨n1, n2, p, a, b, za, ub, rfl, rfl, h1, h3, h4, hA, hB, rfl⟩ := hP.peel he h2
      have := IH n1 a za m f y (n2 + k) ((p, b) :: L) _ j M t' r s (by omega) hA hQ (.cons p h1 h3 h4 hB hT) hU hr hs (by simpa using hh)
      exact this
    · by_cases hf : hold f = h
      · obtain ⟨n1, n2, p, a, b, za, ub, rfl, rfl, h1, h3, h4, hA, hB, rfl⟩ := hQ.peel hf h2
        have := IH n e z n1 a za k L t (n2 + j) ((p, b) :: M) _ r s (by omega) hP hA hT (.cons p h1 h3 h4 hB hU) hr hs (by simpa using hh)
        exact this
      · obtain ⟨e1, e2⟩ := hR (N + 1) (Nat.le_refl _) n e z m f y (t ++ r) (t' ++ s) (by omega) (hP.up he) (hQ.up hf) (st_tail hT hr) (st_tail hU hs) hh
        obtain ⟨e3, e4⟩ := tails (hR (N + 1) (Nat.le_refl _)) hT hU (by omega) hr hs e2
        exact ⟨by rw [e1, e3], e4⟩
theorem reads_step {h : Int} (h2 : h ≤ 2) {N : Nat} (hR : ∀ N', N' ≤ N → Reads (h + 1) N') : Reads h N := by
  intro n e z m f y r s hN hP hQ hr hs hh
  exact read_step h2 N hR n e z m f y 0 [] [] 0 [] [] r s (by omega) hP hQ .nil .nil hr hs hh
theorem reads_one {N : Nat} (hR : ∀ N', N' ≤ N → Reads 3 N') : Reads 1 N :=
  reads_step (by omega) (fun N' h => reads_step (h := 2) (by omega) (fun N'' h' => hR N'' (by omega)))
theorem X.pt {n : Nat} {e : E} {s : List UInt8} (h : X n e s) {g : Int} (hg : g ≤ hold e) : Pt g n e s := ⟨n, s, h, by rw [decide_eq_false (by omega)]; rfl, by rw [decide_eq_false (by omega)]; rfl⟩
/-- between brackets -/
theorem bracket_inj {N n m : Nat} (hR : Reads 1 N) {e f : E} {z y r s : List UInt8} (hN : n + m ≤ N) (h1 : X n e z) (h2 : X m f y) (h : (40 :: (z ++ [41])) ++ r = (40 :: (y ++ [41])) ++ s) : e = f ∧ r = s := by
  injection h with _ h
  have h : z ++ (41 :: r) = y ++ (41 :: s) := by simpa using h
  obtain ⟨e1, e2⟩ := hR n e z m f y _ _ hN (h1.pt h1.hold1) (h2.pt h2.hold1) (st_byte isL_41 (by decide)) (st_byte isL_41 (by decide)) h
  injection e2 with _ e2
  exact ⟨e1, e2⟩
theorem fnT_kw {p : Nat} (h1 : 8 ≤ p) (h2 : p ≤ 10) : opT p ∈ keywords ∧ (opT p).all isL = true ∧ ∃ c l, opT p = c :: l ∧ cls c = 5 := by
  have : p = 8 ∨ p = 9 ∨ p = 10 := by omega
  rcases this with rfl | rfl | rfl <;> exact ⟨by decide, by decide, _, _, rfl, rfl⟩
theorem named_term {t : T} (h : namedB t = true) : termB t = true := by unfold namedB at h; simp only [Bool.and_eq_true] at h; exact h.2
theorem term_head {t : T} (h : termB t = true) : ∃ c l, termT t = c :: l ∧ 1 ≤ cls c := by
  obtain ⟨k, hk⟩ := TF_of h
  obtain ⟨c, l, e, q⟩ := hk.head
  refine ⟨c, l, e, ?_⟩
  rw [q]
  cases hk <;> omega
/-- a unit's text without brackets does not open with a bracket; nor with a digit, where it is no unsigned number -/
theorem X.first {n : Nat} {e : E} {s : List UInt8} (h : X n e s) (h3 : 3 ≤ hold e) : ∃ c l, s = c :: l ∧ 1 ≤ cls c ∧ (unsB e = false → cls c ≠ 3) := by
  cases h with
  | leaf t ht =>
    obtain ⟨k, hk⟩ := TF_of (named_term ht)
    obtain ⟨c, l, e, q⟩ := hk.head
    refine ⟨c, l, e, ?_, ?_⟩
    · rw [q]; cases hk <;> omega
    · rw [q]
      intro hu hk3
      subst hk3
      cases hk with
      | num n hn =>
        unfold unsB at hu
        simp only [op_mk, t_mk, decide_true, Bool.true_and] at hu
        exact of_decide_eq_false hu hn
  | neg h => exact ⟨_, _, rfl, by decide, fun _ => by decide⟩
  | fn p a b h =>
    obtain ⟨_, _, c, l, e, q⟩ := fnT_kw a b
    rw [e]
    exact ⟨c, _, rfl, by omega, fun _ => by omega⟩
  | bin p a b h1 h2 =>
    rw [hold_nat] at h3
    have := holdT_le a b
    omega
theorem cls_40 : cls 40 = 0 := by decide
theorem cls_45 : cls 45 = 4 := by decide
/-- the kid behind a minus: its first byte is no digit -/
theorem negkid_first {n : Nat} {k : E} {s : List UInt8} (h : X n k s) : ∃ c l, kidT (decide (hold k < 3) || unsB k) s = c :: l ∧ cls c ≠ 3 := by
  by_cases hb : (decide (hold k < 3) || unsB k) = true
  · rw [hb]
    exact ⟨40, _, rfl, by decide⟩
  · rw [Bool.not_eq_true] at hb
    rw [hb]
    simp only [Bool.or_eq_false_iff, decide_eq_false_iff_not] at hb
    obtain ⟨c, l, e, _, h3⟩ := h.first (by omega)
    exact ⟨c, l, e, h3 hb.2⟩
theorem leaf_neg {t : T} (ht : namedB t = true) {n : Nat} {k : E} {s r x : List UInt8} (h : X n k s) : termT t ++ r ≠ (45 :: kidT (decide (hold k < 3) || unsB k) s) ++ x := by
  intro e
  obtain ⟨c, l, e2, hc⟩ := negkid_first h
  rw [e2] at e
  obtain ⟨j, hj⟩ := TF_of (named_term ht)
  obtain ⟨d, m, e1, q⟩ := hj.head
  have hj4 : j = 4 := by
    rw [e1] at e
    injection e with e3 _
    rw [← q, e3, cls_45]
  subst hj4
  cases hj with
  | neg n hn =>
    rw [termT_neg hn] at e
    obtain ⟨d, m, e5, hd⟩ := dec_head n.natAbs
    rw [e5] at e
    injection e with _ e
    injection e with e6 _
    refine hc ?_
    rw [← e6]
    unfold cls
    rw [if_neg (by omega), if_neg (by omega), if_pos hd]
theorem leaf_fn {t : T} (ht : namedB t = true) {p : Nat} (h1 : 8 ≤ p) (h2 : p ≤ 10) {r x : List UInt8} (hr : stL r) : termT t ++ r ≠ opT p ++ (40 :: x) :=
  term_kw (named_term ht) (fnT_kw h1 h2).1 (fnT_kw h1 h2).2.1 hr (stL_cons isL_40)
theorem reads_three : ∀ N, Reads 3 N := by
  intro N
  induction N using Nat.strongRecOn with
  | _ N ih =>
    have R1 : ∀ N', N' < N → Reads 1 N' := fun N' h => reads_one (fun N'' h' => ih N'' (by omega))
    intro n e z m f y r s hN hP hQ hr hs h
    obtain ⟨n1, z1, hX, rfl, rfl⟩ := hP
    obtain ⟨m1, y1, hY, rfl, rfl⟩ := hQ
    by_cases he : hold e < 3
    · rw [decide_eq_true he] at h hN
      by_cases hf : hold f < 3
      · rw [decide_eq_true hf] at h hN
        simp only [Kb, kidT, if_true] at h hN
        exact bracket_inj (R1 (n1 + m1) (by omega)) (Nat.le_refl _) hX hY h
      · rw [decide_eq_false hf] at h
        obtain ⟨c, l, e1, h1, _⟩ := hY.first (by omega)
        rw [e1] at h
        injection h with h5 _
        rw [← h5, cls_40] at h1; omega
    · rw [decide_eq_false he] at h hN
      by_cases hf : hold f < 3
      · rw [decide_eq_true hf] at h
        obtain ⟨c, l, e1, h1, _⟩ := hX.first (by omega)
        rw [e1] at h
        injection h with h5 _
        rw [h5, cls_40] at h1; omega
      · rw [decide_eq_false hf] at h hN
        simp only [Kb, kidT, Bool.false_eq_true, if_false] at h hN
        cases hX with
        | leaf t ht =>
          cases hY with
          | leaf u hu =>
            obtain ⟨e1, e2⟩ := term_inj (named_term ht) (named_term hu) hr.1 hs.1 h
            exact ⟨by rw [e1], e2⟩
          | neg hk => exact absurd h (leaf_neg ht hk)
          | fn p a b hk => exact absurd (by simpa using h) (leaf_fn ht a b hr.1)
          | bin p a b h1 h2 => rw [hold_nat] at hf; have := holdT_le a b; omega
        | @neg n2 k z2 hk =>
          cases hY with
          | leaf u hu => exact absurd h.symm (leaf_neg hu hk)
          | @neg m2 k' y2 hk' =>
            injection h with _ h
            change kidT _ z2 ++ r = kidT _ y2 ++ s at h
            cases hb : (decide (hold k < 3) || unsB k)
            · cases hb' : (decide (hold k' < 3) || unsB k')
              · rw [hb, hb'] at h hN
                simp only [Bool.or_eq_false_iff, decide_eq_false_iff_not] at hb hb'
                simp only [Kb, kidT, Bool.false_eq_true, if_false] at h hN
                obtain ⟨e1, e2⟩ := ih (n2 + m2) (by omega) n2 k z2 m2 k' y2 r s (by omega) (hk.pt (by omega)) (hk'.pt (by omega)) hr hs h
                exact ⟨by rw [e1], e2⟩
              · rw [hb, hb'] at h
                simp only [Bool.or_eq_false_iff, decide_eq_false_iff_not] at hb
                obtain ⟨c, l, e1, h1, _⟩ := hk.first (by omega)
                rw [e1] at h
                injection h with h5 _
                rw [h5, cls_40] at h1; omega
            · cases hb' : (decide (hold k' < 3) || unsB k')
              · rw [hb, hb'] at h
                simp only [Bool.or_eq_false_iff, decide_eq_false_iff_not] at hb'
                obtain ⟨c, l, e1, h1, _⟩ := hk'.first (by omega)
                rw [e1] at h
                injection h with h5 _
                rw [← h5, cls_40] at h1; omega
              · rw [hb, hb'] at h hN
                simp only [Kb, kidT, if_true] at h hN
                obtain ⟨e1, e2⟩ := bracket_inj (R1 (n2 + m2) (by omega)) (Nat.le_refl _) hk hk' h
                exact ⟨by rw [e1], e2⟩
          | fn p a b hk' =>
            obtain ⟨_, _, c, l, e1, q⟩ := fnT_kw a b
            rw [e1] at h
            injection h with h5 _
            rw [← h5, cls_45] at q; omega
          | bin p a b h1 h2 => rw [hold_nat] at hf; have := holdT_le a b; omega
        | @fn n2 k z2 p a b hk =>
          cases hY with
          | leaf u hu => exact absurd (by simpa using h.symm) (leaf_fn hu a b hs.1)
          | neg hk' =>
            obtain ⟨_, _, c, l, e1, q⟩ := fnT_kw a b
            rw [e1] at h
            injection h with h5 _
            rw [h5, cls_45] at q; omega
          | @fn m2 k' y2 p' a' b' hk' =>
            rw [List.append_assoc, List.append_assoc] at h
            obtain ⟨e1, e2⟩ := word_inj (fnT_kw a b).2.1 (fnT_kw a' b').2.1 (stL_cons isL_40) (stL_cons isL_40) h
            have := (by decide : ∀ a b : Fin 11, 8 ≤ a.val → 8 ≤ b.val → opT a.val = opT b.val → a = b) ⟨p, by omega⟩ ⟨p', by omega⟩ a a' e1
            have := congrArg Fin.val this
            simp only at this
            obtain ⟨e3, e4⟩ := bracket_inj (R1 (n2 + m2) (by omega)) (Nat.le_refl _) hk hk' e2
            exact ⟨by rw [this, e3], e4⟩
          | bin p a b h1 h2 => rw [hold_nat] at hf; have := holdT_le a b; omega
        | bin p a b h1 h2 => rw [hold_nat] at he; have := holdT_le a b; omega
theorem E_eta (e : E) : E.mk e.op e.t e.kids = e := by cases e; rfl
theorem atE_two (a b : E) : atE [a, b] 0 = a ∧ atE [a, b] 1 = b := ⟨rfl, rfl⟩
theorem exprB_mk (r p : Nat) (t : T) (kids : List E) : exprB (r + 1) (.mk p t kids) = (decide (0 ≤ (p : Int)) && decide ((p : Int) < 11) && decide (kids.length = kidsOf p) && (if (p : Int) = 0 then namedB t else kids.all (exprB r) && decide (t = T0))) := rfl
theorem X_of : ∀ {r : Nat} {e : E}, exprB r e = true → ∃ n, X n e (textE r e)
  | 0, e, h => by cases h
  | r + 1, e, h => by
    obtain ⟨op, t, kids⟩ := e
    have h0 : 0 ≤ op := by
      unfold exprB at h
      simp only [Bool.and_eq_true, decide_eq_true_eq] at h
      exact h.1.1.1
    obtain ⟨p, rfl⟩ : ∃ p : Nat, op = p := ⟨op.toNat, by omega⟩
    clear h0
    rw [exprB_mk] at h
    simp only [Bool.and_eq_true, decide_eq_true_eq] at h
    obtain ⟨⟨⟨h1, h2⟩, h3⟩, h4⟩ := h
    rw [textE_mk]
    by_cases h0 : (p : Int) = 0
    · rw [if_pos h0] at h4 ⊢
      obtain rfl : p = 0 := by omega
      obtain rfl : kids = [] := List.length_eq_zero_iff.1 h3
      exact ⟨_, .leaf t h4⟩
    · rw [if_neg h0] at h4 ⊢
      simp only [Bool.and_eq_true, decide_eq_true_eq] at h4
      obtain ⟨h4, rfl⟩ := h4
      by_cases h5 : (p : Int) = 1
      · rw [if_pos h5]
        obtain rfl : p = 1 := by omega
        obtain ⟨k, rfl⟩ := List.length_eq_one_iff.1 h3
        simp only [List.all_cons, List.all_nil, Bool.and_true] at h4
        obtain ⟨n, hk⟩ := X_of h4
        exact ⟨_, .neg hk⟩
      · rw [if_neg h5]
        by_cases h8 : 8 ≤ (p : Int)
        · rw [if_pos h8]
          have : p = 8 ∨ p = 9 ∨ p = 10 := by omega
          have hk1 : kids.length = 1 := by rcases this with rfl | rfl | rfl <;> exact h3
          obtain ⟨k, rfl⟩ := List.length_eq_one_iff.1 hk1
          simp only [List.all_cons, List.all_nil, Bool.and_true] at h4
          obtain ⟨n, hk⟩ := X_of h4
          exact ⟨_, .fn p (by omega) (by omega) hk⟩
        · rw [if_neg h8]
          have hp : p = 2 ∨ p = 3 ∨ p = 4 ∨ p = 5 ∨ p = 6 ∨ p = 7 := by omega
          have hk2 : kids.length = 2 := by rcases hp with rfl | rfl | rfl | rfl | rfl | rfl <;> exact h3
          obtain ⟨a, b, rfl⟩ : ∃ a b, kids = [a, b] := by match kids, hk2 with | [a, b], _ => exact ⟨a, b, rfl⟩
          simp only [List.all_cons, List.all_nil, Bool.and_true, Bool.and_eq_true] at h4
          obtain ⟨n, ha⟩ := X_of h4.1
          obtain ⟨m, hb⟩ := X_of h4.2
          have := X.bin p (by omega) (by omega) ha hb
          have e1 : ([32] ++ opT p ++ [32]) ++ kidT (decide (holdT (atE [a, b] 1).op.toNat ≤ holdT p)) (textE r (atE [a, b] 1)) = 32 :: (opT p ++ (32 :: kidT (decide (hold b < holdT p + 1)) (textE r b))) := by
            rw [(atE_two a b).2]
            have : decide (holdT b.op.toNat ≤ holdT p) = decide (hold b < holdT p + 1) := by
              unfold hold
              by_cases c : holdT b.op.toNat ≤ holdT p
              · rw [decide_eq_true c, decide_eq_true (by omega)]
              · rw [decide_eq_false c, decide_eq_false (by omega)]
            rw [this]
            simp
          rw [e1, (atE_two a b).1]
          exact ⟨_, this⟩
theorem expr_inj {r r' : Nat} {e f : E} (he : exprB r e = true) (hf : exprB r' f = true) {x y : List UInt8} (hx : st 1 x) (hy : st 1 y) (h : textE r e ++ x = textE r' f ++ y) : e = f ∧ x = y := by
  obtain ⟨n, hX⟩ := X_of he
  obtain ⟨m, hY⟩ := X_of hf
  exact reads_one (N := n + m) (fun N' _ => reads_three N') n e _ m f _ x y (Nat.le_refl _) (hX.pt hX.hold1) (hY.pt hY.hold1) hx hy h
def jn : List (List UInt8) → List UInt8
  | [] => []
  | [a] => a
  | a :: b :: l => a ++ ([44, 32] ++ jn (b :: l))
theorem jn_snoc (a : List UInt8) : ∀ (b : List UInt8) (l : List (List UInt8)), jn ((b :: l) ++ [a]) = jn (b :: l) ++ ([44, 32] ++ a)
  | b, [] => rfl
  | b, c :: l => by
    have := jn_snoc a c l
    show b ++ ([44, 32] ++ jn ((c :: l) ++ [a])) = (b ++ ([44, 32] ++ jn (c :: l))) ++ ([44, 32] ++ a)
    rw [this]
    simp
theorem upG_jn (tx : List (List UInt8)) : ∀ k, k ≤ tx.length → upG tx k = jn (tx.take k)
  | 0, _ => rfl
  | k + 1, hk => by
    rw [upG, upG_jn tx k (by omega), List.take_add_one, List.getElem?_eq_getElem (by omega)]
    have e : tx.getD k [] = tx[k] := by simp [List.getD, show k < tx.length by omega]
    rw [e]
    cases k with
    | zero => rfl
    | succ k =>
      cases hx : tx.take (k + 1) with
      | nil => have := congrArg List.length hx; rw [List.length_take, List.length_nil] at this; omega
      | cons b l => simp only [Option.toList_some]; rw [jn_snoc]; simp
theorem upG_all (tx : List (List UInt8)) : upG tx tx.length = jn tx := by rw [upG_jn tx _ (Nat.le_refl _), List.take_length]
theorem upT_upG (ts : List T) : ∀ k, k ≤ ts.length → upT ts k = upG (ts.map termT) k
  | 0, _ => rfl
  | k + 1, hk => by
    rw [upT, upG, upT_upG ts k (by omega)]
    have e : (ts.map termT).getD k [] = termT (atT ts k) := by simp [List.getD, atT, show k < ts.length by omega]
    rw [e]
theorem colT_colG (ts : List T) : colT ts = colG (ts.map termT) := by
  unfold colT colG
  rw [List.length_map, upT_upG ts _ (Nat.le_refl _)]
/-- what follows a thing in a list: a comma, or the byte that ends the list -/
def stE (e : UInt8) (r : List UInt8) : Prop := ∃ c l, r = c :: l ∧ (c = 44 ∨ c = e)
def One {α : Type} (f : α → List UInt8) (ok : α → Prop) (e : UInt8) : Prop := ∀ (x y : α) (r s : List UInt8), ok x → ok y → stE e r → stE e s → f x ++ r = f y ++ s → x = y ∧ r = s
theorem jn_inj {α : Type} {f : α → List UInt8} {ok : α → Prop} {e : UInt8} (he : e ≠ 44) (R : One f ok e) : ∀ (xs ys : List α) (r s : List UInt8), xs ≠ [] → ys ≠ [] → (∀ x ∈ xs, ok x) → (∀ x ∈ ys, ok x) → jn (xs.map f) ++ e :: r = jn (ys.map f) ++ e :: s → xs = ys ∧ r = s
  | [], _, _, _, h, _, _, _, _ => absurd rfl h
  | _ :: _, [], _, _, _, h, _, _, _ => absurd rfl h
  | [x], [y], r, s, _, _, h1, h2, h => by
    obtain ⟨e1, e2⟩ := R x y (e :: r) (e :: s) (h1 x (by simp)) (h2 y (by simp)) ⟨e, r, rfl, .inr rfl⟩ ⟨e, s, rfl, .inr rfl⟩ h
    injection e2 with _ e2
    exact ⟨by rw [e1], e2⟩
  | [x], y :: y' :: ys, r, s, _, _, h1, h2, h => by
    have h : f x ++ e :: r = f y ++ (44 :: 32 :: (jn ((y' :: ys).map f) ++ e :: s)) := by simpa [jn] using h
    obtain ⟨e1, e2⟩ := R x y _ _ (h1 x (by simp)) (h2 y (by simp)) ⟨e, r, rfl, .inr rfl⟩ ⟨44, _, rfl, .inl rfl⟩ h
    injection e2 with e3 _
    exact absurd e3 he
  | x :: x' :: xs, [y], r, s, _, _, h1, h2, h => by
    have h : f x ++ (44 :: 32 :: (jn ((x' :: xs).map f) ++ e :: r)) = f y ++ e :: s := by simpa [jn] using h
    obtain ⟨e1, e2⟩ := R x y _ _ (h1 x (by simp)) (h2 y (by simp)) ⟨44, _, rfl, .inl rfl⟩ ⟨e, s, rfl, .inr rfl⟩ h
    injection e2 with e3 _
    exact absurd e3.symm he
  | x :: x' :: xs, y :: y' :: ys, r, s, _, _, h1, h2, h => by
    have h : f x ++ (44 :: 32 :: (jn ((x' :: xs).map f) ++ e :: r)) = f y ++ (44 :: 32 :: (jn ((y' :: ys).map f) ++ e :: s)) := by simpa [jn] using h
    obtain ⟨e1, e2⟩ := R x y _ _ (h1 x (by simp)) (h2 y (by simp)) ⟨44, _, rfl, .inl rfl⟩ ⟨44, _, rfl, .inl rfl⟩ h
    injection e2 with _ e2
    injection e2 with _ e2
    obtain ⟨e3, e4⟩ := jn_inj he R (x' :: xs) (y' :: ys) r s (by simp) (by simp) (fun z hz => h1 z (by simp [List.mem_cons.1 hz])) (fun z hz => h2 z (by simp [List.mem_cons.1 hz])) e2
    exact ⟨by rw [e1, e3], e4⟩
def no40 (r : List UInt8) : Prop := ∀ x, r ≠ 40 :: x
theorem colG_inj {α : Type} {f : α → List UInt8} {ok : α → Prop} (R : One f ok 41) {xs ys : List α} {r s : List UInt8} (h1 : ∀ x ∈ xs, ok x) (h2 : ∀ x ∈ ys, ok x) (hr : no40 r) (hs : no40 s) (h : colG (xs.map f) ++ r = colG (ys.map f) ++ s) : xs = ys ∧ r = s := by
  unfold colG at h
  rw [List.length_map, List.length_map] at h
  by_cases a : xs.length = 0
  · obtain rfl := List.length_eq_zero_iff.1 a
    by_cases b : ys.length = 0
    · obtain rfl := List.length_eq_zero_iff.1 b
      exact ⟨rfl, by simpa using h⟩
    · rw [if_pos a, if_neg b] at h
      exact absurd (by simpa using h) (hr _)
  · by_cases b : ys.length = 0
    · rw [if_neg a, if_pos b] at h
      exact absurd (by simpa using h.symm) (hs _)
    · rw [if_neg a, if_neg b] at h
      have e1 : upG (xs.map f) xs.length = jn (xs.map f) := by rw [← upG_all, List.length_map]
      have e2 : upG (ys.map f) ys.length = jn (ys.map f) := by rw [← upG_all, List.length_map]
      rw [e1, e2] at h
      have h : jn (xs.map f) ++ 41 :: r = jn (ys.map f) ++ 41 :: s := by simpa using h
      exact jn_inj (by decide) R xs ys r s (fun q => a (by rw [q]; rfl)) (fun q => b (by rw [q]; rfl)) h1 h2 h
theorem stE_stL {e : UInt8} (he : isL e = false) {r : List UInt8} (h : stE e r) : stL r := by
  obtain ⟨c, l, rfl, rfl | rfl⟩ := h
  · exact stL_cons isL_44
  · exact stL_cons he
theorem stE_st {e : UInt8} (he : isL e = false) (h32 : e ≠ 32) {h : Int} {r : List UInt8} (hr : stE e r) : st h r := by
  obtain ⟨c, l, rfl, rfl | rfl⟩ := hr
  · exact st_byte isL_44 (by decide)
  · exact st_byte he h32
theorem stE_no40 {e : UInt8} (he : e ≠ 40) {r : List UInt8} (h : stE e r) : no40 r := by
  obtain ⟨c, l, rfl, rfl | rfl⟩ := h
  · intro x q; injection q with q _; revert q; decide
  · intro x q; injection q with q _; exact he q
theorem term_one : One termT (fun t => termB t = true) 41 := fun x y r s hx hy hr hs h => term_inj hx hy (stE_stL isL_41 hr) (stE_stL isL_41 hs) h
theorem show_one : One showB (fun v => okV v = true) 41 := fun x y r s hx hy hr hs h => by
  have tb : ∀ {v : V}, okV v = true → termB ⟨noS, v⟩ = true := fun hv => by unfold termB; rw [if_pos rfl]; exact hv
  have := term_inj (tb hx) (tb hy) (stE_stL isL_41 hr) (stE_stL isL_41 hs) (by rw [termT_no, termT_no]; exact h)
  refine ⟨?_, this.2⟩
  injection this.1
theorem colG_stL {tx : List (List UInt8)} {r : List UInt8} (h : stL r) : stL (colG tx ++ r) := by
  unfold colG
  split
  · exact h
  · exact stL_cons isL_40
/-- an atom behind which no bracket opens -/
theorem atom_inj {p q : ByteArray} {ts us : List T} (h1 : atomB p ts = true) (h2 : atomB q us = true) {r s : List UInt8} (hr : stL r) (hs : stL s) (gr : no40 r) (gs : no40 s) (h : atomT p ts ++ r = atomT q us ++ s) : p = q ∧ ts = us ∧ r = s := by
  unfold atomB at h1 h2
  simp only [Bool.and_eq_true, List.all_eq_true] at h1 h2
  unfold atomT at h
  rw [List.append_assoc, List.append_assoc, colT_colG, colT_colG] at h
  obtain ⟨e1, e2⟩ := word_inj (name_form h1.1.1).1 (name_form h2.1.1).1 (colG_stL hr) (colG_stL hs) h
  obtain ⟨e3, e4⟩ := colG_inj term_one h1.2 h2.2 gr gs e2
  exact ⟨bytes_inj e1, e3, e4⟩
/-- how an expression's text begins -/
theorem X.front {n : Nat} {e : E} {s : List UInt8} (h : X n e s) : (∃ t x, namedB t = true ∧ s = termT t ++ x ∧ (x = [] ∨ ∃ y, x = 32 :: y)) ∨ (∃ x, s = 45 :: x) ∨ (∃ p x, 8 ≤ p ∧ p ≤ 10 ∧ s = opT p ++ (40 :: x)) ∨ ∃ x, s = 40 :: x := by
  induction h with
  | leaf t ht => exact .inl ⟨t, [], ht, by simp, .inl rfl⟩
  | neg h ih => exact .inr (.inl ⟨_, rfl⟩)
  | fn p a b h ih => exact .inr (.inr (.inl ⟨p, _, a, b, rfl⟩))
  | @bin n m a b s u p h1 h2 h3 h4 ih1 ih2 =>
    cases hb : decide (hold a < holdT p)
    · rcases ih1 with ⟨t, x, ht, rfl, hx⟩ | ⟨x, rfl⟩ | ⟨q, x, a1, b1, rfl⟩ | ⟨x, rfl⟩
      · refine .inl ⟨t, x ++ (32 :: (opT p ++ (32 :: kidT (decide (hold b < holdT p + 1)) u))), ht, by simp [kidT], ?_⟩
        rcases hx with rfl | ⟨y, rfl⟩
        · exact .inr ⟨_, rfl⟩
        · exact .inr ⟨_, rfl⟩
      · exact .inr (.inl ⟨_, rfl⟩)
      · exact .inr (.inr (.inl ⟨q, x ++ (32 :: (opT p ++ (32 :: kidT (decide (hold b < holdT p + 1)) u))), a1, b1, by simp [kidT]⟩))
      · exact .inr (.inr (.inr ⟨_, rfl⟩))
    · exact .inr (.inr (.inr ⟨_, rfl⟩))
theorem not_kw : [110, 111, 116] ∈ keywords := by decide
/-- a comparison is no atom, and no not -/
theorem cmp_atom {n : Nat} {e : E} {z : List UInt8} (hX : X n e z) {p : ByteArray} (hp : nameB p = true) {x y : List UInt8} (hy : stL y) (h32 : ∀ w, y ≠ 32 :: w) : z ++ (32 :: x) ≠ p.data.toList ++ y := by
  intro h
  obtain ⟨g1, g2, c, l, g3, g4⟩ := name_form hp
  have hc5 : cls c = 5 := by unfold cls; rw [if_neg (by omega), if_neg (by omega), if_neg (by omega), if_neg (by omega), if_pos g4]
  rcases hX.front with ⟨t, w, ht, rfl, hw⟩ | ⟨w, rfl⟩ | ⟨q, w, a, b, rfl⟩ | ⟨w, rfl⟩
  · have hst : ∃ v, w ++ (32 :: x) = 32 :: v := by
      rcases hw with rfl | ⟨v, rfl⟩
      · exact ⟨_, rfl⟩
      · exact ⟨_, rfl⟩
    obtain ⟨v, hv⟩ := hst
    rw [List.append_assoc, hv] at h
    have hT : termB ⟨noS, ⟨2, 0, p⟩⟩ = true := by
      unfold termB okV chkV chk
      rw [if_pos rfl]
      have : p.size ≤ 120 := by unfold nameB at hp; simp only [Bool.and_eq_true, decide_eq_true_eq] at hp; exact hp.1.1.1.2
      rw [if_pos (.inr ⟨rfl, rfl, by show (p.size : Int) ≤ 200; omega⟩)]
      rfl
    rw [← termT_name hp] at h
    have := (term_inj (named_term ht) hT (stL_cons isL_32) hy h).2
    exact h32 v this.symm
  · rw [g3] at h; injection h with h1 _; rw [← h1, cls_45] at hc5; omega
  · rw [List.append_assoc] at h
    have := (word_inj (fnT_kw a b).2.1 g1 (stL_cons isL_40) hy h).1
    exact g2 (this ▸ (fnT_kw a b).1)
  · rw [g3] at h; injection h with h1 _; rw [← h1, cls_40] at hc5; omega
theorem cmp_not {n : Nat} {e : E} {z : List UInt8} (hX : X n e z) {x y : List UInt8} : z ++ (32 :: x) ≠ [110, 111, 116] ++ (32 :: y) := by
  intro h
  rcases hX.front with ⟨t, w, ht, rfl, hw⟩ | ⟨w, rfl⟩ | ⟨q, w, a, b, rfl⟩ | ⟨w, rfl⟩
  · have hst : ∃ v, w ++ (32 :: x) = 32 :: v := by
      rcases hw with rfl | ⟨v, rfl⟩
      · exact ⟨_, rfl⟩
      · exact ⟨_, rfl⟩
    obtain ⟨v, hv⟩ := hst
    rw [List.append_assoc, hv] at h
    exact term_kw (named_term ht) not_kw (by decide) (stL_cons isL_32) (stL_cons isL_32) h
  · injection h with h1 _; revert h1; decide
  · rw [List.append_assoc] at h
    have := (word_inj (fnT_kw a b).2.1 (by decide) (stL_cons isL_40) (stL_cons isL_32) h).1
    have hq : q = 8 ∨ q = 9 ∨ q = 10 := by omega
    rcases hq with rfl | rfl | rfl <;> revert this <;> decide
  · injection h with h1 _; revert h1; decide
theorem atom_not {p : ByteArray} {ts : List T} (h1 : atomB p ts = true) {r s : List UInt8} (hr : stL r) : atomT p ts ++ r ≠ [110, 111, 116] ++ (32 :: s) := by
  intro h
  have hp : nameB p = true := by unfold atomB at h1; simp only [Bool.and_eq_true] at h1; exact h1.1.1
  unfold atomT at h
  rw [List.append_assoc, colT_colG] at h
  have := (word_inj (name_form hp).1 (by decide) (colG_stL hr) (stL_cons isL_32) h).1
  exact (name_form hp).2.1 (this ▸ not_kw)
theorem relT_st {n : Nat} (h1 : 1 ≤ n) (h2 : n ≤ 6) (x : List UInt8) : st 1 ([32] ++ relT n ++ [32] ++ x) := by
  refine ⟨stL_cons isL_32, fun p y a b _ e => ?_⟩
  have hp : p = 2 ∨ p = 3 ∨ p = 4 ∨ p = 5 ∨ p = 6 ∨ p = 7 := by omega
  have hn : n = 1 ∨ n = 2 ∨ n = 3 ∨ n = 4 ∨ n = 5 ∨ n = 6 := by omega
  have e2 : relT n ++ (32 :: x) = opT p ++ (32 :: y) := by simpa using e
  rcases hp with rfl | rfl | rfl | rfl | rfl | rfl <;> rcases hn with rfl | rfl | rfl | rfl | rfl | rfl <;> (injection e2 with e3 _; revert e3; decide)
theorem relT_inj {n m : Nat} (h1 : 1 ≤ n) (h2 : n ≤ 6) (h3 : 1 ≤ m) (h4 : m ≤ 6) {x y : List UInt8} (h : relT n ++ (32 :: x) = relT m ++ (32 :: y)) : n = m ∧ x = y := by
  have hn : n = 1 ∨ n = 2 ∨ n = 3 ∨ n = 4 ∨ n = 5 ∨ n = 6 := by omega
  have hm : m = 1 ∨ m = 2 ∨ m = 3 ∨ m = 4 ∨ m = 5 ∨ m = 6 := by omega
  rcases hn with rfl | rfl | rfl | rfl | rfl | rfl <;> rcases hm with rfl | rfl | rfl | rfl | rfl | rfl <;> simp [relT, relTab] at h <;> first | exact ⟨rfl, h⟩ | skip
theorem noE_eq {e : E} (h : noE e = true) : e = E0 := by
  obtain ⟨op, t, kids⟩ := e
  unfold noE at h
  simp only [Bool.and_eq_true, decide_eq_true_eq] at h
  simp only [op_mk, t_mk, kids_mk] at h
  obtain ⟨rfl, rfl, h3⟩ := h
  rw [List.length_eq_zero_iff.1 h3]
  rfl
inductive LF : Lit4 → Prop
  | pos (p : ByteArray) (ts : List T) : atomB p ts = true → LF ⟨1, p, ts, 0, E0, E0⟩
  | no (p : ByteArray) (ts : List T) : atomB p ts = true → LF ⟨2, p, ts, 0, E0, E0⟩
  | cmp (n : Nat) (l r : E) : 1 ≤ n → n ≤ 6 → exprB 8 l = true → exprB 8 r = true → LF ⟨3, noS, [], n, l, r⟩
theorem LF_of {x : Lit4} (h : litB x = true) : LF x := by
  obtain ⟨k, pr, ts, rel, l, r⟩ := x
  unfold litB at h
  simp only at h
  split at h
  · rename_i hk
    simp only [Bool.and_eq_true, decide_eq_true_eq] at h
    obtain ⟨h1, rfl, h3, h4⟩ := h
    rw [noE_eq h3, noE_eq h4]
    rcases hk with rfl | rfl
    · exact .pos _ _ h1
    · exact .no _ _ h1
  · split at h
    · rename_i hk
      subst hk
      simp only [Bool.and_eq_true, decide_eq_true_eq] at h
      obtain ⟨rfl, h2, h3, h4, h5, h6⟩ := h
      obtain rfl := List.length_eq_zero_iff.1 h2
      obtain ⟨n, rfl⟩ : ∃ n : Nat, rel = n := ⟨rel.toNat, by omega⟩
      exact .cmp n l r (by omega) (by omega) h5 h6
    · cases h
theorem litT_pos (p : ByteArray) (ts : List T) : litT ⟨1, p, ts, 0, E0, E0⟩ = atomT p ts := by unfold litT; rw [if_pos rfl]
theorem litT_no (p : ByteArray) (ts : List T) (r : List UInt8) : litT ⟨2, p, ts, 0, E0, E0⟩ ++ r = [110, 111, 116] ++ (32 :: (atomT p ts ++ r)) := by unfold litT; rw [if_neg (by simp), if_pos rfl]; simp
theorem litT_cmp (n : Nat) (l r : E) (x : List UInt8) : litT ⟨3, noS, [], n, l, r⟩ ++ x = textE 8 l ++ ([32] ++ relT n ++ [32] ++ (textE 8 r ++ x)) := by unfold litT; rw [if_neg (by simp), if_neg (by simp)]; simp
theorem lit_one : One litT (fun x => litB x = true) 46 := by
  intro x y r s hx hy hr hs h
  have r1 := stE_stL isL_46 hr
  have s1 := stE_stL isL_46 hs
  have r2 := stE_no40 (by decide) hr
  have s2 := stE_no40 (by decide) hs
  have aC : ∀ {p : ByteArray} {ts : List T} {z : List UInt8}, atomB p ts = true → stE 46 z → ∃ v, atomT p ts ++ z = p.data.toList ++ v ∧ nameB p = true ∧ stL v ∧ ∀ w, v ≠ 32 :: w := by
    intro p ts z ha hz
    refine ⟨colT ts ++ z, by unfold atomT; simp, by unfold atomB at ha; simp only [Bool.and_eq_true] at ha; exact ha.1.1, by rw [colT_colG]; exact colG_stL (stE_stL isL_46 hz), fun w e => ?_⟩
    unfold colT at e
    split at e
    · obtain ⟨c, l, rfl, rfl | rfl⟩ := hz <;> (injection e with e _; revert e; decide)
    · injection e with e _; revert e; decide
  cases LF_of hx with
  | pos p ts ha =>
    rw [litT_pos] at h
    cases LF_of hy with
    | pos q us hb =>
      rw [litT_pos] at h
      obtain ⟨rfl, rfl, e⟩ := atom_inj ha hb r1 s1 r2 s2 h
      exact ⟨rfl, e⟩
    | no q us hb => rw [litT_no] at h; exact absurd h (atom_not ha r1)
    | cmp n l u n1 n6 hl hu =>
      rw [litT_cmp] at h
      obtain ⟨m, hX⟩ := X_of hl
      obtain ⟨v, e1, e2, e3, e4⟩ := aC ha hr
      rw [e1] at h
      exact absurd h.symm (cmp_atom hX e2 e3 e4)
  | no p ts ha =>
    rw [litT_no] at h
    cases LF_of hy with
    | pos q us hb => rw [litT_pos] at h; exact absurd h.symm (atom_not hb s1)
    | no q us hb =>
      rw [litT_no] at h
      have h := List.append_cancel_left h
      injection h with _ h
      obtain ⟨rfl, rfl, e⟩ := atom_inj ha hb r1 s1 r2 s2 h
      exact ⟨rfl, e⟩
    | cmp n l u n1 n6 hl hu =>
      rw [litT_cmp] at h
      obtain ⟨m, hX⟩ := X_of hl
      exact absurd h.symm (cmp_not hX)
  | cmp n l u n1 n6 hl hu =>
    rw [litT_cmp] at h
    cases LF_of hy with
    | pos q us hb =>
      rw [litT_pos] at h
      obtain ⟨m, hX⟩ := X_of hl
      obtain ⟨v, e1, e2, e3, e4⟩ := aC hb hs
      rw [e1] at h
      exact absurd h (cmp_atom hX e2 e3 e4)
    | no q us hb =>
      rw [litT_no] at h
      obtain ⟨m, hX⟩ := X_of hl
      exact absurd h (cmp_not hX)
    | cmp n' l' u' n1' n6' hl' hu' =>
      rw [litT_cmp] at h
      obtain ⟨e1, e2⟩ := expr_inj hl hl' (relT_st n1 n6 _) (relT_st n1' n6' _) h
      have e2 : 32 :: (relT n ++ (32 :: (textE 8 u ++ r))) = 32 :: (relT n' ++ (32 :: (textE 8 u' ++ s))) := by simpa using e2
      injection e2 with _ e2
      obtain ⟨e3, e4⟩ := relT_inj n1 n6 n1' n6' e2
      obtain ⟨e5, e6⟩ := expr_inj hu hu' (stE_st isL_46 (by decide) hr) (stE_st isL_46 (by decide) hs) e4
      subst e1 e3 e5
      exact ⟨rfl, e6⟩
inductive AF : A5 → Prop
  | term (t : T) : namedB t = true → AF ⟨0, t⟩
  | agg (n : Nat) (v : ByteArray) : 1 ≤ n → n ≤ 4 → v.data.toList.all isL = true → AF ⟨n, ⟨v, V0⟩⟩
theorem AF_of {x : A5} (h : argB x = true) : AF x := by
  obtain ⟨g, t⟩ := x
  unfold argB at h
  simp only at h
  split at h
  · rename_i e; subst e; exact .term t h
  · split at h
    · rename_i e
      subst e
      rw [of_decide_eq_true h]
      exact .agg 1 noS (by omega) (by omega) (by decide)
    · split at h
      · rename_i e
        simp only [Bool.and_eq_true, Bool.not_eq_true', decide_eq_false_iff_not] at h
        obtain ⟨h1, h2⟩ := h
        unfold namedB termB at h1
        rw [if_neg h2] at h1
        simp only [Bool.and_eq_true, Bool.not_eq_true', decide_eq_false_iff_not, Bool.or_eq_true, decide_eq_true_eq] at h1
        obtain ⟨h3, h4, h5⟩ := h1
        obtain ⟨v, a⟩ := t
        simp only at h3 h4 h5
        subst h4
        obtain ⟨n, rfl⟩ : ∃ n : Nat, g = n := ⟨g.toNat, by omega⟩
        exact .agg n v (by omega) (by omega) (var_form (h5.resolve_left h3)).1
      · cases h
theorem aggT_kw {n : Nat} (h1 : 1 ≤ n) (h2 : n ≤ 4) : aggT n ∈ keywords ∧ (aggT n).all isL = true := by
  have : n = 1 ∨ n = 2 ∨ n = 3 ∨ n = 4 := by omega
  rcases this with rfl | rfl | rfl | rfl <;> exact ⟨by decide, by decide⟩
theorem argT_term (t : T) : argT ⟨0, t⟩ = termT t := by unfold argT; rw [if_pos rfl]
theorem argT_agg {n : Nat} (h : 1 ≤ n) (v : ByteArray) (r : List UInt8) : argT ⟨n, ⟨v, V0⟩⟩ ++ r = aggT n ++ (40 :: (v.data.toList ++ (41 :: r))) := by
  unfold argT
  rw [if_neg (by simp only; omega)]
  simp
theorem arg_one : One argT (fun x => argB x = true) 41 := by
  intro x y r s hx hy hr hs h
  cases AF_of hx with
  | term t ht =>
    rw [argT_term] at h
    cases AF_of hy with
    | term u hu =>
      rw [argT_term] at h
      obtain ⟨rfl, e⟩ := term_inj (named_term ht) (named_term hu) (stE_stL isL_41 hr) (stE_stL isL_41 hs) h
      exact ⟨rfl, e⟩
    | agg n v h1 h2 hv =>
      rw [argT_agg h1] at h
      exact absurd h (term_kw (named_term ht) (aggT_kw h1 h2).1 (aggT_kw h1 h2).2 (stE_stL isL_41 hr) (stL_cons isL_40))
  | agg n v h1 h2 hv =>
    rw [argT_agg h1] at h
    cases AF_of hy with
    | term u hu =>
      rw [argT_term] at h
      exact absurd h.symm (term_kw (named_term hu) (aggT_kw h1 h2).1 (aggT_kw h1 h2).2 (stE_stL isL_41 hs) (stL_cons isL_40))
    | agg n' v' h1' h2' hv' =>
      rw [argT_agg h1'] at h
      obtain ⟨e1, e2⟩ := word_inj (aggT_kw h1 h2).2 (aggT_kw h1' h2').2 (stL_cons isL_40) (stL_cons isL_40) h
      have e3 := (by decide : ∀ a b : Fin 5, 1 ≤ a.val → 1 ≤ b.val → aggT a.val = aggT b.val → a = b) ⟨n, by omega⟩ ⟨n', by omega⟩ h1 h1' e1
      have e3 := congrArg Fin.val e3
      simp only at e3
      injection e2 with _ e2
      obtain ⟨e4, e5⟩ := word_inj hv hv' (stL_cons isL_41) (stL_cons isL_41) e2
      injection e5 with _ e5
      rw [e3, bytes_inj e4]
      exact ⟨rfl, e5⟩
/-- rules: the same name, the same columns, the same literals -/
structure RSame (r s : R3) : Prop where
  pr : r.pr = s.pr
  hd : r.hd = s.hd
  bd : r.bd.map XL.x = s.bd.map XL.x
theorem txB_map (l : List XL) : txB l = (l.map XL.x).map litT := by unfold txB; rw [List.map_map]; rfl
theorem bodyT_map (l : List XL) : bodyT l = if (l.map XL.x).length = 0 then [] else [32, 58, 45, 32] ++ jn ((l.map XL.x).map litT) := by
  unfold bodyT
  rw [txB_map, List.length_map]
  have : upG ((l.map XL.x).map litT) l.length = jn ((l.map XL.x).map litT) := by rw [← upG_all, List.length_map, List.length_map]
  rw [this]
theorem rule_inj {r s : R3} (n1 : nameB r.pr = true) (n2 : nameB s.pr = true) (a1 : r.hd.all argB = true) (a2 : s.hd.all argB = true) (b1 : r.bd.all (fun y => litB y.x) = true) (b2 : s.bd.all (fun y => litB y.x) = true) (h : ruleT r = ruleT s) : RSame r s := by
  have bf : ∀ q : R3, ∃ c l, bodyT q.bd ++ [46] = c :: l ∧ (c = 32 ∨ c = 46) := by
    intro q
    unfold bodyT
    split
    · exact ⟨_, _, rfl, .inr rfl⟩
    · exact ⟨_, _, rfl, .inl rfl⟩
  have bL : ∀ q : R3, stL (bodyT q.bd ++ [46]) := by
    intro q
    obtain ⟨c, l, e, hc⟩ := bf q
    rw [e]
    rcases hc with rfl | rfl
    · exact stL_cons isL_32
    · exact stL_cons isL_46
  have b4 : ∀ q : R3, no40 (bodyT q.bd ++ [46]) := by
    intro q x e
    obtain ⟨c, l, e2, hc⟩ := bf q
    rw [e2] at e
    injection e with e _
    rcases hc with rfl | rfl <;> (revert e; decide)
  unfold ruleT at h
  obtain ⟨e1, e2⟩ := word_inj (name_form n1).1 (name_form n2).1 (colG_stL (bL r)) (colG_stL (bL s)) h
  unfold txA at e2
  obtain ⟨e3, e4⟩ := colG_inj arg_one (List.all_eq_true.1 a1) (List.all_eq_true.1 a2) (b4 r) (b4 s) e2
  refine ⟨bytes_inj e1, e3, ?_⟩
  have m1 : ∀ x ∈ r.bd.map XL.x, litB x = true := by
    intro x hx
    obtain ⟨y, hy, rfl⟩ := List.mem_map.1 hx
    exact List.all_eq_true.1 b1 y hy
  have m2 : ∀ x ∈ s.bd.map XL.x, litB x = true := by
    intro x hx
    obtain ⟨y, hy, rfl⟩ := List.mem_map.1 hx
    exact List.all_eq_true.1 b2 y hy
  rw [bodyT_map, bodyT_map] at e4
  generalize r.bd.map XL.x = xs at *
  generalize s.bd.map XL.x = ys at *
  by_cases a : xs.length = 0
  · obtain rfl := List.length_eq_zero_iff.1 a
    by_cases b : ys.length = 0
    · exact (List.length_eq_zero_iff.1 b).symm
    · rw [if_pos a, if_neg b] at e4
      injection e4 with e5 _
      exact absurd e5 (by decide)
  · by_cases b : ys.length = 0
    · rw [if_neg a, if_pos b] at e4
      injection e4 with e5 _
      exact absurd e5 (by decide)
    · rw [if_neg a, if_neg b, List.append_assoc, List.append_assoc] at e4
      have e5 := List.append_cancel_left e4
      exact (jn_inj (by decide) lit_one xs ys [] [] (fun q => a (by rw [q]; rfl)) (fun q => b (by rw [q]; rfl)) m1 m2 e5).1
theorem rule_same {r s : R3} (h : RSame r s) : ruleT r = ruleT s := by
  unfold ruleT
  rw [h.pr, h.hd, bodyT_map, bodyT_map, h.bd]
/-- facts: name and values -/
def XF.bare (y : XF) : ByteArray × List V := (y.pr, y.vs)
theorem lineF_eq (y : XF) (r : List UInt8) : lineF y ++ r = y.pr.data.toList ++ (colG (y.vs.map showB) ++ (46 :: 10 :: r)) := by unfold lineF factT bareT txV; simp
theorem facts_inj : ∀ {l m : List XF}, okF l = true → okF m = true → txtF l = txtF m → l.map XF.bare = m.map XF.bare
  | [], [], _, _, _ => rfl
  | [], y :: m, _, h2, h => by
    unfold okF at h2
    simp only [List.all_cons, Bool.and_eq_true] at h2
    unfold factB at h2
    simp only [Bool.and_eq_true] at h2
    obtain ⟨_, _, c, l, e, _⟩ := name_form h2.1.1
    unfold txtF at h
    rw [List.flatMap_cons, lineF_eq, e] at h
    cases h
  | x :: l, [], h1, _, h => by
    unfold okF at h1
    simp only [List.all_cons, Bool.and_eq_true] at h1
    unfold factB at h1
    simp only [Bool.and_eq_true] at h1
    obtain ⟨_, _, c, l, e, _⟩ := name_form h1.1.1
    unfold txtF at h
    rw [List.flatMap_cons, lineF_eq, e] at h
    cases h
  | x :: l, y :: m, h1, h2, h => by
    unfold okF at h1 h2
    simp only [List.all_cons, Bool.and_eq_true] at h1 h2
    have f1 := h1.1
    have f2 := h2.1
    unfold factB at f1 f2
    simp only [Bool.and_eq_true] at f1 f2
    unfold txtF at h
    rw [List.flatMap_cons, List.flatMap_cons, lineF_eq, lineF_eq] at h
    have n40 : ∀ z : List UInt8, no40 (46 :: 10 :: z) := fun z x e => by injection e with e _; revert e; decide
    obtain ⟨e1, e2⟩ := word_inj (name_form f1.1).1 (name_form f2.1).1 (colG_stL (stL_cons isL_46)) (colG_stL (stL_cons isL_46)) h
    obtain ⟨e3, e4⟩ := colG_inj show_one (List.all_eq_true.1 f1.2.2) (List.all_eq_true.1 f2.2.2) (n40 _) (n40 _) e2
    injection e4 with _ e4
    injection e4 with _ e4
    have := facts_inj (l := l) (m := m) h1.2 h2.2 e4
    simp only [List.map_cons, this, XF.bare, bytes_inj e1, e3]
theorem facts_same : ∀ {l m : List XF}, l.map XF.bare = m.map XF.bare → txtF l = txtF m
  | [], [], _ => rfl
  | [], y :: m, h => by cases h
  | x :: l, [], h => by cases h
  | x :: l, y :: m, h => by
    simp only [List.map_cons, List.cons.injEq] at h
    obtain ⟨h1, h2⟩ := h
    unfold XF.bare at h1
    injection h1 with h3 h4
    have := facts_same h2
    unfold txtF at this ⊢
    rw [List.flatMap_cons, List.flatMap_cons, this]
    unfold lineF factT bareT
    rw [h3, h4]
theorem query_inj {p q : ByteArray} {ts us : List T} (h1 : atomB p ts = true) (h2 : atomB q us = true) (h : atomT p ts ++ [63] = atomT q us ++ [63]) : p = q ∧ ts = us := by
  have n40 : no40 [63] := fun x e => by injection e with e _; revert e; decide
  have sL : stL [63] := stL_cons (by decide)
  obtain ⟨e1, e2, _⟩ := atom_inj h1 h2 sL sL n40 n40 h
  exact ⟨e1, e2⟩
end PU
end Go.Proofs.YtikjphfeeljhbaaGreatDoor
