import Derived.Test.YtjemaijokgcjnaaDoorValueShow2
import Derived.Lib.ParseIntB
namespace Go.Proofs.YtjemaijokgcjnaaDoor
set_option linter.unusedVariables false
set_option linter.unusedSimpArgs false

/-- the text of a value as it may be -/
def showB (v : V) : List UInt8 := if v.k = 1 then Lib.itoa v.n else if nameB v.s then v.s.data.toList else (quoteQ v.s).data.toList
def termT (t : T) : List UInt8 := if t.v = noS then showB t.a else t.v.data.toList
namespace PU
theorem lettersB_at {s : ByteArray} : ∀ {n : Nat}, lettersB s n = true → ∀ {k : Nat}, k < n → letterB (byteAt s k) = true
  | 0, _, k, hk => absurd hk (by omega)
  | n + 1, h, k, hk => by
    simp only [lettersB, Bool.and_eq_true] at h
    by_cases e : k = n
    · rw [e]; exact h.2
    · exact lettersB_at h.1 (by omega)
/-- every byte of a text lies from 32 to 126 -/
def plS (l : List UInt8) : Prop := ∀ c ∈ l, 32 ≤ c.toNat ∧ c.toNat ≤ 126
theorem plS_nil : plS [] := fun c h => by cases h
theorem plS_app {a b : List UInt8} (h1 : plS a) (h2 : plS b) : plS (a ++ b) := fun c h => by
  rcases List.mem_append.1 h with h | h
  · exact h1 c h
  · exact h2 c h
theorem plS_lit {l : List UInt8} (h : l.all (fun c => decide (32 ≤ c.toNat) && decide (c.toNat ≤ 126)) = true) : plS l := fun c hc => by
  have := List.all_eq_true.1 h c hc
  simpa using this
theorem letterB_pl {c : Int} (h : letterB c = true) : 32 ≤ c ∧ c ≤ 126 := by
  unfold letterB smallB capitalB digitB at h
  simp only [Bool.or_eq_true, decide_eq_true_eq, beq_iff_eq] at h
  omega
theorem letters_pl {s : ByteArray} (h : lettersB s s.size = true) : plS s.data.toList := fun c hc => by
  obtain ⟨i, hi, rfl⟩ := List.getElem_of_mem hc
  have hi2 : i < s.size := by rw [← len_toList]; exact hi
  have h1 := letterB_pl (lettersB_at h hi2)
  rw [byteAt_eq hi2] at h1
  have e : s.data.toList[i] = s[i] := by simp [ByteArray.getElem_eq_getElem_data]
  rw [e]
  omega
theorem name_pl {s : ByteArray} (h : nameB s = true) : plS s.data.toList := by
  unfold nameB at h
  simp only [Bool.and_eq_true] at h
  exact letters_pl h.2
theorem var_pl {s : ByteArray} (h : varB s = true) : plS s.data.toList := by
  unfold varB wordB at h
  simp only [Bool.and_eq_true] at h
  exact letters_pl h.2
theorem hexU_pl : ∀ n : Fin 16, 32 ≤ (hexU n.val).toNat ∧ (hexU n.val).toNat ≤ 126 := by decide
theorem piece_pl (c : UInt8) : plS (pieceQ c) := by
  have hc := c.toNat_lt
  unfold pieceQ
  split
  · exact plS_lit (by decide)
  · split
    · rename_i h
      intro x hx
      simp only [List.mem_cons, List.not_mem_nil, or_false] at hx
      rcases hx with rfl | rfl
      · decide
      · omega
    · split
      · rename_i h
        intro x hx
        simp only [List.mem_cons, List.not_mem_nil, or_false] at hx
        subst hx
        exact h
      · intro x hx
        simp only [List.mem_cons, List.not_mem_nil, or_false] at hx
        rcases hx with rfl | rfl | rfl | rfl
        · decide
        · decide
        · exact hexU_pl ⟨c.toNat / 16, by omega⟩
        · exact hexU_pl ⟨c.toNat % 16, by omega⟩
theorem quote_pl (s : ByteArray) : plS (quoteQ s).data.toList := by
  unfold quoteQ
  show plS ((34 :: s.data.toList.flatMap pieceQ) ++ [34])
  refine plS_app ?_ (plS_lit (by decide))
  intro c hc
  rcases List.mem_cons.1 hc with rfl | hc
  · decide
  · obtain ⟨x, _, hx⟩ := List.mem_flatMap.1 hc
    exact piece_pl x c hx
theorem digit_pl : ∀ n : Fin 10, 32 ≤ (UInt8.ofNat (48 + n.val)).toNat ∧ (UInt8.ofNat (48 + n.val)).toNat ≤ 126 := by decide
theorem dec_pl (u : Nat) : plS (Lib.decDigits u) := by
  induction u using Nat.strongRecOn with
  | _ u ih =>
    rw [Lib.decDigits]
    split
    · rename_i h
      intro c hc
      rw [List.mem_singleton.1 hc]
      exact digit_pl ⟨u, h⟩
    · refine plS_app (ih _ (by omega)) ?_
      intro c hc
      rw [List.mem_singleton.1 hc]
      exact digit_pl ⟨u % 10, by omega⟩
theorem itoa_pl (n : Int) : plS (Lib.itoa n) := by
  unfold Lib.itoa
  split
  · exact plS_app (a := [45]) (plS_lit (by decide)) (dec_pl _)
  · exact dec_pl _
theorem show_pl (v : V) : plS (showB v) := by
  unfold showB
  split
  · exact itoa_pl _
  · split
    · rename_i h
      exact name_pl h
    · exact quote_pl _
/-- a byte of a word -/
def isL (c : UInt8) : Bool := letterB (c.toNat : Int)
/-- what follows is no more of a word -/
def stL (r : List UInt8) : Prop := ∀ c x, r = c :: x → isL c = false
theorem stL_nil : stL [] := fun c x h => by cases h
theorem stL_cons {c : UInt8} {x : List UInt8} (h : isL c = false) : stL (c :: x) := fun d y e => by
  injection e with e1 e2
  rw [← e1]; exact h
theorem word_inj : ∀ {a b r s : List UInt8}, a.all isL = true → b.all isL = true → stL r → stL s → a ++ r = b ++ s → a = b ∧ r = s
  | [], [], r, s, _, _, _, _, h => ⟨rfl, h⟩
  | [], c :: b, r, s, _, hb, hr, _, h => by
    have := hr c (b ++ s) h
    simp only [List.all_cons, Bool.and_eq_true] at hb
    rw [hb.1] at this; cases this
  | c :: a, [], r, s, ha, _, _, hs, h => by
    have := hs c (a ++ r) h.symm
    simp only [List.all_cons, Bool.and_eq_true] at ha
    rw [ha.1] at this; cases this
  | c :: a, d :: b, r, s, ha, hb, hr, hs, h => by
    simp only [List.all_cons, Bool.and_eq_true] at ha hb
    simp only [List.cons_append, List.cons.injEq] at h
    obtain ⟨h1, h2⟩ := word_inj ha.2 hb.2 hr hs h.2
    exact ⟨by rw [h.1, h1], h2⟩
theorem bytes_inj {a b : ByteArray} (h : a.data.toList = b.data.toList) : a = b := by
  cases a; cases b; simp only at h; congr 1; exact Array.toList_inj.1 h
theorem letters_all {s : ByteArray} (h : lettersB s s.size = true) : s.data.toList.all isL = true := by
  rw [List.all_eq_true]
  intro c hc
  obtain ⟨i, hi, rfl⟩ := List.getElem_of_mem hc
  have hi2 : i < s.size := by rw [← len_toList]; exact hi
  have h1 := lettersB_at h hi2
  rw [byteAt_eq hi2] at h1
  have e : s.data.toList[i] = s[i] := by simp [ByteArray.getElem_eq_getElem_data]
  unfold isL
  rw [e]; exact h1
theorem head_byte {s : ByteArray} (h : s.size ≠ 0) : ∃ c l, s.data.toList = c :: l ∧ byteAt s 0 = (c.toNat : Int) := by
  have h0 : 0 < s.size := by omega
  cases e : s.data.toList with
  | nil => rw [← len_toList, e] at h0; cases h0
  | cons c l =>
    refine ⟨c, l, rfl, ?_⟩
    rw [byteAt_eq h0]
    have : s[0] = s.data.toList[0]'(by rw [len_toList]; exact h0) := by simp [ByteArray.getElem_eq_getElem_data]
    rw [this]
    simp [e]
/-- a name: a word that opens with a small letter, no keyword -/
theorem name_form {s : ByteArray} (h : nameB s = true) : s.data.toList.all isL = true ∧ s.data.toList ∉ keywords ∧ ∃ c l, s.data.toList = c :: l ∧ 97 ≤ c.toNat ∧ c.toNat ≤ 122 := by
  unfold nameB at h
  simp only [Bool.and_eq_true, decide_eq_true_eq, Bool.not_eq_true'] at h
  obtain ⟨⟨⟨⟨h1, h2⟩, h3⟩, h4⟩, h5⟩ := h
  refine ⟨letters_all h5, ?_, ?_⟩
  · unfold kwB at h4
    rw [ByteArray.toList_eq] at h4
    exact of_decide_eq_false h4
  · obtain ⟨c, l, e, hb⟩ := head_byte h1
    refine ⟨c, l, e, ?_⟩
    unfold smallB at h3
    rw [hb] at h3
    have := of_decide_eq_true h3
    omega
theorem var_form {s : ByteArray} (h : varB s = true) : s.data.toList.all isL = true ∧ ∃ c l, s.data.toList = c :: l ∧ 65 ≤ c.toNat ∧ c.toNat ≤ 90 := by
  unfold varB wordB at h
  simp only [Bool.and_eq_true, decide_eq_true_eq] at h
  obtain ⟨⟨⟨h1, h2⟩, h3⟩, h5⟩ := h
  refine ⟨letters_all h5, ?_⟩
  obtain ⟨c, l, e, hb⟩ := head_byte h1
  refine ⟨c, l, e, ?_⟩
  rw [hb] at h3
  omega
/-- digits -/
def digV (a : Nat) (c : UInt8) : Nat := a * 10 + (c.toNat - 48)
theorem digU_nat (n : Nat) (h : n < 10) : (UInt8.ofNat (48 + n)).toNat = 48 + n := by
  rw [UInt8.toNat_ofNat']; omega
theorem dec_val (u : Nat) : (Lib.decDigits u).foldl digV 0 = u := by
  induction u using Nat.strongRecOn with
  | _ u ih =>
    rw [Lib.decDigits]
    split
    · rename_i h
      simp only [List.foldl_cons, List.foldl_nil, digV, digU_nat u h]
      omega
    · rename_i h
      rw [List.foldl_append, ih _ (by omega)]
      simp only [List.foldl_cons, List.foldl_nil, digV, digU_nat (u % 10) (by omega)]
      omega
theorem dec_inj {a b : Nat} (h : Lib.decDigits a = Lib.decDigits b) : a = b := by rw [← dec_val a, ← dec_val b, h]
theorem isL_digit {n : Nat} (h : n < 10) : isL (UInt8.ofNat (48 + n)) = true := by
  unfold isL letterB digitB
  rw [digU_nat n h]
  simp only [Bool.or_eq_true, decide_eq_true_eq]
  exact .inl (.inr (by omega))
theorem dec_all (u : Nat) : (Lib.decDigits u).all isL = true := by
  induction u using Nat.strongRecOn with
  | _ u ih =>
    rw [Lib.decDigits]
    split
    · rename_i h
      simp only [List.all_cons, List.all_nil, Bool.and_true]
      exact isL_digit h
    · rename_i h
      rw [List.all_append, ih _ (by omega)]
      simp only [List.all_cons, List.all_nil, Bool.and_true, Bool.true_and]
      exact isL_digit (by omega)
theorem dec_head (u : Nat) : ∃ c l, Lib.decDigits u = c :: l ∧ 48 ≤ c.toNat ∧ c.toNat ≤ 57 := by
  induction u using Nat.strongRecOn with
  | _ u ih =>
    rw [Lib.decDigits]
    split
    · rename_i h
      exact ⟨_, _, rfl, by rw [digU_nat u h]; omega⟩
    · rename_i h
      obtain ⟨c, l, e, hc⟩ := ih (u / 10) (by omega)
      rw [e]
      exact ⟨c, _, rfl, hc⟩
/-- quoted texts -/
theorem hexU_inj : ∀ a b : Fin 16, hexU a.val = hexU b.val → a = b := by decide
theorem piece_cons (c : UInt8) : ∃ x l, pieceQ c = x :: l ∧ x ≠ 34 := by
  unfold pieceQ
  split
  · exact ⟨_, _, rfl, by decide⟩
  · split
    · exact ⟨_, _, rfl, by decide⟩
    · rename_i h1 h2
      split
      · exact ⟨_, _, rfl, fun e => h2 (.inl (by rw [e]; rfl))⟩
      · exact ⟨_, _, rfl, by decide⟩
theorem piece_cases (c : UInt8) : (c.toNat = 10 ∧ pieceQ c = [92, 110]) ∨ ((c.toNat = 34 ∨ c.toNat = 92) ∧ pieceQ c = [92, c]) ∨ ((c.toNat ≠ 10 ∧ c.toNat ≠ 92) ∧ pieceQ c = [c]) ∨ (c.toNat ≠ 10 ∧ pieceQ c = [92, 120, hexU (c.toNat / 16), hexU (c.toNat % 16)]) := by
  unfold pieceQ
  split
  · rename_i h; exact .inl ⟨h, rfl⟩
  · rename_i h
    split
    · rename_i h2; exact .inr (.inl ⟨h2, rfl⟩)
    · rename_i h2
      split
      · exact .inr (.inr (.inl ⟨⟨h, by omega⟩, rfl⟩))
      · exact .inr (.inr (.inr ⟨h, rfl⟩))
theorem piece_inj {c d : UInt8} {x y : List UInt8} (h : pieceQ c ++ x = pieceQ d ++ y) : c = d ∧ x = y := by
  have toN : ∀ {a b : UInt8}, a.toNat = b.toNat → a = b := fun h => UInt8.toNat_inj.1 h
  have hc := c.toNat_lt
  have hd := d.toNat_lt
  have eqN : ∀ {a b : UInt8}, a = b → a.toNat = b.toNat := fun h => by rw [h]
  have n92 : (92 : UInt8).toNat = 92 := rfl
  have n110 : (110 : UInt8).toNat = 110 := rfl
  have n120 : (120 : UInt8).toNat = 120 := rfl
  rcases piece_cases c with ⟨c1, e1⟩ | ⟨c1, e1⟩ | ⟨c1, e1⟩ | ⟨c1, e1⟩ <;> rcases piece_cases d with ⟨d1, e2⟩ | ⟨d1, e2⟩ | ⟨d1, e2⟩ | ⟨d1, e2⟩ <;> rw [e1, e2] at h
  · injection h with h1 h2; injection h2 with h3 h4; exact ⟨toN (by omega), h4⟩
  · injection h with h1 h2; injection h2 with h3 h4; have := eqN h3; omega
  · injection h with h1 h2; have := eqN h1; omega
  · injection h with h1 h2; injection h2 with h3 h4; have := eqN h3; omega
  · injection h with h1 h2; injection h2 with h3 h4; have := eqN h3; omega
  · injection h with h1 h2; injection h2 with h3 h4; exact ⟨h3, h4⟩
  · injection h with h1 h2; have := eqN h1; omega
  · injection h with h1 h2; injection h2 with h3 h4; have := eqN h3; omega
  · injection h with h1 h2; have := eqN h1; omega
  · injection h with h1 h2; have := eqN h1; omega
  · injection h with h1 h2; exact ⟨h1, h2⟩
  · injection h with h1 h2; have := eqN h1; omega
  · injection h with h1 h2; injection h2 with h3 h4; have := eqN h3; omega
  · injection h with h1 h2; injection h2 with h3 h4; have := eqN h3; omega
  · injection h with h1 h2; have := eqN h1; omega
  · injection h with h1 h2; injection h2 with h3 h4; injection h4 with h5 h6; injection h6 with h7 h8
    have q := hexU_inj ⟨c.toNat / 16, by omega⟩ ⟨d.toNat / 16, by omega⟩ h5
    have m := hexU_inj ⟨c.toNat % 16, by omega⟩ ⟨d.toNat % 16, by omega⟩ h7
    have q' := congrArg Fin.val q
    have m' := congrArg Fin.val m
    simp only at q' m'
    exact ⟨toN (by omega), h8⟩
theorem pieces_inj : ∀ {a b x y : List UInt8}, a.flatMap pieceQ ++ 34 :: x = b.flatMap pieceQ ++ 34 :: y → a = b ∧ x = y
  | [], [], x, y, h => ⟨rfl, by simpa using h⟩
  | [], d :: b, x, y, h => by
    obtain ⟨z, l, e, hz⟩ := piece_cons d
    simp only [List.flatMap_nil, List.nil_append, List.flatMap_cons, e, List.cons_append, List.cons.injEq] at h
    exact absurd h.1.symm hz
  | c :: a, [], x, y, h => by
    obtain ⟨z, l, e, hz⟩ := piece_cons c
    simp only [List.flatMap_nil, List.nil_append, List.flatMap_cons, e, List.cons_append, List.cons.injEq] at h
    exact absurd h.1 hz
  | c :: a, d :: b, x, y, h => by
    simp only [List.flatMap_cons, List.append_assoc] at h
    obtain ⟨h1, h2⟩ := piece_inj h
    obtain ⟨h3, h4⟩ := pieces_inj h2
    exact ⟨by rw [h1, h3], h4⟩
/-- terms as they may be, by the class of their first byte -/
def cls (c : UInt8) : Nat := if 65 ≤ c.toNat ∧ c.toNat ≤ 90 then 1 else if c.toNat = 95 then 2 else if 48 ≤ c.toNat ∧ c.toNat ≤ 57 then 3 else if c.toNat = 45 then 4 else if 97 ≤ c.toNat ∧ c.toNat ≤ 122 then 5 else if c.toNat = 34 then 6 else 0
inductive TF : Nat → T → Prop
  | var (v : ByteArray) : varB v = true → TF 1 ⟨v, V0⟩
  | blank : TF 2 ⟨blankS, V0⟩
  | num (n : Int) : 0 ≤ n → TF 3 ⟨noS, ⟨1, n, noS⟩⟩
  | neg (n : Int) : n < 0 → TF 4 ⟨noS, ⟨1, n, noS⟩⟩
  | name (s : ByteArray) : nameB s = true → TF 5 ⟨noS, ⟨2, 0, s⟩⟩
  | quo (s : ByteArray) : nameB s = false → TF 6 ⟨noS, ⟨2, 0, s⟩⟩
theorem noS_of {s : ByteArray} (h : s.toList = []) : s = noS := bytes_inj (by rw [ByteArray.toList_eq] at h; rw [h]; rfl)
theorem TF_of {t : T} (h : termB t = true) : ∃ k, TF k t := by
  obtain ⟨v, k, n, s⟩ := t
  unfold termB at h
  simp only at h
  split at h
  · rename_i hv
    subst hv
    unfold okV chkV chk at h
    simp only at h
    by_cases c : k = 1 ∧ s.toList = [] ∨ k = 2 ∧ n = 0 ∧ (s.size : Int) ≤ 200
    · rcases c with ⟨rfl, hs⟩ | ⟨rfl, rfl, _⟩
      · rw [noS_of hs]
        by_cases hn : 0 ≤ n
        · exact ⟨3, .num n hn⟩
        · exact ⟨4, .neg n (by omega)⟩
      · cases e : nameB s
        · exact ⟨6, .quo s e⟩
        · exact ⟨5, .name s e⟩
    · rw [if_neg c] at h; cases h
  · simp only [Bool.and_eq_true, Bool.or_eq_true, decide_eq_true_eq] at h
    obtain ⟨h1, h2⟩ := h
    rw [h1]
    rcases h2 with rfl | h2
    · exact ⟨2, .blank⟩
    · exact ⟨1, .var v h2⟩
theorem termT_no (a : V) : termT ⟨noS, a⟩ = showB a := by unfold termT; rw [if_pos rfl]
theorem noS_size : noS.size = 0 := rfl
theorem var_ne {v : ByteArray} (h : varB v = true) : v ≠ noS := fun e => by
  obtain ⟨_, c, l, e2, _⟩ := var_form h
  rw [e] at e2; cases e2
theorem termT_var {v : ByteArray} (h : varB v = true) : termT ⟨v, V0⟩ = v.data.toList := by unfold termT; rw [if_neg (var_ne h)]
theorem termT_blank : termT ⟨blankS, V0⟩ = [95] := by unfold termT; rw [if_neg (by decide)]; rfl
theorem termT_num {n : Int} (h : 0 ≤ n) : termT ⟨noS, ⟨1, n, noS⟩⟩ = Lib.decDigits n.toNat := by rw [termT_no]; unfold showB Lib.itoa; rw [if_pos rfl, if_neg (by simp only; omega)]
theorem termT_neg {n : Int} (h : n < 0) : termT ⟨noS, ⟨1, n, noS⟩⟩ = 45 :: Lib.decDigits n.natAbs := by rw [termT_no]; unfold showB Lib.itoa; rw [if_pos rfl, if_pos (by simp only; omega)]
theorem termT_name {s : ByteArray} (h : nameB s = true) : termT ⟨noS, ⟨2, 0, s⟩⟩ = s.data.toList := by rw [termT_no]; unfold showB; rw [if_neg (by simp), if_pos h]
theorem termT_quo {s : ByteArray} (h : nameB s = false) : termT ⟨noS, ⟨2, 0, s⟩⟩ = 34 :: (s.data.toList.flatMap pieceQ ++ [34]) := by
  rw [termT_no]; unfold showB; rw [if_neg (by simp), if_neg (by simp [h])]; unfold quoteQ; simp
theorem TF.head {k : Nat} {t : T} (h : TF k t) : ∃ c l, termT t = c :: l ∧ cls c = k := by
  cases h with
  | var v hv =>
    obtain ⟨_, c, l, e, h1⟩ := var_form hv
    rw [termT_var hv]
    exact ⟨c, l, e, by unfold cls; rw [if_pos h1]⟩
  | blank => rw [termT_blank]; exact ⟨_, _, rfl, rfl⟩
  | num n hn =>
    obtain ⟨c, l, e, h1⟩ := dec_head n.toNat
    rw [termT_num hn]
    exact ⟨c, l, e, by unfold cls; rw [if_neg (by omega), if_neg (by omega), if_pos h1]⟩
  | neg n hn => rw [termT_neg hn]; exact ⟨_, _, rfl, rfl⟩
  | name s hs =>
    obtain ⟨_, _, c, l, e, h1⟩ := name_form hs
    rw [termT_name hs]
    exact ⟨c, l, e, by unfold cls; rw [if_neg (by omega), if_neg (by omega), if_neg (by omega), if_neg (by omega), if_pos h1]⟩
  | quo s hs => rw [termT_quo hs]; exact ⟨_, _, rfl, rfl⟩
theorem term_inj {t u : T} (ht : termB t = true) (hu : termB u = true) {r s : List UInt8} (hr : stL r) (hs : stL s) (h : termT t ++ r = termT u ++ s) : t = u ∧ r = s := by
  obtain ⟨k, ht⟩ := TF_of ht
  obtain ⟨j, hu⟩ := TF_of hu
  obtain ⟨c, l, e1, q1⟩ := ht.head
  obtain ⟨d, m, e2, q2⟩ := hu.head
  have hkj : k = j := by
    rw [e1, e2] at h
    injection h with h1 h2
    rw [← q1, ← q2, h1]
  subst hkj
  clear e1 q1 e2 q2
  cases ht with
  | var v hv => cases hu with
    | var v' hv' =>
      rw [termT_var hv, termT_var hv'] at h
      obtain ⟨h1, h2⟩ := word_inj (var_form hv).1 (var_form hv').1 hr hs h
      exact ⟨by rw [bytes_inj h1], h2⟩
  | blank => cases hu with
    | blank => rw [termT_blank] at h; injection h with h1 h2; exact ⟨rfl, h2⟩
  | num n hn => cases hu with
    | num m hm =>
      rw [termT_num hn, termT_num hm] at h
      obtain ⟨h1, h2⟩ := word_inj (dec_all _) (dec_all _) hr hs h
      have := dec_inj h1
      exact ⟨by rw [show n = m by omega], h2⟩
  | neg n hn => cases hu with
    | neg m hm =>
      rw [termT_neg hn, termT_neg hm] at h
      injection h with h0 h
      obtain ⟨h1, h2⟩ := word_inj (dec_all _) (dec_all _) hr hs h
      have := dec_inj h1
      exact ⟨by rw [show n = m by omega], h2⟩
  | name v hv => cases hu with
    | name v' hv' =>
      rw [termT_name hv, termT_name hv'] at h
      obtain ⟨h1, h2⟩ := word_inj (name_form hv).1 (name_form hv').1 hr hs h
      exact ⟨by rw [bytes_inj h1], h2⟩
  | quo v hv => cases hu with
    | quo v' hv' =>
      rw [termT_quo hv, termT_quo hv'] at h
      injection h with h0 h
      have h : v.data.toList.flatMap pieceQ ++ 34 :: r = v'.data.toList.flatMap pieceQ ++ 34 :: s := by simpa using h
      obtain ⟨h1, h2⟩ := pieces_inj h
      exact ⟨by rw [bytes_inj h1], h2⟩
/-- a keyword is no term's text -/
theorem term_kw {t : T} (ht : termB t = true) {w r s : List UInt8} (hw : w ∈ keywords) (hwl : w.all isL = true) (hr : stL r) (hs : stL s) : termT t ++ r ≠ w ++ s := by
  intro h
  have hw5 : ∃ c l, w = c :: l ∧ cls c = 5 := by
    simp only [keywords, List.mem_cons, List.not_mem_nil, or_false] at hw
    rcases hw with rfl | rfl | rfl | rfl | rfl | rfl | rfl | rfl <;> exact ⟨_, _, rfl, rfl⟩
  obtain ⟨d, m, e2, q2⟩ := hw5
  obtain ⟨k, ht⟩ := TF_of ht
  obtain ⟨c, l, e1, q1⟩ := ht.head
  have hkj : k = 5 := by
    rw [e1, e2] at h
    injection h with h1 h2
    rw [← q1, ← q2, h1]
  subst hkj
  cases ht with
  | name v hv =>
    rw [termT_name hv] at h
    obtain ⟨h1, h2⟩ := word_inj (name_form hv).1 hwl hr hs h
    exact (name_form hv).2.1 (h1 ▸ hw)
theorem show_inj {x y : V} (hx : okV x = true) (hy : okV y = true) (h : showB x = showB y) : x = y := by
  have tb : ∀ {v : V}, okV v = true → termB ⟨noS, v⟩ = true := fun hv => by unfold termB; rw [if_pos rfl]; exact hv
  have := term_inj (tb hx) (tb hy) stL_nil stL_nil (by rw [termT_no, termT_no, List.append_nil, List.append_nil]; exact h)
  injection this.1
theorem show_ne {x : V} (hx : okV x = true) : ∃ c l, showB x = c :: l ∧ 3 ≤ cls c := by
  have tb : termB ⟨noS, x⟩ = true := by unfold termB; rw [if_pos rfl]; exact hx
  obtain ⟨k, hk⟩ := TF_of tb
  obtain ⟨c, l, e, q⟩ := hk.head
  rw [termT_no] at e
  refine ⟨c, l, e, ?_⟩
  rw [q]
  cases hk with
  | var v hv => exact absurd rfl (var_ne hv)
  | num n hn => omega
  | neg n hn => omega
  | name s hs => omega
  | quo s hs => omega
/-- a numeral is read as its number -/
theorem parse_dec {M : Nat} (hM : M ≤ 18446744073709551615) : ∀ (u : Nat) (r : List UInt8), u ≤ M → Lib.parseUintM M 0 (Lib.decDigits u ++ r) = Lib.parseUintM M u r := by
  intro u
  induction u using Nat.strongRecOn with
  | _ u ih =>
    intro r hu
    rw [Lib.decDigits]
    split
    · rename_i h
      show Lib.parseUintM M 0 (UInt8.ofNat (48 + u) :: r) = _
      rw [Lib.parseUintM, digU_nat u h, if_pos (by omega), if_neg (by omega), if_neg (by omega)]
      congr 1
      omega
    · rename_i h
      rw [List.append_assoc, ih (u / 10) (by omega) _ (by omega)]
      show Lib.parseUintM M (u / 10) (UInt8.ofNat (48 + u % 10) :: r) = _
      rw [Lib.parseUintM, digU_nat (u % 10) (by omega), if_pos (by omega), if_neg (by omega), if_neg (by omega)]
      congr 1
      omega
theorem parse_itoa {n : Int} (h1 : -9223372036854775808 ≤ n) (h2 : n ≤ 9223372036854775807) : Lib.parseIntB 64 (Lib.itoa n) = .ok n := by
  have hd : ∀ u : Nat, u ≤ 18446744073709551615 → Lib.parseUintB 64 (Lib.decDigits u) = .ok u := fun u hu => by
    unfold Lib.parseUintB
    obtain ⟨c, l, e, _⟩ := dec_head u
    rw [if_neg (by rw [e]; simp)]
    have := parse_dec (M := 2 ^ 64 - 1) (by decide) u [] (by omega)
    rw [List.append_nil] at this
    rw [this, Lib.parseUintM]
  unfold Lib.itoa
  split
  · rename_i hn
    unfold Lib.parseIntB
    simp only
    rw [if_pos (.inr rfl), hd n.natAbs (by omega)]
    simp only
    rw [if_neg (by rintro ⟨h, _⟩; exact h rfl), if_neg (by omega), if_pos (by rfl)]
    congr 1
    omega
  · rename_i hn
    obtain ⟨c, l, e, hc⟩ := dec_head n.toNat
    have := hd n.toNat (by omega)
    rw [e] at this ⊢
    unfold Lib.parseIntB
    simp only
    rw [if_neg (by omega), this]
    simp only
    rw [if_neg (by omega), if_neg (by omega), if_neg (by omega)]
    congr 1
    omega
/-- a digit of base 16, a small one or a capital -/
def hxD (c : UInt8) : Option Nat := if 48 ≤ c.toNat ∧ c.toNat ≤ 57 then some (c.toNat - 48) else if 97 ≤ c.toNat ∧ c.toNat ≤ 102 then some (c.toNat - 87) else if 65 ≤ c.toNat ∧ c.toNat ≤ 70 then some (c.toNat - 55) else none
theorem hxD_lt {c : UInt8} {x : Nat} (h : hxD c = some x) : x < 16 := by
  unfold hxD at h
  split at h
  · injection h; omega
  · split at h
    · injection h; omega
    · split at h
      · injection h; omega
      · cases h
theorem hxD_hexU : ∀ n : Fin 16, hxD (hexU n.val) = some n.val := by decide
/-- the byte that a text begins with, and how many bytes tell it -/
def fstB (l : List UInt8) : Option (UInt8 × Nat) :=
  match l with
  | [] => none
  | c :: r => if c ≠ 92 then some (c, 1) else match r with
    | [] => none
    | d :: r => if d = 110 then some (10, 2) else if d = 34 ∨ d = 92 then some (d, 2) else if d = 120 then (match r with
      | x :: y :: _ => (match hxD x, hxD y with
        | some a, some b => some (UInt8.ofNat (a * 16 + b), 4)
        | _, _ => none)
      | _ => none) else none
theorem fstB_le {l : List UInt8} {c : UInt8} {n : Nat} (h : fstB l = some (c, n)) : 1 ≤ n ∧ n ≤ l.length := by
  unfold fstB at h
  split at h
  · cases h
  · split at h
    · injection h with h; injection h with _ h; subst h; simp
    · split at h
      · cases h
      · split at h
        · injection h with h; injection h with _ h; subst h; simp
        · split at h
          · injection h with h; injection h with _ h; subst h; simp
          · split at h
            · split at h
              · split at h
                · injection h with h; injection h with _ h; subst h; simp
                · cases h
              · cases h
            · cases h
def unq : Nat → List UInt8 → List UInt8 → Option (List UInt8)
  | 0, out, l => if l = [] then some out else none
  | f + 1, out, l => if l = [] then some out else match fstB l with
    | none => none
    | some (c, n) => unq f (out ++ [c]) (l.drop n)
theorem fst_piece (c : UInt8) (r : List UInt8) : fstB (pieceQ c ++ r) = some (c, (pieceQ c).length) := by
  have hc := c.toNat_lt
  rcases piece_cases c with ⟨h, e⟩ | ⟨h, e⟩ | ⟨h, e⟩ | ⟨h, e⟩
  · rw [e]
    have : c = 10 := UInt8.toNat_inj.1 h
    rw [this]
    rfl
  · rw [e]
    rcases h with h | h
    · have : c = 34 := UInt8.toNat_inj.1 h
      rw [this]
      rfl
    · have : c = 92 := UInt8.toNat_inj.1 h
      rw [this]
      rfl
  · rw [e]
    have : c ≠ 92 := fun q => h.2 (by rw [q]; rfl)
    show fstB (c :: r) = _
    unfold fstB
    simp only
    rw [if_pos this]
    rfl
  · rw [e]
    have h1 := hxD_hexU ⟨c.toNat / 16, by omega⟩
    have h2 := hxD_hexU ⟨c.toNat % 16, by omega⟩
    simp only at h1 h2
    show fstB (92 :: 120 :: hexU (c.toNat / 16) :: hexU (c.toNat % 16) :: r) = _
    unfold fstB
    simp only [h1, h2]
    rw [if_neg (by decide), if_neg (by decide), if_neg (by decide), if_pos trivial]
    have : UInt8.ofNat (c.toNat / 16 * 16 + c.toNat % 16) = c := by
      apply UInt8.toNat_inj.1
      rw [UInt8.toNat_ofNat']
      omega
    rw [this]
    rfl
theorem unq_pieces : ∀ (u out : List UInt8) (f : Nat), u.length ≤ f → unq f out (u.flatMap pieceQ) = some (out ++ u)
  | [], out, 0, _ => by simp [unq]
  | [], out, f + 1, _ => by simp [unq]
  | c :: u, out, 0, h => by simp at h
  | c :: u, out, f + 1, h => by
    have hne : ¬ (c :: u).flatMap pieceQ = [] := by
      obtain ⟨x, l, e, _⟩ := piece_cons c
      rw [List.flatMap_cons, e]
      simp
    rw [unq, if_neg hne, List.flatMap_cons, fst_piece]
    simp only
    rw [List.drop_left, unq_pieces u (out ++ [c]) f (by simpa using h)]
    simp
end PU
end Go.Proofs.YtjemaijokgcjnaaDoor
