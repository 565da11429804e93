import Derived.Test.YthkbcgedjecnlaaDoorLexLives
import Derived.Test.YthkbcgedjecnlaaDoorLexCutM
namespace Go.Proofs.YthkbcgedjecnlaaDoor
open Go.RowKit Go.Maps
set_option linter.unusedVariables false
set_option linter.unusedSimpArgs false
attribute [local go_sem ↓] Go.wp_at_zero Go.wp_at_succ

theorem toks_err : ∀ (N : Nat) (l : List UInt8) (a : Nat) {e : Int} {q : Nat}, l.length ≤ N → toks l a = .bad e q → e ≠ 0
  | 0, l, a, e, q, hN, h => by
    have : l = [] := List.length_eq_zero_iff.mp (by omega)
    subst this
    rw [toks_nil] at h; cases h
  | N + 1, [], a, e, q, hN, h => by rw [toks_nil] at h; cases h
  | N + 1, c :: r, a, e, q, hN, h => by
    simp at hN
    cases hb : blankU c with
    | true => rw [toks_blank r a hb] at h; exact toks_err N r _ hN h
    | false =>
      by_cases hc : c.toNat = 35
      · rw [toks_com r a hc] at h; exact toks_err N _ _ (by simp; omega) h
      · cases hf : firstT (c :: r) with
        | bad e' =>
          rw [toks_bad a hb hc hf] at h
          simp at h
          obtain ⟨rfl, rfl⟩ := h
          have := firstT_bad hf
          omega
        | tok t n =>
          rw [toks_tok a hb hc hf] at h
          have hn := firstT_pos hf
          cases hR : toks ((c :: r).drop n) (a + n) with
          | ok ts => rw [hR] at h; simp [Res.cons] at h
          | bad e' q' =>
            rw [hR] at h
            simp [Res.cons] at h
            obtain ⟨rfl, rfl⟩ := h
            exact toks_err N _ _ (by simp at hn ⊢; omega) hR
theorem flt_eql2 (a b c d : Int) (w : World) : (binOp .eql 25 (.agg #[.int .i64 a, .int .i64 b]) (.agg #[.int .i64 c, .int .i64 d])).run Tryd.prog w = .ok (.bool (decide (a = c ∧ b = d))) w := by
  by_cases h1 : a = c
  · by_cases h2 : b = d
    · subst h1 h2
      rw [decide_eq_true ⟨rfl, rfl⟩]
      go_simp
    · rw [decide_eq_false (fun h => h2 h.2)]
      go_simp
  · rw [decide_eq_false (fun h => h1 h.1)]
    go_simp
/-- Tokens, as a caller takes it -/
theorem Tokens_at {s : ByteArray} {R : Res} (hR : tokens s.data.toList = R) (w : World) (hg : Gl w) (hs : s.size ≤ maxLen) : Calls Tryd.prog 5 #[.string s] w fun e w' => ∃ a c, e = .returned (.tuple #[.slice a R.ts.length c, R.flt]) ∧ TL w' a R.ts ∧ R.ts.length ≤ maxLen ∧ Below w.heap.size w w' := by
  refine (Tokens_any s w hg hs).mono fun e w' => ?_
  rw [hR]
  rintro ⟨sv, rfl, hown, hb⟩
  obtain ⟨a, c, rfl, hm, htl⟩ := TL_of_own hown
  exact ⟨a, c, rfl, htl, hm, hb⟩
theorem app_data (s : ByteArray) (l : List UInt8) : (s ++ (⟨l.toArray⟩ : ByteArray)).data.toList = s.data.toList ++ l := by
  simp [ByteArray.data_append]

theorem own_cap {w : World} {base : Nat} {e : TypeId} {k : Nat} {a : Option Addr} {n n' c : Nat} {xs : List Value} (h : w.ownsRow base e k (.slice a n c) n' xs) : n' ≤ c ∧ c ≤ maxLen := by
  obtain ⟨hl, ⟨h1, rfl⟩ | ⟨g, cap, cur, h1, h0, hb, hn, hc, r⟩⟩ := h
  · simp at h1
    obtain ⟨_, _, rfl⟩ := h1
    exact ⟨Nat.zero_le _, Nat.zero_le _⟩
  · simp at h1
    obtain ⟨_, _, rfl⟩ := h1
    exact ⟨hn, hc⟩
/-- Tokens, as a caller takes it that cuts the list -/
theorem Tokens_cap {s : ByteArray} {R : Res} (hR : tokens s.data.toList = R) (w : World) (hg : Gl w) (hs : s.size ≤ maxLen) : Calls Tryd.prog 5 #[.string s] w fun e w' => ∃ a c, e = .returned (.tuple #[.slice a R.ts.length c, R.flt]) ∧ TL w' a R.ts ∧ R.ts.length ≤ c ∧ c ≤ maxLen ∧ Below w.heap.size w w' := by
  refine (Tokens_any s w hg hs).mono fun e w' => ?_
  rw [hR]
  rintro ⟨sv, rfl, hown, hb⟩
  obtain ⟨a, c, rfl, hm, htl⟩ := TL_of_own hown
  have := own_cap hown
  exact ⟨a, c, rfl, htl, this.1, this.2, hb⟩
theorem flt_neq (a b c d : Int) (w : World) : (binOp .neq 25 (.agg #[.int .i64 a, .int .i64 b]) (.agg #[.int .i64 c, .int .i64 d])).run Tryd.prog w = .ok (.bool (!decide (a = c ∧ b = d))) w := by
  by_cases h1 : a = c
  · by_cases h2 : b = d
    · subst h1 h2
      rw [decide_eq_true ⟨rfl, rfl⟩]
      go_simp
    · rw [decide_eq_false (fun h => h2 h.2)]
      go_simp
  · rw [decide_eq_false (fun h => h1 h.1)]
    go_simp
theorem TL_one {w : World} {g off : Nat} {ts : List Tk} (h : TL w (some ⟨g, off, none⟩) ts) {i : Nat} {t : Tk} (hi : ts[i]? = some t) : TL w (some ⟨g, off + i * 4, none⟩) [t] := fun j u hj => by
  have hj0 : j = 0 := by
    have := (List.getElem?_eq_some_iff.mp hj).1
    simp at this
    exact this
  subst hj0
  simp at hj
  subst hj
  obtain ⟨g', off', e, c0, c1, c2, c3⟩ := h i t hi
  simp at e
  obtain ⟨rfl, rfl⟩ := e
  exact ⟨g, off + i * 4, rfl, by simpa using c0, by simpa using c1, by simpa using c2, by simpa using c3⟩
theorem TL_addr {w : World} {a : Option Addr} {ts : List Tk} (h : TL w a ts) (hn : ts ≠ []) : ∃ g off, a = some ⟨g, off, none⟩ := by
  cases ts with
  | nil => exact absurd rfl hn
  | cons t r =>
    obtain ⟨g, off, e, _⟩ := h 0 t rfl
    exact ⟨g, off, e⟩
theorem ext_mid (s : ByteArray) {p q : Nat} (h : p ≤ q) (hq : q ≤ s.size) : (s.extract p q).data.toList = (s.data.toList.drop p).take (q - p) ∧ (s.extract p q).size = q - p := by
  have e : (s.extract p q).data.toList = (s.data.toList.drop p).take (q - p) := Lib.extract_data s p q
  refine ⟨e, ?_⟩
  rw [← len_toList, e, List.length_take, List.length_drop, len_toList]
  omega
theorem tokens_ok {s : ByteArray} {ts : List Tk} (h : tokens s.data.toList = .ok ts) : s.size ≤ 65536 ∧ toks s.data.toList 0 = .ok ts := by
  unfold tokens at h
  rw [len_toList] at h
  split at h
  · cases h
  · exact ⟨by omega, h⟩
theorem tokens_err {s : ByteArray} {e : Int} {q : Nat} (h : tokens s.data.toList = .bad e q) : e ≠ 0 := by
  unfold tokens at h
  split at h
  · simp at h; omega
  · exact toks_err _ _ 0 (Nat.le_refl _) h
end Go.Proofs.YthkbcgedjecnlaaDoor
