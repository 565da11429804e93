import Derived.Test.YtpnmepabecbgcaaDoorLexRoundM
namespace Go.Proofs.YtpnmepabecbgcaaDoor
set_option linter.unusedVariables false
set_option linter.unusedSimpArgs false

def tx (t : Tk) : List UInt8 := (fullT t).getD []
def SS : Nat → List Tk → List UInt8
  | _, [] => []
  | k, t :: r => (if t.k = 8 then [] else (if 0 < k then [32] else []) ++ tx t) ++ SS (k + 1) r
def goodL : List Tk → Prop
  | [] => True
  | t :: r => (∃ s, fullT t = some s) ∧ (t.k = 8 → r = []) ∧ goodL r
def wholeL : List Tk → List Tk
  | [] => [endT 0]
  | t :: r => if t.k = 8 then [t] else t :: wholeL r
theorem join_ok : ∀ (ts : List Tk) (k : Nat) (acc out : List UInt8), joinT fullT k acc ts = (out, 0) → out = acc ++ SS k ts ∧ goodL ts ∧ out.length ≤ 65536
  | [], k, acc, out, h => by
    rw [joinT] at h
    split at h
    · simp at h
    · simp at h
      subst h
      exact ⟨by simp [SS], trivial, by omega⟩
  | t :: r, k, acc, out, h => by
    rw [joinT] at h
    cases hf : fullT t with
    | none => rw [hf] at h; simp at h
    | some s =>
      rw [hf] at h
      simp only at h
      split at h
      · simp at h
      · rename_i h8
        split at h
        · rename_i hb
          obtain ⟨i1, i2, i3⟩ := join_ok r (k + 1) acc out h
          by_cases hk : t.k = 8
          · have hr : r = [] := Classical.byContradiction fun hr => h8 ⟨hk, hr⟩
            refine ⟨?_, ⟨⟨s, hf⟩, fun _ => hr, i2⟩, i3⟩
            rw [i1, SS, if_pos hk, List.nil_append]
          · exfalso
            rcases hb with hb | hb
            · exact hk hb
            · rw [i1, List.length_append] at i3
              omega
        · rename_i hb
          obtain ⟨i1, i2, i3⟩ := join_ok r (k + 1) _ out h
          have hk : ¬ t.k = 8 := fun e => hb (.inl e)
          refine ⟨?_, ⟨⟨s, hf⟩, fun e => absurd e hk, i2⟩, i3⟩
          rw [i1, SS, if_neg hk, tx, hf]
          simp
theorem join_good : ∀ (ts : List Tk) (k : Nat) (acc : List UInt8), goodL ts → (∃ out, joinT fullT k acc ts = (out, 0)) ∨ joinT fullT k acc ts = ([], 30)
  | [], k, acc, _ => by
    rw [joinT]
    split
    · exact .inr rfl
    · exact .inl ⟨_, rfl⟩
  | t :: r, k, acc, ⟨⟨s, hf⟩, h8, hr⟩ => by
    rw [joinT, hf]
    simp only
    rw [if_neg (fun h => h.2 (h8 h.1))]
    split
    · exact join_good r (k + 1) acc hr
    · exact join_good r (k + 1) _ hr
theorem SS_sep : ∀ (r : List Tk) (k : Nat), goodL r → Sep (SS (k + 1) r)
  | [], k, _ => .inl rfl
  | t :: r, k, ⟨_, h8, hr⟩ => by
    by_cases hk : t.k = 8
    · rw [SS, if_pos hk, h8 hk]
      exact .inl rfl
    · rw [SS, if_neg hk, if_pos (by omega)]
      exact .inr ⟨_, by simp; rfl⟩
theorem first_back {t : Tk} {x z : List UInt8} (hok : t.ok) (h : fullT t = some x) (h8 : ¬ t.k = 8) (hz : Sep z) : ∃ t' c r, x = c :: r ∧ blankU c = false ∧ ¬ c.toNat = 35 ∧ firstT (x ++ z) = .tok t' x.length ∧ t'.bare = t.bare := by
  have hm : mayT t = true := by
    cases hm : mayT t
    · unfold fullT at h; rw [hm] at h; simp at h
    · rfl
  have run_c : ∀ {x : List UInt8}, x ≠ [] → (∀ c ∈ x, runU c = true) → ∃ c r, x = c :: r ∧ blankU c = false ∧ ¬ c.toNat = 35 := by
    intro x hne hr
    cases x with
    | nil => exact absurd rfl hne
    | cons c r =>
      have hc := hr c (by simp)
      refine ⟨c, r, rfl, ?_, ?_⟩
      · unfold runU letU smallU capU digU at hc; unfold blankU; simp at hc ⊢; omega
      · unfold runU letU smallU capU digU at hc; simp at hc; omega
  unfold fullT at h
  rw [hm, if_pos rfl] at h
  have hx := Option.some.inj h
  obtain ⟨k, s, n, a⟩ := t
  simp only at hx h8
  by_cases h3 : k = 3
  · subst h3
    rw [if_pos rfl] at hx
    subst hx
    refine ⟨_, 95, [], rfl, by decide, by decide, first_blank hz, ?_⟩
    unfold mayT at hm
    simp at hm
    simp [Tk.bare, hm]
  · rw [if_neg h3] at hx
    by_cases h4 : k = 4
    · subst h4
      rw [if_pos rfl] at hx
      subst hx
      unfold mayT at hm
      simp at hm
      have h0 := hok.low
      have h1 := hok.high
      simp only at h0 h1
      have hu : u64 n ≤ 9223372036854775808 := by unfold u64; split <;> omega
      obtain ⟨_, d2, d3, _⟩ := dec_facts (u64 n) (u64 n) (Nat.le_refl _) (by omega)
      obtain ⟨c, r, e1, e2, e3⟩ := run_c d3 (fun c hc => (dig_run (d2 c hc)).1)
      refine ⟨_, c, r, e1, e2, e3, first_num hu hz, ?_⟩
      have : asI64 (u64 n) = n := by unfold asI64 u64; split <;> split <;> omega
      simp [Tk.bare, this, hm.1]
    · rw [if_neg h4] at hx
      unfold mayT at hm
      simp only [if_neg h4] at hm
      split at hm
      · cases hm
      · rename_i hn
        have hn0 : n = 0 := Classical.byContradiction hn
        subst hn0
        by_cases h5 : k = 5
        · subst h5
          rw [if_pos rfl] at hx
          subst hx
          have hs : s.length ≤ 200 := by simpa using hm
          refine ⟨_, 34, s.flatMap VS.pieceQ ++ [34], by simp [VS.quoteQ], by decide, by decide, first_quot hs, rfl⟩
        · rw [if_neg h5] at hx
          subst hx
          split at hm
          · rename_i h1
            have h1 : k = 1 := h1
            subst h1
            have hw : wordU s = true := by unfold nameU at hm; simp at hm; exact hm.1.1
            obtain ⟨hne, _, hr⟩ := word_run hw
            obtain ⟨c, r, e1, e2, e3⟩ := run_c hne hr
            exact ⟨_, c, r, e1, e2, e3, first_name hm hz, rfl⟩
          · split at hm
            · rename_i h1
              have h1 : k = 2 := h1
              subst h1
              have hw : wordU s = true := by unfold varU at hm; simp at hm; exact hm.1
              obtain ⟨hne, _, hr⟩ := word_run hw
              obtain ⟨c, r, e1, e2, e3⟩ := run_c hne hr
              exact ⟨_, c, r, e1, e2, e3, first_var hm hz, rfl⟩
            · split at hm
              · rename_i h1
                have h1 : k = 6 := h1
                subst h1
                have hw : wordU s = true := (kws_word s (by unfold kwU at hm; simpa using hm)).1
                obtain ⟨hne, _, hr⟩ := word_run hw
                obtain ⟨c, r, e1, e2, e3⟩ := run_c hne hr
                exact ⟨_, c, r, e1, e2, e3, first_kw hm hz, rfl⟩
              · split at hm
                · rename_i h1
                  have h1 : k = 7 := h1
                  subst h1
                  obtain ⟨c, r, e, _, _, _, _, e5, e6⟩ := sgs_first s (sign_in hm)
                  exact ⟨_, c, r, e, e5, e6, first_sign hm hz, rfl⟩
                · simp [h5, h3, h8] at hm
theorem round_back : ∀ (ts : List Tk) (k a : Nat), goodL ts → (∀ t ∈ ts, t.ok) → ∃ ts', toks (SS k ts) a = .ok ts' ∧ ts'.map Tk.bare = (wholeL ts).map Tk.bare
  | [], k, a, _, _ => ⟨_, rfl, rfl⟩
  | t :: r, k, a, ⟨⟨s, hf⟩, h8, hr⟩, hok => by
    by_cases hk : t.k = 8
    · have hr0 := h8 hk
      subst hr0
      refine ⟨[endT a], ?_, ?_⟩
      · rw [SS, if_pos hk]; rfl
      · rw [wholeL, if_pos hk]
        have hm : mayT t = true := by
          cases hm : mayT t
          · unfold fullT at hf; rw [hm] at hf; simp at hf
          · rfl
        obtain ⟨k', s', n, a'⟩ := t
        simp only at hk
        subst hk
        unfold mayT at hm
        simp at hm
        simp [Tk.bare, endT, hm]
    · obtain ⟨t', c, cr, e1, e2, e3, e4, e5⟩ := first_back (hok t (by simp)) hf hk (SS_sep r k hr)
      have step : ∀ b, ∃ ts', toks (s ++ SS (k + 1) r) b = .ok ts' ∧ ts'.map Tk.bare = (wholeL (t :: r)).map Tk.bare := by
        intro b
        obtain ⟨ts', i1, i2⟩ := round_back r (k + 1) (b + s.length) hr (fun x hx => hok x (by simp [hx]))
        have h1 : s ++ SS (k + 1) r = c :: (cr ++ SS (k + 1) r) := by rw [e1]; rfl
        have e4' := e4
        rw [h1] at e4'
        have h2 := toks_tok b e2 e3 e4'
        rw [← h1, List.drop_left, i1] at h2
        refine ⟨_, h2, ?_⟩
        rw [wholeL, if_neg hk]
        simp only [List.map_cons, i2]
        congr 1
      rw [SS, if_neg hk, tx, hf]
      simp only [Option.getD_some]
      by_cases h0 : 0 < k
      · rw [if_pos h0]
        obtain ⟨ts', i1, i2⟩ := step (a + 1)
        refine ⟨ts', ?_, i2⟩
        rw [List.append_assoc]
        show toks (32 :: (s ++ SS (k + 1) r)) a = _
        rw [toks_blank _ a (by decide)]
        exact i1
      · rw [if_neg h0, List.nil_append]
        exact step a
theorem run_all_take : ∀ l : List UInt8, ∀ x ∈ l.take (runLen l), runU x = true
  | [], x, hx => by simp at hx
  | c :: r, x, hx => by
    by_cases hc : runU c = true
    · rw [runLen, if_pos hc, List.take_succ_cons] at hx
      rcases List.mem_cons.1 hx with rfl | hx
      · exact hc
      · exact run_all_take r x hx
    · rw [runLen, if_neg hc] at hx
      simp at hx
theorem quotU_200 : ∀ (f : Nat) (l out : List UInt8) (n : Nat) {v : List UInt8} {m : Nat}, quotU f l out n = some (v, m) → v.length ≤ 200
  | 0, l, out, n, v, m, h => by simp [quotU] at h
  | f + 1, l, out, n, v, m, h => by
    cases l with
    | nil => simp [quotU] at h
    | cons c r =>
      simp only [quotU] at h
      split at h
      · cases h
      · rename_i ho
        split at h
        · have := Option.some.inj h
          simp only [Prod.mk.injEq] at this
          rw [← this.1]; omega
        · split at h
          · cases h
          · exact quotU_200 f _ _ _ h
theorem sgs_sign : ∀ w ∈ sgs, signB w = true := by decide
theorem word_good {run : List UInt8} {t : Tk} {n : Nat} (hne : run ≠ []) (hl : headB letU run = true) (hr : ∀ x ∈ run, runU x = true) (h : wordT run = .tok t n) : ¬ t.k = 8 ∧ t.ok ∧ mayT t = true := by
  unfold wordT at h
  split at h
  · cases h
  · rename_i h120
    have hw : wordU run = true := by
      unfold wordU
      simp only [Bool.and_eq_true, decide_eq_true_eq]
      exact ⟨⟨hne, by omega⟩, (run_iff run).2 hr⟩
    have hok : ∀ k : Int, (⟨k, run, 0, 0⟩ : Tk).ok := fun k => ⟨by unfold maxLen; show run.length ≤ _; omega, by simp, by simp⟩
    split at h
    · rename_i hk
      obtain ⟨rfl, _⟩ : _ = t ∧ _ := by simpa using h
      exact ⟨by simp, hok 6, hk⟩
    · rename_i hk
      split at h
      · rename_i hn
        obtain ⟨rfl, _⟩ : _ = t ∧ _ := by simpa using h
        exact ⟨by simp, hok 1, hn⟩
      · rename_i hn
        obtain ⟨rfl, _⟩ : _ = t ∧ _ := by simpa using h
        refine ⟨by simp, hok 2, ?_⟩
        show varU run = true
        unfold varU
        rw [hw, Bool.true_and]
        cases run with
        | nil => exact absurd rfl hne
        | cons c r =>
          show capU c = true
          have hc : letU c = true := hl
          cases hs : smallU c
          · unfold letU at hc; rw [hs] at hc; simpa using hc
          · exfalso
            apply hn
            unfold nameU
            rw [hw]
            show (true && smallU c && !kwU (c :: r)) = true
            rw [hs]
            simpa using hk
theorem first_good {l : List UInt8} {t : Tk} {n : Nat} (h : firstT l = .tok t n) : ¬ t.k = 8 ∧ t.ok ∧ mayT t = true := by
  cases l with
  | nil => simp [firstT] at h
  | cons c r =>
    unfold firstT at h
    simp only at h
    split at h
    · rename_i hc
      have hrc : runU c = true := by unfold runU; rw [hc]; simp
      have e : (c :: r).take (runLen (c :: r)) = c :: r.take (runLen r) := by rw [runLen, if_pos hrc]; rfl
      exact word_good (by rw [e]; simp) (by rw [e]; exact hc) (run_all_take _) h
    · split at h
      · unfold blankT at h
        split at h
        · cases h
        · obtain ⟨rfl, _⟩ : _ = t ∧ _ := by simpa using h
          exact ⟨by decide, ⟨by decide, by decide, by decide⟩, rfl⟩
      · split at h
        · unfold numT at h
          split at h
          · rename_i u hu
            split at h
            · cases h
            · rename_i hb
              obtain ⟨rfl, _⟩ : _ = t ∧ _ := by simpa using h
              have h1 : ¬ 9223372036854775808 < u := fun hh => hb (.inl hh)
              have h2 : 0 ≤ asI64 u ∨ asI64 u = -9223372036854775808 := by unfold asI64; split <;> omega
              have h3 : asI64 u ≤ 9223372036854775807 := by unfold asI64; split <;> omega
              refine ⟨by simp, ⟨Nat.zero_le _, by show _ ≤ asI64 u; omega, h3⟩, ?_⟩
              unfold mayT
              simp
              exact h2
          · cases h
        · split at h
          · unfold quotT at h
            split at h
            · rename_i v m hq
              obtain ⟨rfl, _⟩ : _ = t ∧ _ := by simpa using h
              have := quotU_200 _ _ _ _ hq
              refine ⟨by simp, ⟨by unfold maxLen; show v.length ≤ _; omega, by simp, by simp⟩, ?_⟩
              unfold mayT
              simp
              exact this
            · cases h
          · unfold signT at h
            split at h
            · rename_i w hw
              obtain ⟨rfl, _⟩ : _ = t ∧ _ := by simpa using h
              have hin := List.mem_of_find?_eq_some hw
              have := sgs_len hin
              refine ⟨by simp, ⟨by unfold maxLen; show w.length ≤ _; omega, by simp, by simp⟩, ?_⟩
              unfold mayT
              simp
              exact sgs_sign w hin
            · cases h
theorem toks_good : ∀ (N : Nat) (l : List UInt8) (a : Nat) {ts : List Tk}, l.length ≤ N → toks l a = .ok ts → goodL ts ∧ (∀ t ∈ ts, t.ok) ∧ wholeL ts = ts := by
  intro N
  induction N with
  | zero =>
    intro l a ts hl h
    have : l = [] := List.length_eq_zero_iff.1 (by omega)
    subst this
    rw [toks_nil] at h
    cases h
    refine ⟨⟨⟨[], rfl⟩, fun _ => rfl, trivial⟩, ?_, rfl⟩
    intro t ht
    have : t = endT a := by simpa using ht
    rw [this]
    exact ⟨Nat.zero_le _, by simp [endT], by simp [endT]⟩
  | succ N ih =>
    intro l a ts hl h
    cases l with
    | nil =>
      rw [toks_nil] at h
      cases h
      refine ⟨⟨⟨[], rfl⟩, fun _ => rfl, trivial⟩, ?_, rfl⟩
      intro t ht
      have : t = endT a := by simpa using ht
      rw [this]
      exact ⟨Nat.zero_le _, by simp [endT], by simp [endT]⟩
    | cons c r =>
      simp only [List.length_cons] at hl
      by_cases hb : blankU c = true
      · rw [toks_blank r a hb] at h
        exact ih r _ (by omega) h
      · have hb' : blankU c = false := by simpa using hb
        by_cases hc : c.toNat = 35
        · rw [toks_com r a hc] at h
          exact ih _ _ (by rw [List.length_drop]; omega) h
        · cases hf : firstT (c :: r) with
          | bad e => rw [toks_bad a hb' hc hf] at h; cases h
          | tok t n =>
            have hp := firstT_pos hf
            rw [toks_tok a hb' hc hf] at h
            cases hr : toks ((c :: r).drop n) (a + n) with
            | bad e q => rw [hr] at h; cases h
            | ok ts' =>
              rw [hr] at h
              have hts : { t with a := (a : Int) } :: ts' = ts := by
                have : Res.ok ({ t with a := (a : Int) } :: ts') = .ok ts := h
                exact Res.ok.inj this
              subst hts
              obtain ⟨i1, i2, i3⟩ := ih _ _ (by rw [List.length_drop]; simp only [List.length_cons]; omega) hr
              obtain ⟨g1, g2, g3⟩ := first_good hf
              have hm : mayT { t with a := (a : Int) } = true := g3
              refine ⟨⟨⟨_, by unfold fullT; rw [hm, if_pos rfl]⟩, fun e => absurd e g1, i1⟩, ?_, ?_⟩
              · intro x hx
                rcases List.mem_cons.1 hx with rfl | hx
                · exact ⟨g2.text, g2.low, g2.high⟩
                · exact i2 x hx
              · rw [wholeL, if_neg g1, i3]
end Go.Proofs.YtpnmepabecbgcaaDoor
