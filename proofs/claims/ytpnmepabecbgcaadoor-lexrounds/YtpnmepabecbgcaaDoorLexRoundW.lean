import Derived.Test.YtpnmepabecbgcaaDoorLexRoundN
import Derived.Test.YtpnmepabecbgcaaDoorLexLent2
import Derived.Test.YtpnmepabecbgcaaDoorLexAt
namespace Go.Proofs.YtpnmepabecbgcaaDoor
open Go.RowKit Go.Maps
set_option linter.unusedVariables false
set_option linter.unusedSimpArgs false
attribute [local go_sem ↓] Go.wp_at_zero Go.wp_at_succ

theorem toks_len : ∀ (N : Nat) (l : List UInt8) (a : Nat) {ts : List Tk}, l.length ≤ N → toks l a = .ok ts → ts.length ≤ l.length + 1 := by
  intro N
  induction N with
  | zero =>
    intro l a ts hl h
    have : l = [] := List.length_eq_zero_iff.1 (by omega)
    subst this
    rw [toks_nil] at h
    cases h
    simp
  | succ N ih =>
    intro l a ts hl h
    cases l with
    | nil =>
      rw [toks_nil] at h
      cases h
      simp
    | cons c r =>
      simp only [List.length_cons] at hl ⊢
      by_cases hb : blankU c = true
      · rw [toks_blank r a hb] at h
        have := ih r _ (by omega) h
        omega
      · have hb' : blankU c = false := by simpa using hb
        by_cases hc : c.toNat = 35
        · rw [toks_com r a hc] at h
          have := ih _ _ (by rw [List.length_drop]; omega) h
          rw [List.length_drop] at this
          omega
        · cases hf : firstT (c :: r) with
          | bad e => rw [toks_bad a hb' hc hf] at h; cases h
          | tok t n =>
            have hp := firstT_pos hf
            rw [toks_tok a hb' hc hf] at h
            cases hr : toks ((c :: r).drop n) (a + n) with
            | bad e q => rw [hr] at h; cases h
            | ok ts' =>
              rw [hr] at h
              have hts : { t with a := (a : Int) } :: ts' = ts := by
                have : Res.ok ({ t with a := (a : Int) } :: ts') = .ok ts := h
                exact Res.ok.inj this
              subst hts
              have := ih _ _ (by rw [List.length_drop]; simp only [List.length_cons]; omega) hr
              rw [List.length_drop] at this
              simp only [List.length_cons] at this ⊢
              omega
def wholeG (ts : List Tk) : List Tk := match ts.getLast? with
  | some t => if t.k = 8 then ts else ts ++ [endT 0]
  | none => ts ++ [endT 0]
theorem whole_good : ∀ (ts : List Tk), goodL ts → wholeL ts = wholeG ts
  | [], _ => rfl
  | [t], ⟨_, _, _⟩ => by
    unfold wholeL wholeG
    simp only [List.getLast?_singleton]
    split <;> rfl
  | t :: u :: r, ⟨_, h8, hr⟩ => by
    have ih := whole_good (u :: r) hr
    have hk : ¬ t.k = 8 := fun e => by cases h8 e
    rw [wholeL, if_neg hk, ih]
    unfold wholeG
    rw [List.getLast?_cons_cons]
    split
    · split <;> rfl
    · rfl
set_option maxHeartbeats 1600000 in
theorem whole_app (ts : List Tk) (w : World) (a : Option Addr) (c : Nat) (hlen : ts.length ≤ 2147483647) (hl : TL w a ts) (hk : ∀ n t, ts.length = n + 1 → ts[n]? = some t → ¬ t.k = 8) :
    Calls Tryd.prog 8 #[.slice a ts.length c] w fun e w' => ∃ a' c', e = .returned (.slice a' (ts ++ [endT 0]).length c') ∧ TL w' a' (ts ++ [endT 0]) ∧ Below w.heap.size w w' := by
  have HL : Hid (TL w a ts) := hl
  have HAL : Hid (∀ (u : World) o, Below u.heap.size u (u.alloc o)) := fun u o => (Below.refl _ _).alloc (Nat.le_refl _) _
  clear hl
  cases hc : ts.length with
  | zero =>
    have h0 : ts = [] := List.length_eq_zero_iff.1 hc
    subst h0
    clear hk
    go_enter Tryd.func8, Tryd.ntmps8
    go_wp2_with (at_builtin; first
      | (refine wpList_appT rfl (.tmp 17) (.tmp 18) rfl (b := w.heap.size) (v := .slice (some ⟨w.heap.size, 0, none⟩) 0 0) (n := 0) (xs := []) (ad := a) (c := c) (ts := []) (by simp [Act.eval, Act.put]) (World.ownsRow_lit w #[] 0 (Nat.le_refl _) (by decide) rfl) (by simp [Act.eval, Act.put]) (HL.out.below (HAL.out _ _)) (by simp) (by simp) ?_
         intro v1 w1 hown1 hg1 hl1
         have hb1 : Below w.heap.size w w1 := (HAL.out w _).grown hg1 (by simp) (fun j hj => by simp [Value.ownBlock] at hj; omega)
         rw [Nat.zero_add, List.nil_append] at hown1
         clear hg1 hl1
         obtain ⟨ao, co, rfl, hlo, _⟩ := ownsRow_form hown1)
      | (refine wpList_appT rfl (.tmp 19) (.tmp 21) rfl (b := w.heap.size) (v := .slice ao ([] : List Tk).length co) (n := ([] : List Tk).length) (ad := some ⟨w1.heap.size, 0, none⟩) (c := 1) (ts := [⟨8, (⟨#[]⟩ : ByteArray).data.toList, 0, 0⟩]) (by simp [Act.eval, Act.put]) (hown1.alloc _) (by simp [Act.eval, Act.put]) (TL_lit w1 8 0 0 ⟨#[]⟩) (by simp) (by have := hb1.size; simp; omega) ?_
         intro v2 w2 hown2 hg2 hl2
         have hb2 : Below w.heap.size w w2 := (hb1.trans ((HAL.out w1 _).mono hb1.size)).grown hg2 (by have := hb1.size; simp; omega) (fun j hj => (hown1.lt j hj).1)
         obtain ⟨a2, c2, rfl, _, htl2⟩ := TL_of_own (ts := [endT 0]) hown2
         clear hown1 hown2 hg2 hl2))
    go_ret
    exact ⟨a2, c2, rfl, htl2, hb2⟩
  | succ n =>
    obtain ⟨t, ht⟩ : ∃ t, ts[n]? = some t := ⟨_, List.getElem?_eq_getElem (by omega)⟩
    have hk8 := hk n t hc ht
    obtain ⟨g, off, rfl, c0, _, _, _⟩ := HL.out n t ht
    have hn0 : (0 : Int) < (n : Int) + 1 := by omega
    have hnb : (n : Int) ≤ 2147483647 := by omega
    have HC : Hid (ts.length = n + 1) := hc
    have HK8 : Hid (¬ t.k = 8) := hk8
    obtain ⟨kk, hkk⟩ : ∃ kk, t.k = kk := ⟨_, rfl⟩
    rw [hkk] at c0 hk8
    clear hk hc ht hkk
    go_enter Tryd.func8, Tryd.ntmps8
    go_wp2_with (at_builtin; first
      | (refine wpList_appT rfl (.tmp 17) (.tmp 18) rfl (b := w.heap.size) (v := .slice (some ⟨w.heap.size, 0, none⟩) 0 0) (n := 0) (xs := []) (ad := some ⟨g, off, none⟩) (c := c) (ts := ts) (by simp [Act.eval, Act.put]) (World.ownsRow_lit w #[] 0 (Nat.le_refl _) (by decide) rfl) (by simp [Act.eval, Act.put, HC.out]) (HL.out.below (HAL.out _ _)) (by omega) (by simp) ?_
         intro v1 w1 hown1 hg1 hl1
         have hb1 : Below w.heap.size w w1 := (HAL.out w _).grown hg1 (by simp) (fun j hj => by simp [Value.ownBlock] at hj; omega)
         rw [Nat.zero_add, List.nil_append] at hown1
         clear hg1 hl1 c0
         obtain ⟨ao, co, rfl, hlo, _⟩ := ownsRow_form hown1)
      | (refine wpList_appT rfl (.tmp 19) (.tmp 21) rfl (b := w.heap.size) (v := .slice ao ts.length co) (n := ts.length) (ad := some ⟨w1.heap.size, 0, none⟩) (c := 1) (ts := [⟨8, (⟨#[]⟩ : ByteArray).data.toList, 0, 0⟩]) (by simp [Act.eval, Act.put]) (hown1.alloc _) (by simp [Act.eval, Act.put]) (TL_lit w1 8 0 0 ⟨#[]⟩) (by simp; omega) (by have := hb1.size; simp; omega) ?_
         intro v2 w2 hown2 hg2 hl2
         have hb2 : Below w.heap.size w w2 := (hb1.trans ((HAL.out w1 _).mono hb1.size)).grown hg2 (by have := hb1.size; simp; omega) (fun j hj => (hown1.lt j hj).1)
         rw [← List.flatMap_append, show ts.length + [(⟨8, (⟨#[]⟩ : ByteArray).data.toList, 0, 0⟩ : Tk)].length = (ts ++ [endT 0]).length by simp] at hown2
         obtain ⟨a2, c2, rfl, _, htl2⟩ := TL_of_own (ts := ts ++ [endT 0]) hown2
         clear hown1 hown2 hg2 hl2))
    go_ret
    exact ⟨a2, c2, by rw [List.length_append]; rfl, htl2, hb2⟩
set_option maxHeartbeats 1600000 in
theorem whole_any (ts : List Tk) (w : World) (a : Option Addr) (c : Nat) (hlen : ts.length ≤ 2147483647) (hl : TL w a ts) :
    Calls Tryd.prog 8 #[.slice a ts.length c] w fun e w' => ∃ a' c', e = .returned (.slice a' (wholeG ts).length c') ∧ TL w' a' (wholeG ts) ∧ Below w.heap.size w w' := by
  by_cases h : ∃ n t, ts.length = n + 1 ∧ ts[n]? = some t ∧ t.k = 8
  · obtain ⟨n, t, hc, ht, hk8⟩ := h
    have e : wholeG ts = ts := by
      unfold wholeG
      rw [List.getLast?_eq_getElem?, hc, Nat.add_sub_cancel, ht]
      simp only
      rw [if_pos hk8]
    rw [e, hc]
    obtain ⟨g, off, rfl, c0, _, _, _⟩ := hl n t ht
    have hn0 : (0 : Int) < (n : Int) + 1 := by omega
    have hnb : (n : Int) ≤ 2147483647 := by omega
    rw [hk8] at c0
    have HL : Hid (TL w (some ⟨g, off, none⟩) ts) := hl
    clear e ht hk8 hl hc
    go_enter Tryd.func8, Tryd.ntmps8
    go_wp2
    go_ret
    exact ⟨_, _, rfl, HL.out, Below.refl _ _⟩
  · have e : wholeG ts = ts ++ [endT 0] := by
      unfold wholeG
      rw [List.getLast?_eq_getElem?]
      split
      · rename_i t ht
        rw [if_neg]
        intro hk
        have hlt := (List.getElem?_eq_some_iff.1 ht).1
        exact h ⟨ts.length - 1, t, by omega, ht, hk⟩
      · rfl
    rw [e]
    exact whole_app ts w a c hlen hl (fun n t hc ht hk => h ⟨n, t, hc, ht, hk⟩)
end Go.Proofs.YtpnmepabecbgcaaDoor
