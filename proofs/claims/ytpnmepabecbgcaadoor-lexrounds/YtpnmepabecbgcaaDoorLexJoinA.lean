import Derived.Test.YtpnmepabecbgcaaDoorLexTextA
import Derived.Test.YtpnmepabecbgcaaDoorLexAlike
namespace Go.Proofs.YtpnmepabecbgcaaDoor
open Go.RowKit Go.Maps
set_option linter.unusedVariables false
set_option linter.unusedSimpArgs false
attribute [local go_sem ↓] Go.wp_at_zero Go.wp_at_succ

structure Tk.ok (t : Tk) : Prop where
  text : t.s.length ≤ maxLen
  low : -9223372036854775808 ≤ t.n
  high : t.n ≤ 9223372036854775807
theorem text_ok {t : Tk} (h : t.ok) : TextOK fullT t := fun w hg => by
  have := Text_full t.k ⟨t.s.toArray⟩ t.n t.a (by rw [size_mk]; exact h.text) h.low h.high w hg hg.pw
  simpa [tkV] using this
theorem flat_le : ∀ l : List UInt8, (l.flatMap VS.pieceQ).length ≤ 4 * l.length
  | [] => Nat.le_refl _
  | c :: r => by
    have h1 := (VS.pieceQ_len c).2
    have h2 := flat_le r
    rw [List.flatMap_cons, List.length_append, List.length_cons]
    omega
theorem sgs_le2 : ∀ w ∈ sgs, w.length ≤ 2 := by decide
theorem kws_len : ∀ w ∈ kws, w.length ≤ 5 := by decide
theorem full_len {t : Tk} (ht : t.ok) {s : List UInt8} (h : fullT t = some s) : s.length ≤ 1000 := by
  unfold fullT at h
  split at h
  · rename_i hm
    have hs := Option.some.inj h
    subst hs
    split
    · simp
    · split
      · rw [Lib.decDigits_length]
        have := VS.nDig_le 19 (u64 t.n) (by have := u64_lt ht.low ht.high; omega)
        omega
      · rename_i h3 h4
        unfold mayT at hm
        rw [if_neg h4] at hm
        split at hm
        · cases hm
        · split
          · rename_i h5
            simp [h5] at hm
            unfold VS.quoteQ
            simp only [List.toList_toArray, List.length_append, List.length_cons, List.length_nil]
            have := flat_le t.s
            omega
          · rename_i h5
            split at hm
            · unfold nameU wordU at hm; simp at hm; omega
            · split at hm
              · unfold varU wordU at hm; simp at hm; omega
              · split at hm
                · unfold kwU at hm
                  have := kws_len t.s (by simpa using hm)
                  omega
                · split at hm
                  · unfold signB signT at hm
                    cases hf : sgs.find? (fun w => Lib.hasPrefix t.s w) with
                    | none => rw [hf] at hm; cases hm
                    | some w =>
                      rw [hf] at hm
                      simp at hm
                      have := sgs_le2 w (List.mem_of_find?_eq_some hf)
                      rw [← hm]; omega
                  · split at hm
                    · simp [h5] at hm
                      rw [hm]; simp
                    · simp [h5] at hm
  · cases h
end Go.Proofs.YtpnmepabecbgcaaDoor
