import Derived.Test.YtpnmepabecbgcaaDoorValueShow2
namespace Go.Proofs.YtpnmepabecbgcaaDoor.VS
open Go.RowKit Go.Maps
set_option linter.unusedVariables false
set_option linter.unusedSimpArgs false
attribute [local go_sem ↓] Go.wp_at_zero Go.wp_at_succ

theorem dec_ge {m : Nat} (h : ¬ m < 10) : Lib.decDigits m = Lib.decDigits (m / 10) ++ [digB m] := by
  have := dec_step h []
  rw [List.append_nil] at this
  rw [this]
theorem dec_lt {m : Nat} (h : m < 10) : Lib.decDigits m = [digB m] := by
  have := dec_last h []
  rwa [List.append_nil] at this
end Go.Proofs.YtpnmepabecbgcaaDoor.VS
