import Derived.Test.YtlnioaokpmeioaaGreatDoorG7
import Derived.Deep.RegionHeld3
section
namespace Go.Proofs.YtlnioaokpmeioaaGreatDoor
open Go.RowKit Go.Maps
set_option linter.unusedVariables false
set_option linter.unusedSimpArgs false
attribute [local go_sem ↓] Go.wp_at_zero Go.wp_at_succ

end Go.Proofs.YtlnioaokpmeioaaGreatDoor
end
