import Derived.Test.YtikjphfeeljhbaaGreatDoorTreeBeyond
import Derived.Test.YtikjphfeeljhbaaGreatDoorValueShow2
import Derived.Deep.MidRow
namespace Go.Proofs.YtikjphfeeljhbaaGreatDoor
open Go.RowKit Go.Maps
set_option linter.unusedVariables false
set_option linter.unusedSimpArgs false
attribute [local go_sem ↓] Go.wp_at_zero Go.wp_at_succ

abbrev PWt (w : World) : Prop := Lib.TabIs Tryz.prog w "internal/strconv.uint64pow10" .u64 Lib.pow10Tab
end Go.Proofs.YtikjphfeeljhbaaGreatDoor
