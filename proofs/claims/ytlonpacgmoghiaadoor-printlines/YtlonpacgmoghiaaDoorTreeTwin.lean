import Derived.Test.YtlonpacgmoghiaaDoorTreeBeyond
import Derived.Test.YtlonpacgmoghiaaDoorValueShow2
import Derived.Deep.MidRow
namespace Go.Proofs.YtlonpacgmoghiaaDoor
open Go.RowKit Go.Maps
set_option linter.unusedVariables false
set_option linter.unusedSimpArgs false
attribute [local go_sem ↓] Go.wp_at_zero Go.wp_at_succ

abbrev PWt (w : World) : Prop := Lib.TabIs Tryd.prog w "internal/strconv.uint64pow10" .u64 Lib.pow10Tab
end Go.Proofs.YtlonpacgmoghiaaDoor
