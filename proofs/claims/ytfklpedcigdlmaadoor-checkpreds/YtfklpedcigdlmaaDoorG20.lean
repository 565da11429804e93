import Derived.Test.YtfklpedcigdlmaaDoorTermHand
section
namespace Go.Proofs.YtfklpedcigdlmaaDoor
open Go.RowKit Go.Maps
set_option linter.unusedVariables false
set_option linter.unusedSimpArgs false
attribute [local go_sem ↓] Go.wp_at_zero Go.wp_at_succ

end Go.Proofs.YtfklpedcigdlmaaDoor
end
section
namespace Go.Proofs.YtfklpedcigdlmaaDoor
open Go.RowKit Go.Maps
set_option linter.unusedVariables false
set_option linter.unusedSimpArgs false
attribute [local go_sem ↓] Go.wp_at_zero Go.wp_at_succ

end Go.Proofs.YtfklpedcigdlmaaDoor
end
