import Derived.Test.YtjdnpgpbeppgjaaGreatDoorCards
import Derived.Test.YtjdnpgpbeppgjaaGreatDoorTie
import Derived.ProofKit
import Derived.OpenShut
import Derived.ShutString
import Derived.Lib.SmallJoins
import Derived.Deep.DeepHandedRow
import Derived.Lib.LaidTab
import Derived.Stop.LaidErr
import Derived.SevenTiedAt
set_option linter.unusedVariables false
set_option maxHeartbeats 8000000
set_option maxRecDepth 100000
namespace Go.Proofs.YtjdnpgpbeppgjaaGreatDoor
open Go.ChangeShapes Go.WideShapes Go.ChangeAt Go.RowKit Go.Joins
open Go.ChangeMaps (open_string shut_string)
namespace PlanRightsCard
theorem Zbe{a b:Bool}(ha:a=true)(hb:b=true):(a&&b)=true:=by rw[ha,hb];rfl
theorem Zo6:joinedFacts Tryz.pinned.checked.prog 4 Tryz.f4 (Rows.OpenSpec.upto Rows.planRightsSpec).bare Rows.planRightsUptoRow=true:=by
 unfold joinedFacts;refine Zbe (Zbe (Zbe (Zbe (Zbe (Zbe (Zbe (Zbe (Zbe (Zbe (Zbe (Zbe (Zbe (Zbe (Zbe (Zbe (Zbe (Zbe (Zbe (Zbe (Zbe (Zbe (Zbe (Zbe (Zbe (Zbe (Zbe (Zbe (Zbe (Zbe (Zbe ?_ ?_) ?_) ?_) ?_) ?_) ?_) ?_) ?_) ?_) ?_) ?_) ?_) ?_) ?_) ?_) ?_) ?_) ?_) ?_) ?_) ?_) ?_) ?_) ?_) ?_) ?_) ?_) ?_) ?_) ?_) ?_
 all_goals(as_aux_lemma=>kernel_rfl)
end PlanRightsCard
end Go.Proofs.YtjdnpgpbeppgjaaGreatDoor
