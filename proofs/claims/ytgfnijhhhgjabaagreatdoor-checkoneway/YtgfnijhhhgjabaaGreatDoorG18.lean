import Derived.Test.YtgfnijhhhgjabaaGreatDoorG23
import Derived.Deep.RegionHeld3
section
namespace Go.Proofs.YtgfnijhhhgjabaaGreatDoor
open Go.RowKit Go.Maps
set_option linter.unusedVariables false
set_option linter.unusedSimpArgs false
attribute [local go_sem ↓] Go.wp_at_zero Go.wp_at_succ

theorem run_neqA (x : A5) (w : World) : (binOp .neq 58 (.agg #[.int .i8 x.g, .string x.t.v, .int .i8 x.t.a.k, .int .i64 x.t.a.n, .string x.t.a.s]) (.agg #[.int .i8 x.g, .string x.t.v, .int .i8 x.t.a.k, .int .i64 x.t.a.n, .string x.t.a.s])).run Tryz.prog w = .ok (.bool false) w := by go_simp
theorem run_eqA (x : A5) (w : World) : (binOp .eql 58 (.agg #[.int .i8 x.g, .string x.t.v, .int .i8 x.t.a.k, .int .i64 x.t.a.n, .string x.t.a.s]) (.agg #[.int .i8 x.g, .string x.t.v, .int .i8 x.t.a.k, .int .i64 x.t.a.n, .string x.t.a.s])).run Tryz.prog w = .ok (.bool true) w := by go_simp
end Go.Proofs.YtgfnijhhhgjabaaGreatDoor
end
section
namespace Go.Proofs.YtgfnijhhhgjabaaGreatDoor
open Go.RowKit Go.Maps
set_option linter.unusedVariables false
set_option linter.unusedSimpArgs false
attribute [local go_sem ↓] Go.wp_at_zero Go.wp_at_succ
attribute [-go_sem] loadVar storeVar

theorem next_ofL {wc u v : World} (h : Below wc.heap.size wc u) (b : Below u.heap.size u v) : Below wc.heap.size wc v := h.trans (b.mono h.size)
end Go.Proofs.YtgfnijhhhgjabaaGreatDoor
end
