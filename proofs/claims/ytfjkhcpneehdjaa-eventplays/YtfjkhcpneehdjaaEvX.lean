/- Events are held against each other. -/
import Derived.Test.YtfjkhcpneehdjaaEvW
namespace Go.Proofs.Ytfjkhcpneehdjaa
open Go.RowKit Qu Go.Maps
set_option linter.unusedVariables false
set_option linter.unusedSimpArgs false
set_option maxRecDepth 100000

theorem neq_same (x : Ev) (W : World) : (binOp BinOp.neq 34 (.agg #[.int .i64 x.t, .int .i64 x.nd, .string x.v, .int .i64 x.fr, .int .i64 x.sq, .bool x.an]) (.agg #[.int .i64 x.t, .int .i64 x.nd, .string x.v, .int .i64 x.fr, .int .i64 x.sq, .bool x.an])).run Try.prog W = .ok (.bool false) W := by
  go_simp
theorem eql_same (x : Ev) (W : World) : (binOp BinOp.eql 34 (.agg #[.int .i64 x.t, .int .i64 x.nd, .string x.v, .int .i64 x.fr, .int .i64 x.sq, .bool x.an]) (.agg #[.int .i64 x.t, .int .i64 x.nd, .string x.v, .int .i64 x.fr, .int .i64 x.sq, .bool x.an])).run Try.prog W = .ok (.bool true) W := by
  go_simp
end Go.Proofs.Ytfjkhcpneehdjaa
