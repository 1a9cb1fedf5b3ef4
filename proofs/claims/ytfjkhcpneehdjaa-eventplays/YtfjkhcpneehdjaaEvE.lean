/- The library's heap over a row of events: up, down. -/
import Derived.Test.YtfjkhcpneehdjaaEvD
namespace Go.Proofs.Ytfjkhcpneehdjaa
open Go.RowKit Qu Go.Maps
set_option linter.unusedVariables false
set_option linter.unusedSimpArgs false

theorem mLess (a : Addr) (ao : Option Addr) (n cap : Nat) (W : World) (h : W.cell? a = some (.slice ao n cap)) : (method 195 63 (.pointer (some a)) "Less").run Try.prog W = .ok (52, .slice ao n cap) W := by
  have e : (method 195 63 (.pointer (some a)) "Less").run Try.prog W = (do let v ← loadVar 49 a; pure (52, v) : Sem (FuncId × Value)).run Try.prog W := by kernel_rfl
  rw [e]
  go_simp
theorem mSwap (a : Addr) (ao : Option Addr) (n cap : Nat) (W : World) (h : W.cell? a = some (.slice ao n cap)) : (method 195 63 (.pointer (some a)) "Swap").run Try.prog W = .ok (53, .slice ao n cap) W := by
  have e : (method 195 63 (.pointer (some a)) "Swap").run Try.prog W = (do let v ← loadVar 49 a; pure (53, v) : Sem (FuncId × Value)).run Try.prog W := by kernel_rfl
  rw [e]
  go_simp
theorem mLen (a : Addr) (ao : Option Addr) (n cap : Nat) (W : World) (h : W.cell? a = some (.slice ao n cap)) : (method 195 63 (.pointer (some a)) "Len").run Try.prog W = .ok (51, .slice ao n cap) W := by
  have e : (method 195 63 (.pointer (some a)) "Len").run Try.prog W = (do let v ← loadVar 49 a; pure (51, v) : Sem (FuncId × Value)).run Try.prog W := by kernel_rfl
  rw [e]
  go_simp
theorem mPush (a : Addr) (W : World) : (method 195 63 (.pointer (some a)) "Push").run Try.prog W = .ok (59, .pointer (some a)) W := by kernel_rfl
theorem mPop (a : Addr) (W : World) : (method 195 63 (.pointer (some a)) "Pop").run Try.prog W = .ok (58, .pointer (some a)) W := by kernel_rfl
end Go.Proofs.Ytfjkhcpneehdjaa
