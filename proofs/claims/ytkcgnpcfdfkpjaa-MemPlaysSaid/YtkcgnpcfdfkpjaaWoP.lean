/- Plain means for the contracts of package word. -/
import Derived.Test.YtkcgnpcfdfkpjaaPl1
import Derived.ProofKit
import Derived.OpenShut
import Derived.Handy
namespace Go.Proofs.Ytkcgnpcfdfkpjaa
open Go.RowKit
set_option linter.unusedVariables false
theorem ret_u64i64 {a b c : Int} (h : a = b) : Ending.returned (.tuple #[.int .u64 a, .int .i64 c]) = .returned (.tuple #[.int .u64 b, .int .i64 c]) := by rw [h]
end Go.Proofs.Ytkcgnpcfdfkpjaa
