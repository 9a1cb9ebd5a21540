/- The walk of the specification's Reaches. -/
import Derived.Test.YtnpfboligmnhpaaSpecPlans
namespace Go.Proofs.Ytnpfboligmnhpaa
open Go.RowKit
open scoped Classical
set_option linter.unusedVariables false
attribute [local go_sem ↓] Go.wp_at_zero Go.wp_at_succ

end Go.Proofs.Ytnpfboligmnhpaa
