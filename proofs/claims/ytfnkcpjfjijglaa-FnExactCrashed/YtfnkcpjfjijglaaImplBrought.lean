/- The walk of the program's Brought: the number brought between the two others. -/
import Derived.Test.YtfnkcpjfjijglaaInfo
import Derived.Test.YtfnkcpjfjijglaaBrBase
namespace Go.Proofs.Ytfnkcpjfjijglaa
open Go.RowKit

set_option maxHeartbeats 400000 in
theorem brought_any (n l m : Int) (w : World) : Calls Try.prog 63 #[.int .i64 n, .int .i64 l, .int .i64 m] w fun e w' => e = .returned (.int .i64 (brI n l m)) ∧ w' = w := by
  by_cases h1 : n < l
  · by_cases h2 : m < l
    all_goals
      go_enter Try.func63, Try.ntmps63
      go_wp2
      go_ret
      exact ⟨ret_int (by unfold brI; rw [if_pos (by omega)]), rfl⟩
  · by_cases h2 : m < l
    · go_enter Try.func63, Try.ntmps63
      go_wp2
      go_ret
      exact ⟨ret_int (by unfold brI; rw [if_pos (by omega)]), rfl⟩
    · by_cases h3 : m < n
      · go_enter Try.func63, Try.ntmps63
        go_wp2
        go_ret
        exact ⟨ret_int (by unfold brI; rw [if_neg (by omega), if_pos h3]), rfl⟩
      · go_enter Try.func63, Try.ntmps63
        go_wp2
        go_ret
        exact ⟨ret_int (by unfold brI; rw [if_neg (by omega), if_neg (by omega)]), rfl⟩
end Go.Proofs.Ytfnkcpjfjijglaa
