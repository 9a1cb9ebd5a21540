/- The walk of the program's Brought: the number brought between the two others. -/
import Derived.Test.YtpkcblnkgonnoaaDoorInfo
namespace Go.Proofs.YtpkcblnkgonnoaaDoor
open Go.RowKit

/-- n brought into l .. m; l where m is below it. -/
def brI (n l m : Int) : Int := if n < l ∨ m < l then l else if m < n then m else n
theorem brI_in (n l m : Int) (h : l ≤ m) : l ≤ brI n l m ∧ brI n l m ≤ m := by
  unfold brI; split
  · omega
  · split <;> omega
theorem brI_stays (n l m : Int) (h : l ≤ m) : brI (brI n l m) l m = brI n l m := by
  obtain ⟨h1, h2⟩ := brI_in n l m h
  generalize brI n l m = b at h1 h2
  unfold brI
  rw [if_neg (by omega), if_neg (by omega)]
set_option maxHeartbeats 400000 in
theorem brought_any (n l m : Int) (w : World) : Calls Tryd.prog 10 #[.int .i64 n, .int .i64 l, .int .i64 m] w fun e w' => e = .returned (.int .i64 (brI n l m)) ∧ w' = w := by
  by_cases h1 : n < l
  · by_cases h2 : m < l
    all_goals
      go_enter Tryd.func10, Tryd.ntmps10
      go_wp2
      go_ret
      exact ⟨ret_int (by unfold brI; rw [if_pos (by omega)]), rfl⟩
  · by_cases h2 : m < l
    · go_enter Tryd.func10, Tryd.ntmps10
      go_wp2
      go_ret
      exact ⟨ret_int (by unfold brI; rw [if_pos (by omega)]), rfl⟩
    · by_cases h3 : m < n
      · go_enter Tryd.func10, Tryd.ntmps10
        go_wp2
        go_ret
        exact ⟨ret_int (by unfold brI; rw [if_neg (by omega), if_pos h3]), rfl⟩
      · go_enter Tryd.func10, Tryd.ntmps10
        go_wp2
        go_ret
        exact ⟨ret_int (by unfold brI; rw [if_neg (by omega), if_neg (by omega)]), rfl⟩
end Go.Proofs.YtpkcblnkgonnoaaDoor
