/- A number brought between two others. Nothing here speaks of the program. -/
import Derived.Test.YtfnkcpjfjijglaaWBase
namespace Go.Proofs.Ytfnkcpjfjijglaa
open Go.RowKit

/-- n brought into l .. m; l where m is below it. -/
def brI (n l m : Int) : Int := if n < l ∨ m < l then l else if m < n then m else n
theorem brI_in (n l m : Int) (h : l ≤ m) : l ≤ brI n l m ∧ brI n l m ≤ m := by
  unfold brI; split
  · omega
  · split <;> omega
theorem brI_stays (n l m : Int) (h : l ≤ m) : brI (brI n l m) l m = brI n l m := by
  obtain ⟨h1, h2⟩ := brI_in n l m h
  generalize brI n l m = b at h1 h2
  unfold brI
  rw [if_neg (by omega), if_neg (by omega)]
end Go.Proofs.Ytfnkcpjfjijglaa
