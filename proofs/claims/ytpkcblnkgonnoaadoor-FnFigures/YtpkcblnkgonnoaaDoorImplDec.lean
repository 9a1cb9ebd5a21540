/- The walk of the program's own Decimal: it answers the number's decimal numeral, at every int. -/
import Derived.Test.YtpkcblnkgonnoaaDoorInfo
import Derived.Test.YtpkcblnkgonnoaaDoorDecBase
import Derived.Test.YtpkcblnkgonnoaaDoorShelf
import Derived.Lib.LaidTab
import Derived.Lib.AppendIntMem
namespace Go.Proofs.YtpkcblnkgonnoaaDoor
open Go.RowKit

/-- The name of the table of the powers of ten. -/
def powName : String := Rows.fnFiguresRow.named.getD 0 default
/-- The table of the powers of ten lies where the library reads it. -/
def Pow (w : World) : Prop := Lib.TabIs Tryd.prog w powName .u64 Lib.pow10Tab
set_option maxHeartbeats 400000 in
theorem implDec_any (n : Int) (w : World) (h0 : -9223372036854775808 ≤ n) (h1 : n ≤ 9223372036854775807) (ht : Pow w) :
    Calls Tryd.prog 6 #[.int .i64 n] w fun e w' => e = .returned (.string ⟨(Lib.itoa n).toArray⟩) ∧ Below w.heap.size w w' := by
  have c := hide (Any.strconv_Itoa laysM171 n h0 h1 w ht)
  clear ht
  go_enter Tryd.func6, Tryd.ntmps6
  go_wp2_with fail
  refine (unhide c).mono ?_
  rintro e w1 ⟨rfl, k, os, rfl⟩
  go_wp2
  go_ret
  exact ⟨rfl, Lib.below_grow _ _ (Nat.le_refl _) _ _⟩
end Go.Proofs.YtpkcblnkgonnoaaDoor
