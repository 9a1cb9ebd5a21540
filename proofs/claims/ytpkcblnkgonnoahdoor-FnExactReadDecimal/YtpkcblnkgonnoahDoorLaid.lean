/- What the row's list gives: the table of the powers of ten; and a start at which the listed variables hold what their text lays. -/
import Derived.Test.YtpkcblnkgonnoahDoorDecW
import Derived.Test.YtpkcblnkgonnoahDoorTie
import Derived.Test.YtpkcblnkgonnoahDoorCards
import Derived.WalkKit
import Derived.ProofKit
import Derived.OpenShut
import Derived.Deep.DeepHandedRow
import Derived.Stop.LaidErr
namespace Go.Proofs.YtpkcblnkgonnoahDoor
open Go.ChangeShapes Go.WideShapes Go.ChangeAt Go.RowKit

theorem own : ownKnob Tryd.prog.godebug = none := by kernel_rfl
theorem gPow : Tryd.prog.globalNamed (Rows.fnExactDecimalRow.named.getD 0 default) = some 2 := by kernel_rfl
theorem gPowType : (Tryd.prog.globals[2]?).map (·.type) = some 56 := by kernel_rfl
theorem cells56 : Tryd.prog.cellsOf 56 = 20 := by kernel_rfl
theorem cells42 : Tryd.prog.cellsOf 42 = 1 := by kernel_rfl
theorem pow_tail {W : World} {rest : List (String × DataW Unit)} (h : laidMet Tryd.prog ((Rows.fnExactDecimalRow.named.getD 0 default, Lib.tabData .u64 Lib.pow10Tab) :: rest) W) : Pow W :=
  Lib.tabIs_of_head gPow gPowType Tryd.underlying56 Tryd.underlying42 cells42 cells56 h
theorem pow_dec {W : World} (h : laidMetH Tryd.prog Rows.fnExactDecimalRow.laid W) : Pow W := by
  have h1 : laidMet Tryd.prog Rows.fnExactDecimalRow.laid W := h
  have h2 := laidMet.tail (laidMet.tail h1)
  exact pow_tail h2
theorem pow_below {w w' : World} (hb : Below w.heap.size w w') (h : Pow w) : Pow w' := by
  have hc := Lib.TabIs.cell h gPow 0 (by decide)
  exact var?_below hb gPow (World.block_lt_of_cell? w _ hc) h
/-- The cells that a datum of plain numbers lays. -/
def litCell : DataW Unit → Value
  | .lit (.int k z) => .int k z
  | _ => .bool false
def datCells : DataW Unit → Array Value
  | .agg l => (l.map litCell).toArray
  | _ => #[]
/-- A world whose block g holds these cells. -/
def patch (w : World) (g : Nat) (cs : Array Value) : World :=
  { w with heap := w.heap.modify g fun
      | .cells _ t fr => .cells cs t fr
      | o => o }
end Go.Proofs.YtpkcblnkgonnoahDoor
