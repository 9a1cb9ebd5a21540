/- Plain parts of a start at which listed variables hold what their text lays. -/
import Derived.Test.YtpkcblnkgonnoaaDoorImplRd
import Derived.Test.YtpkcblnkgonnoaaDoorTie
import Derived.Test.YtpkcblnkgonnoaaDoorCards
import Derived.WalkKit
import Derived.ProofKit
import Derived.OpenShut
import Derived.ShutString
import Derived.Deep.DeepHandedRow
import Derived.Stop.LaidErr
namespace Go.Proofs.YtpkcblnkgonnoaaDoor
open Go.ChangeShapes Go.WideShapes Go.ChangeAt Go.RowKit

theorem own : ownKnob Tryd.prog.godebug = none := by kernel_rfl
theorem laidOut : laidOutB Tryd.prog = true := by kernel_rfl
theorem gPow : Tryd.prog.globalNamed powName = some 3 := by kernel_rfl
theorem gPowType : (Tryd.prog.globals[3]?).map (·.type) = some 66 := by kernel_rfl
theorem cellsPow : Tryd.prog.cellsOf 66 = 20 := by kernel_rfl
theorem cellsU64 : Tryd.prog.cellsOf 53 = 1 := by kernel_rfl
theorem pow_tail {W : World} {rest : List (String × DataW Unit)} (h : laidMet Tryd.prog ((powName, Lib.tabData .u64 Lib.pow10Tab) :: rest) W) : Pow W :=
  Lib.tabIs_of_head gPow gPowType Tryd.underlying66 Tryd.underlying53 cellsU64 cellsPow h
theorem pow_below {w w' : World} (hb : Below w.heap.size w w') (h : Pow w) : Pow w' := by
  have hc := Lib.TabIs.cell h gPow 0 (by decide)
  exact var?_below hb gPow (World.block_lt_of_cell? w _ hc) h
theorem laid_iface {n nm : String} {d : DataW Unit} {r : List (String × DataW Unit)} {W : World} {g ti : Nat} {ms : Array (String × TypeId)} (h : laidMet Tryd.prog ((n, .iface nm d) :: r) W)
    (hg : Tryd.prog.globalNamed n = some g) (ht : (Tryd.prog.globals[g]?).map (·.type) = some ti) (hi : Tryd.prog.underlying ti = some (.interface ms)) : ∃ u v, W.cell? ⟨g, 0, none⟩ = some (.iface u v) := by
  obtain ⟨ps, ⟨g0, t0, cs0, f0, p0, q0, hg0, ht0, hv0, hd0, _, e0⟩, _, _⟩ := h
  obtain rfl := Option.some.inj (hg.symm.trans hg0)
  obtain rfl := Option.some.inj (ht.symm.trans ht0)
  obtain ⟨l0⟩ := cs0
  obtain ⟨f1, u, v, hl, _, _⟩ := iface_of_trod hi hd0
  replace hl : l0 = [.iface u v] := hl
  subst hl
  exact ⟨u, v, by simpa using World.var?_cell hg0 hv0 0⟩
/-- The cells that a datum of plain numbers lays. -/
def litCell : DataW Unit → Value
  | .lit (.int k z) => .int k z
  | _ => .bool false
def datCells : DataW Unit → Array Value
  | .agg l => (l.map litCell).toArray
  | _ => #[]
/-- A world whose block g holds these cells. -/
def patch (w : World) (g : Nat) (cs : Array Value) : World :=
  { w with heap := w.heap.modify g fun
      | .cells _ t fr => .cells cs t fr
      | o => o }
def errText : DataW Unit → ByteArray
  | .iface _ (.ptr (.agg [.lit (.string l)])) => ⟨l.toArray⟩
  | _ => ByteArray.empty
/-- The start: the tables and the errors of the library laid into it. -/
def start (w : World) (low : Nat) : World := patch (patch (patch (patch (patch w 3 (datCells Rows.laid_internal_strconv_uint64pow10)) 4 (datCells Rows.laid_math_bits_deBruijn32tab)) 5 (datCells Rows.laid_math_bits_deBruijn64tab)) 1 #[.iface 74 (.pointer (some ⟨low, 0, none⟩))]) 2 #[.iface 74 (.pointer (some ⟨low + 1, 0, none⟩))]
end Go.Proofs.YtpkcblnkgonnoaaDoor
