/- The walks of the program's own functions that write into one file of a disk of the call's own, or put a new file behind the others. -/
import Derived.Test.YtfnkcpjfjijglaaImplCopy
import Derived.Test.YtfnkcpjfjijglaaIVars
import Derived.Deep.RegionLaw
import Derived.Deep.DeepCutAuto
namespace Go.Proofs.Ytfnkcpjfjijglaa
open Go.RowKit
set_option linter.unusedVariables false
attribute [local go_sem ↓] Go.wp_at_zero Go.wp_at_succ

set_option maxRecDepth 100000 in
set_option maxHeartbeats 1600000 in
theorem fsync_any {w W : World} {b ba g cap : Nat} {va : Value} {fs us : List FileL} {r : Value} (ST : IVars w W b ba va g cap fs r us) (j : Nat) (hj : j < us.length) (hd : (us[j]).data.length ≤ 1048576) :
    Calls Try.prog 62 #[.pointer (some ⟨g, j * 3, none⟩)] W fun e w' => e = .returned (.tuple #[]) ∧ IVars w w' b ba va g cap fs r (us.set j ⟨(us[j]).name, (us[j]).data, ((us[j]).data.length : Int)⟩) := by
  obtain ⟨d1, d2, d3⟩ := filesC_cell ST.row2 hj
  have g3 := World.ownsRow.frozenAt ST.row2 (j * 3 + 2)
  have RR := hide (ivars_safe ST hj ((us[j]).data.length : Int))
  clear ST
  generalize us[j] = q at d1 d2 d3 RR hd
  go_enter Try.func62, Try.ntmps62
  go_wp2
  go_end0
  exact ⟨rfl, unhide RR⟩
theorem cut_take (l : List UInt8) (n : Nat) : (⟨l.toArray⟩ : ByteArray).extract 0 n = ⟨(l.take n).toArray⟩ := by
  apply ByteArray.ext; simp [ByteArray.data_extract]
set_option maxRecDepth 100000 in
set_option maxHeartbeats 1600000 in
theorem fcut_any {w W : World} {b ba g cap : Nat} {va : Value} {fs us : List FileL} {r : Value} (ST : IVars w W b ba va g cap fs r us) (j : Nat) (hj : j < us.length) (many : Nat) (hm : many ≤ (us[j]).data.length) (hd : (us[j]).data.length ≤ 1048576) :
    Calls Try.prog 49 #[.pointer (some ⟨g, j * 3, none⟩), .int .i64 (many : Int)] W fun e w' => e = .returned (.tuple #[]) ∧ IVars w w' b ba va g cap fs r (us.set j ⟨(us[j]).name, (us[j]).data.take many, (many : Int)⟩) := by
  have HS := hide ST
  obtain ⟨d1, d2, d3⟩ := filesC_cell ST.row2 hj
  clear ST
  have HN := hide (set_data us j ((us[j]).data.take many) hj)
  have FC := fun (W' : World) (h : W'.ownsRow (w.heap.size + 1 + 1) 34 3 (.slice (some ⟨g, 0, none⟩) us.length cap) us.length (filesC us)) => hide (filesC_cell h hj)
  have hset : Hid ((us.set j ⟨(us[j]).name, (us[j]).data.take many, (us[j]).safe⟩)[j]'(by rw [List.length_set]; exact hj) = ⟨(us[j]).name, (us[j]).data.take many, (us[j]).safe⟩) := hide (by simp)
  generalize us[j] = q at d1 d2 d3 hm hd HN FC hset ⊢
  have hm0 : (0 : Int) ≤ (many : Int) := Int.natCast_nonneg _
  have hm1 : (many : Int) ≤ (q.data.length : Int) := by omega
  have htl : (q.data.take many).length = many := by rw [List.length_take]; omega
  go_enter Try.func49, Try.ntmps49
  go_wp2_with fail
  rw [cut_take]
  refine (implClone_any (q.data.take many) _ (by rw [htl]; omega)).mono ?_
  rintro e w1 ⟨rfl, hb1⟩
  have ST := ivars_below (unhide HS) hb1
  clear d1 d2 d3
  obtain ⟨d1, d2, d3⟩ := unhide (FC _ ST.row2)
  have g2 := World.ownsRow.frozenAt ST.row2 (j * 3 + 1)
  have RR := hide (ivars_store ST _ _ (unhide HN) (by simp))
  clear ST HS hb1 HN FC
  go_wp2_with fail
  have SY := hide (fsync_any (unhide RR) j (by rw [List.length_set]; exact hj) (by rw [unhide hset]; simp only [htl]; omega))
  rw [unhide hset] at SY
  simp only [List.set_set, htl] at SY
  refine (unhide SY).mono ?_
  rintro e w2 ⟨rfl, h2⟩
  have R := hide h2
  clear h2 SY RR d1 d2 d3 g2
  go_wp2
  go_end0
  exact ⟨rfl, unhide R⟩
theorem made_room {w W w1 : World} {b ba g cap : Nat} {va : Value} {fs us : List FileL} {r : Value} (ST : IVars w W b ba va g cap fs r us) (hb1 : Below W.drew.heap.size W.drew w1) (o : Obj) : w.heap.size + 1 + 1 ≤ (w1.alloc o).heap.size := by
  have h1 := (Array.getElem?_eq_some_iff.1 (ivars_below (ivars_drew ST) hb1).res).1
  simp only [World.alloc, Array.size_push]; omega
theorem made_app {w W w1 w3 : World} {b ba g cap g' cap' : Nat} {va : Value} {fs us : List FileL} {r : Value} {nm : List UInt8} {o : Obj} (ST : IVars w W b ba va g cap fs r us) (hb1 : Below W.drew.heap.size W.drew w1)
    (ho : w3.ownsRow (w.heap.size + 1 + 1) 34 3 (.slice (some ⟨g', 0, none⟩) (us.length + 1) cap') (us.length + 1) (filesC us ++ fcs ⟨nm, [], 0⟩)) (hgr : (w1.alloc o).grownBy w3 (some g)) :
    w3.cell? ⟨b, 0, none⟩ = some (.slice (some ⟨g, 0, none⟩) us.length cap) ∧ w3.frozen? ⟨b, 0, none⟩ = false ∧ IVars w (w3.setCell ⟨b, 0, none⟩ (.slice (some ⟨g', 0, none⟩) (us.length + 1) cap')) b ba va g' cap' fs r (us ++ [⟨nm, [], 0⟩]) := by
  have ho4 : w3.ownsRow (w.heap.size + 1 + 1) 34 3 (.slice (some ⟨g', 0, none⟩) (us ++ [(⟨nm, [], 0⟩ : FileL)]).length cap') (us ++ [(⟨nm, [], 0⟩ : FileL)]).length (filesC (us ++ [(⟨nm, [], 0⟩ : FileL)])) := by
    rw [filesC_append, List.length_append]; simpa [filesC] using ho
  obtain ⟨x1, x2, x3⟩ := ivars_append (ivars_below (ivars_drew ST) hb1) ho4 hgr
  rw [List.length_append] at x3
  exact ⟨x1, x2, x3⟩
end Go.Proofs.Ytfnkcpjfjijglaa
