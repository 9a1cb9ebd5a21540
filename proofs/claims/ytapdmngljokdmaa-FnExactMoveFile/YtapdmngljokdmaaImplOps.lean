/- The walks of the program's own functions that write into one file of a disk of the call's own, or put a new file behind the others. -/
import Derived.Test.YtapdmngljokdmaaImplCopy
import Derived.Test.YtapdmngljokdmaaIVars
import Derived.Deep.RegionLaw
import Derived.Deep.DeepCutAuto
namespace Go.Proofs.Ytapdmngljokdmaa
open Go.RowKit
set_option linter.unusedVariables false
attribute [local go_sem ↓] Go.wp_at_zero Go.wp_at_succ

set_option maxRecDepth 100000 in
set_option maxHeartbeats 1600000 in
theorem fsync_any {w W : World} {b ba g cap : Nat} {va : Value} {fs us : List FileL} {r : Value} (ST : IVars w W b ba va g cap fs r us) (j : Nat) (hj : j < us.length) (hd : (us[j]).data.length ≤ 1048576) :
    Calls Try.prog 49 #[.pointer (some ⟨g, j * 3, none⟩)] W fun e w' => e = .returned (.tuple #[]) ∧ IVars w w' b ba va g cap fs r (us.set j ⟨(us[j]).name, (us[j]).data, ((us[j]).data.length : Int)⟩) := by
  obtain ⟨d1, d2, d3⟩ := filesC_cell ST.row2 hj
  have g3 := World.ownsRow.frozenAt ST.row2 (j * 3 + 2)
  have RR := hide (ivars_safe ST hj ((us[j]).data.length : Int))
  clear ST
  generalize us[j] = q at d1 d2 d3 RR hd
  go_enter Try.func49, Try.ntmps49
  go_wp2
  go_end0
  exact ⟨rfl, unhide RR⟩
set_option maxRecDepth 100000 in
set_option maxHeartbeats 1600000 in
theorem frename_any {w W : World} {b ba g cap : Nat} {va : Value} {fs us : List FileL} {r : Value} (ST : IVars w W b ba va g cap fs r us) (j : Nat) (hj : j < us.length) (nm : List UInt8) (hn : nm.length ≤ 1048576) :
    Calls Try.prog 48 #[.pointer (some ⟨g, j * 3, none⟩), .string ⟨nm.toArray⟩] W fun e w' => e = .returned (.tuple #[]) ∧ IVars w w' b ba va g cap fs r (us.set j ⟨nm, (us[j]).data, (us[j]).safe⟩) := by
  have HS := hide ST
  clear ST
  have HN := hide (set_name us j nm hj)
  have FC := fun (W' : World) (h : W'.ownsRow (w.heap.size + 1 + 1) 58 3 (.slice (some ⟨g, 0, none⟩) us.length cap) us.length (filesC us)) => hide (filesC_cell h hj)
  generalize us[j] = q at HN FC ⊢
  go_enter Try.func48, Try.ntmps48
  go_wp2_with fail
  refine (implClone_any nm _ (by omega)).mono ?_
  rintro e w1 ⟨rfl, hb1⟩
  have ST := ivars_below (unhide HS) hb1
  obtain ⟨d1, d2, d3⟩ := unhide (FC _ ST.row2)
  have g3 := World.ownsRow.frozenAt ST.row2 (j * 3)
  have RR := hide (ivars_store ST _ _ (unhide HN) (by simp))
  clear ST HS hb1 HN FC
  go_wp2
  go_end0
  exact ⟨rfl, unhide RR⟩
theorem cut_take (l : List UInt8) (n : Nat) : (⟨l.toArray⟩ : ByteArray).extract 0 n = ⟨(l.take n).toArray⟩ := by
  apply ByteArray.ext; simp [ByteArray.data_extract]
set_option maxRecDepth 100000 in
set_option maxHeartbeats 1600000 in
theorem fcut_any {w W : World} {b ba g cap : Nat} {va : Value} {fs us : List FileL} {r : Value} (ST : IVars w W b ba va g cap fs r us) (j : Nat) (hj : j < us.length) (many : Nat) (hm : many ≤ (us[j]).data.length) (hd : (us[j]).data.length ≤ 1048576) :
    Calls Try.prog 50 #[.pointer (some ⟨g, j * 3, none⟩), .int .i64 (many : Int)] W fun e w' => e = .returned (.tuple #[]) ∧ IVars w w' b ba va g cap fs r (us.set j ⟨(us[j]).name, (us[j]).data.take many, (many : Int)⟩) := by
  have HS := hide ST
  obtain ⟨d1, d2, d3⟩ := filesC_cell ST.row2 hj
  clear ST
  have HN := hide (set_data us j ((us[j]).data.take many) hj)
  have FC := fun (W' : World) (h : W'.ownsRow (w.heap.size + 1 + 1) 58 3 (.slice (some ⟨g, 0, none⟩) us.length cap) us.length (filesC us)) => hide (filesC_cell h hj)
  have hset : Hid ((us.set j ⟨(us[j]).name, (us[j]).data.take many, (us[j]).safe⟩)[j]'(by rw [List.length_set]; exact hj) = ⟨(us[j]).name, (us[j]).data.take many, (us[j]).safe⟩) := hide (by simp)
  generalize us[j] = q at d1 d2 d3 hm hd HN FC hset ⊢
  have hm0 : (0 : Int) ≤ (many : Int) := Int.natCast_nonneg _
  have hm1 : (many : Int) ≤ (q.data.length : Int) := by omega
  have htl : (q.data.take many).length = many := by rw [List.length_take]; omega
  go_enter Try.func50, Try.ntmps50
  go_wp2_with fail
  rw [cut_take]
  refine (implClone_any (q.data.take many) _ (by rw [htl]; omega)).mono ?_
  rintro e w1 ⟨rfl, hb1⟩
  have ST := ivars_below (unhide HS) hb1
  clear d1 d2 d3
  obtain ⟨d1, d2, d3⟩ := unhide (FC _ ST.row2)
  have g2 := World.ownsRow.frozenAt ST.row2 (j * 3 + 1)
  have RR := hide (ivars_store ST _ _ (unhide HN) (by simp))
  clear ST HS hb1 HN FC
  go_wp2_with fail
  have SY := hide (fsync_any (unhide RR) j (by rw [List.length_set]; exact hj) (by rw [unhide hset]; simp only [htl]; omega))
  rw [unhide hset] at SY
  simp only [List.set_set, htl] at SY
  refine (unhide SY).mono ?_
  rintro e w2 ⟨rfl, h2⟩
  have R := hide h2
  clear h2 SY RR d1 d2 d3 g2
  go_wp2
  go_end0
  exact ⟨rfl, unhide R⟩
set_option maxRecDepth 100000 in
set_option maxHeartbeats 1600000 in
theorem fwrite_any {w W : World} {b ba g cap : Nat} {va : Value} {fs us : List FileL} {r : Value} (ST : IVars w W b ba va g cap fs r us) (j : Nat) (hj : j < us.length) (more : List UInt8) (hm : more.length ≤ 1048576) (hd : (us[j]).data.length ≤ 1048576) :
    Calls Try.prog 38 #[.pointer (some ⟨g, j * 3, none⟩), .string ⟨more.toArray⟩] W fun e w' => e = .returned (.tuple #[]) ∧ IVars w w' b ba va g cap fs r (us.set j ⟨(us[j]).name, (us[j]).data ++ more, (us[j]).safe⟩) := by
  have HS := hide ST
  obtain ⟨d1, d2, d3⟩ := filesC_cell ST.row2 hj
  have g2 := World.ownsRow.frozenAt ST.row2 (j * 3 + 1)
  have RR := fun W1 (h : Below W.drew.heap.size W.drew W1) => hide (ivars_store (ivars_below (ivars_drew (unhide HS)) h) _ _ (set_data us j ((us[j]).data ++ more) hj) (by simp))
  clear ST
  generalize us[j] = q at d1 d2 d3 RR hd
  have eap := append_mk q.data more
  go_enter Try.func38, Try.ntmps38
  go_wp2_with fail
  go_region_with ((go_at_call 41; refine (implClone_any more _ (by omega)).mono ?_; rintro e w1 ⟨rfl, hb1⟩; have x2 := cell_later hb1 d2; have x3 := frozen_later hb1 d2 g2))
  all_goals
    have R := RR _ hb1
    clear RR x2 x3 hb1 d1 d2 d3 g2
    go_wp2
    go_end0
    exact ⟨rfl, unhide R⟩
theorem made_room {w W w1 : World} {b ba g cap : Nat} {va : Value} {fs us : List FileL} {r : Value} (ST : IVars w W b ba va g cap fs r us) (hb1 : Below W.drew.heap.size W.drew w1) (o : Obj) : w.heap.size + 1 + 1 ≤ (w1.alloc o).heap.size := by
  have h1 := (Array.getElem?_eq_some_iff.1 (ivars_below (ivars_drew ST) hb1).res).1
  simp only [World.alloc, Array.size_push]; omega
theorem made_app {w W w1 w3 : World} {b ba g cap g' cap' : Nat} {va : Value} {fs us : List FileL} {r : Value} {nm : List UInt8} {o : Obj} (ST : IVars w W b ba va g cap fs r us) (hb1 : Below W.drew.heap.size W.drew w1)
    (ho : w3.ownsRow (w.heap.size + 1 + 1) 58 3 (.slice (some ⟨g', 0, none⟩) (us.length + 1) cap') (us.length + 1) (filesC us ++ fcs ⟨nm, [], 0⟩)) (hgr : (w1.alloc o).grownBy w3 (some g)) :
    w3.cell? ⟨b, 0, none⟩ = some (.slice (some ⟨g, 0, none⟩) us.length cap) ∧ w3.frozen? ⟨b, 0, none⟩ = false ∧ IVars w (w3.setCell ⟨b, 0, none⟩ (.slice (some ⟨g', 0, none⟩) (us.length + 1) cap')) b ba va g' cap' fs r (us ++ [⟨nm, [], 0⟩]) := by
  have ho4 : w3.ownsRow (w.heap.size + 1 + 1) 58 3 (.slice (some ⟨g', 0, none⟩) (us ++ [(⟨nm, [], 0⟩ : FileL)]).length cap') (us ++ [(⟨nm, [], 0⟩ : FileL)]).length (filesC (us ++ [(⟨nm, [], 0⟩ : FileL)])) := by
    rw [filesC_append, List.length_append]; simpa [filesC] using ho
  obtain ⟨x1, x2, x3⟩ := ivars_append (ivars_below (ivars_drew ST) hb1) ho4 hgr
  rw [List.length_append] at x3
  exact ⟨x1, x2, x3⟩
set_option maxRecDepth 100000 in
set_option maxHeartbeats 1600000 in
theorem made_any {w W : World} {b ba g cap : Nat} {va : Value} {fs us : List FileL} {r : Value} (ST : IVars w W b ba va g cap fs r us) (hl : us.length ≤ 1048576) (nm : List UInt8) (hn : nm.length ≤ 1048576) :
    Calls Try.prog 37 #[.pointer (some ⟨b, 0, none⟩), .string ⟨nm.toArray⟩] W fun e w' => ∃ g' cap', e = .returned (.pointer (some ⟨g', us.length * 3, none⟩)) ∧ IVars w w' b ba va g' cap' fs r (us ++ [⟨nm, [], 0⟩]) := by
  obtain ⟨i0, hi0, hz0, hz1, hz2⟩ := info_parts infoFile
  have HS := hide ST
  obtain ⟨-, -, c2, -, f2⟩ := ivars_cells ST
  clear ST
  go_enter Try.func37, Try.ntmps37
  go_wp2_with fail
  go_region_law (first
    | (go_simp; go_at_call 41; refine (implClone_any nm _ (by omega)).mono ?_; rintro e w1 ⟨rfl, hb1⟩; have x2 := cell_later hb1 c2; have blt : b < w1.heap.size := World.block_lt_of_cell? _ _ x2; go_wp2_with fail)
    | (refine step_append_lies _ (by rfl) _ _ _ (by rfl) (w.heap.size + 1 + 1) 58 i0 _ 3 40 Try.underlying24 hi0 hz0 hz1 hz2 rfl (by omega) _ us.length _ (by rfl) (World.ownsRow.alloc (ivars_below (ivars_drew (unhide HS)) hb1).row2 _) ⟨w1.heap.size, 0, none⟩ 1 1 (fcs ⟨nm, [], 0⟩) (by rfl) (by rfl) (World.news_of_block (cs := #[.string ⟨nm.toArray⟩, .string ⟨#[]⟩, .int .i64 0]) (t := 58) (fr := (0, 0)) (heap_alloc_new w1 _)) (by simp [fcs, sv, Value.oneCell']) (by omega) (by unfold maxLen; omega) (by omega) (made_room (unhide HS) hb1 _) (w1.heap.size + 1) (by simp) ?_; intro g' cap' w3 ho3 hgr hat1 hlt1; obtain ⟨y1, y2, ST3⟩ := made_app (unhide HS) hb1 ho3 hgr; have H3 := hide ST3; clear ST3 ho3 hgr hat1 hlt1))
  all_goals
    clear hb1 x2 blt y1 y2 c2 f2 HS
    generalize w3.setCell ⟨b, 0, none⟩ (.slice (some ⟨g', 0, none⟩) (us.length + 1) cap') = W5 at H3 ⊢
    obtain ⟨-, -, c5, -, -⟩ := ivars_cells (unhide H3)
    rw [show (us ++ [(⟨nm, [], 0⟩ : FileL)]).length = us.length + 1 from by simp] at c5
    have hk0 : (0 : Int) ≤ (us.length : Int) := Int.natCast_nonneg _
    have hk1 : (us.length : Int) < (us.length : Int) + 1 := by omega
    have R := fun n => hide (ivars_below (unhide H3) (far_drewN W5 n))
    clear H3
    go_wp2_with fail
    go_quiet (fail)
    go_wp2
    go_ret
    exact ⟨g', cap', rfl, unhide (R _)⟩
end Go.Proofs.Ytapdmngljokdmaa
