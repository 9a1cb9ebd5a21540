/- The walk of the specification's CutFile. -/
import Derived.Test.YtapdmngljokdmaaDVars
import Derived.Deep.DeepCutAuto
import Derived.Deep.RegionWith
namespace Go.Proofs.Ytapdmngljokdmaa
open Go.RowKit
open scoped Classical
set_option linter.unusedVariables false
attribute [local go_sem ↓] Go.wp_at_zero Go.wp_at_succ

set_option maxRecDepth 100000 in
set_option maxHeartbeats 1600000 in
theorem specCut_any (ba ga ca : Nat) (fs : List FileL) (nm : List UInt8) (many : Int) (w : World) (hA : RowAt w ba ga ca fs) (hl : fs.length ≤ 2000000) (hf : FewF fs 1048576) :
    Calls Try.prog 29 #[.agg #[.slice (some ⟨ga, 0, none⟩) fs.length ca], .string ⟨nm.toArray⟩, .int .i64 many] w fun e w' => ∃ v, e = .returned (.tuple #[.agg #[v], .bool (cutF fs nm many).2]) ∧ w'.ownsRow w.heap.size 58 3 v (cutF fs nm many).1.length (filesC (cutF fs nm many).1) ∧ Below w.heap.size w w' := by
  have HA := hide hA
  have HF := hide hf
  have AT := fun (W' : World) (h : W'.ownsRow ba 58 3 (.slice (some ⟨ga, 0, none⟩) fs.length ca) fs.length (filesC fs)) => hide (specAt_any _ ba fs nm W' h hl)
  have CP := fun (W' : World) (h : RowAt W' ba ga ca fs) => hide (specCopy_any ba ga ca fs W' h hl)
  have OK := fun (W' : World) (h : RowAt W' ba ga ca fs) => hide (specDiskOk_any _ ba fs W' h hl hf)
  clear hA hf
  go_enter Try.func29, Try.ntmps29
  go_wp2_with fail
  refine (unhide (CP _ (((unhide HA).alloc _).alloc _))).mono ?_
  rintro e w1 ⟨g, cap, rfl, ho, hb1⟩
  have ST := hide (dvars_copy (HA := unhide HA) ho hb1)
  clear ho hb1 CP HA
  go_upto_region 2 with fail
  obtain ⟨W, hW⟩ : ∃ W, W = w1.alloc (Obj.cells #[Value.slice (some ⟨g, 0, none⟩) fs.length cap] 26) := ⟨_, rfl⟩
  rw [← hW] at ST ⊢
  clear hW
  obtain ⟨b, hb⟩ : ∃ b, b = w1.heap.size := ⟨_, rfl⟩
  rw [← hb] at ST ⊢
  clear hb
  obtain ⟨c0, -, -, -, -⟩ := dvars_cells (unhide ST)
  rcases atF_cases fs nm with h | ⟨j, hj, h, hnm⟩
  · have R := hide (cutF_no fs nm many (.inl (by omega)))
    rw [h] at AT
    go_wp2_with fail
    refine (unhide (AT _ (unhide ST).row)).mono ?_
    rintro e w2 ⟨rfl, hb2⟩
    have ST2 := hide (dvars_below (unhide ST) hb2)
    clear hb2 ST c0
    obtain ⟨c0, c1, c2, f1, f2⟩ := dvars_cells (unhide ST2)
    obtain ⟨r1, r2, r3⟩ := dvars_end (unhide ST2) (.slice (some ⟨g, 0, none⟩) fs.length cap)
    go_wp2
    refine bodyPost_ret (v := .tuple #[.agg #[.slice (some ⟨g, 0, none⟩) fs.length cap], .bool false]) (by simp [results, Try.results29, go_sem, r1]) rfl ?_
    rw [unhide R]
    exact ⟨_, rfl, r2, r3⟩
  · rw [h] at AT
    have hj0 : (0 : Int) ≤ (j : Int) := Int.natCast_nonneg _
    have hj1 : (j : Int) < (fs.length : Int) := by omega
    go_wp2_with fail
    refine (unhide (AT _ (unhide ST).row)).mono ?_
    rintro e w2 ⟨rfl, hb2⟩
    have ST2 := hide (dvars_below (unhide ST) hb2)
    clear hb2 ST c0
    obtain ⟨c0, -, -, -, -⟩ := dvars_cells (unhide ST2)
    by_cases hd : diskOk fs
    · have e1 : decide (diskOk fs) = true := decide_eq_true hd
      rw [e1] at OK
      go_wp2_with fail
      refine (unhide (OK _ (unhide ST2).row)).mono ?_
      rintro e w3 ⟨rfl, hb3⟩
      have ST3 := hide (dvars_below (unhide ST2) hb3)
      have hq := (unhide HF) _ (List.getElem_mem hj)
      clear hb3 ST2 c0 HF
      obtain ⟨c0, -, -, -, -⟩ := dvars_cells (unhide ST3)
      obtain ⟨-, x2, -⟩ := filesC_cell (unhide ST3).row hj
      by_cases hm0 : many < 0
      · have R := hide (cutF_many fs nm many j hj h (.inl hm0))
        go_wp2_with fail
        refine (in_low _ _ _ _ hm0).mono ?_
        rintro e w3 ⟨rfl, rfl⟩
        clear c0 x2
        obtain ⟨c0, c1, c2, f1, f2⟩ := dvars_cells (unhide ST3)
        obtain ⟨r1, r2, r3⟩ := dvars_end (unhide ST3) (.slice (some ⟨g, 0, none⟩) fs.length cap)
        go_wp2
        refine bodyPost_ret (v := .tuple #[.agg #[.slice (some ⟨g, 0, none⟩) fs.length cap], .bool false]) (by simp [results, Try.results29, go_sem, r1]) rfl ?_
        rw [unhide R]
        exact ⟨_, rfl, r2, r3⟩
      · by_cases hm1 : ((fs[j]).data.length : Int) < many
        · have R := hide (cutF_many fs nm many j hj h (.inr hm1))
          go_wp2_with fail
          refine (in_high _ _ _ _ (by omega) hm1).mono ?_
          rintro e w3 ⟨rfl, rfl⟩
          clear c0 x2
          obtain ⟨c0, c1, c2, f1, f2⟩ := dvars_cells (unhide ST3)
          obtain ⟨r1, r2, r3⟩ := dvars_end (unhide ST3) (.slice (some ⟨g, 0, none⟩) fs.length cap)
          go_wp2
          refine bodyPost_ret (v := .tuple #[.agg #[.slice (some ⟨g, 0, none⟩) fs.length cap], .bool false]) (by simp [results, Try.results29, go_sem, r1]) rfl ?_
          rw [unhide R]
          exact ⟨_, rfl, r2, r3⟩
        · obtain ⟨m, rfl⟩ : ∃ m : Nat, many = (m : Int) := ⟨many.toNat, by omega⟩
          have R := hide (cutF_yes fs nm m j hj h hd (by omega))
          go_wp2_with fail
          refine (in_yes _ _ _ _ (by omega) (by omega)).mono ?_
          rintro e w3 ⟨rfl, rfl⟩
          clear c0 x2
          obtain ⟨c0, c1, c2, f1, f2⟩ := dvars_cells (unhide ST3)
          obtain ⟨d1, d2, d3⟩ := filesC_cell (unhide ST3).row2 hj
          have g2 := (unhide ST3).row2.frozenAt (j * 3 + 1)
          have hm2 : m ≤ (fs[j]).data.length := by omega
          have RR := hide (dvars_store (unhide ST3) _ _ (set_data fs j ((fs[j]).data.take m) hj) (by simp))
          have hm3 : (0 : Int) ≤ (m : Int) := Int.natCast_nonneg _
          have hm4 : (m : Int) ≤ ((fs[j]).data.length : Int) := by omega
          generalize hq : fs[j] = q at d1 d2 d3 R RR hm2 hm4
          have ecut : (⟨q.data.toArray⟩ : ByteArray).extract 0 m = ⟨(q.data.take m).toArray⟩ := by apply ByteArray.ext; simp [ByteArray.data_extract]
          go_wp2_with fail
          go_region
          have ST4 := hide (dvars_drew (unhide RR))
          clear RR ST3 c0 c1 c2 f1 f2 d1 d2 d3 g2
          generalize (w3.setCell ⟨g, j * 3 + 1, none⟩ (.string ⟨(q.data.take m).toArray⟩)).drew = W4 at ST4 ⊢
          have hj2 : j < (fs.set j ⟨q.name, q.data.take m, q.safe⟩).length := by simpa using hj
          obtain ⟨c0, c1, c2, f1, f2⟩ := dvars_cells (unhide ST4)
          obtain ⟨d1, d2, d3⟩ := filesC_cell (unhide ST4).row2 hj2
          have g3 := (unhide ST4).row2.frozenAt (j * 3 + 2)
          have RR := hide (dvars_safe (unhide ST4) hj2 (m : Int))
          simp only [List.getElem_set_self, List.set_set] at RR d1 d2 d3
          rw [List.length_set] at c2
          obtain ⟨r1, r2, r3⟩ := dvars_end (unhide RR) (.slice (some ⟨g, 0, none⟩) fs.length cap)
          unfold RowAt at r2
          go_wp2
          refine bodyPost_ret (v := .tuple #[.agg #[.slice (some ⟨g, 0, none⟩) fs.length cap], .bool true]) (by simp [results, Try.results29, go_sem, r1]) rfl ?_
          rw [unhide R]
          exact ⟨_, rfl, by rw [List.length_set] at r2 ⊢; exact r2, r3⟩
    · have R := hide (cutF_no fs nm many (.inr hd))
      have e1 : decide (diskOk fs) = false := decide_eq_false hd
      rw [e1] at OK
      go_wp2_with fail
      refine (unhide (OK _ (unhide ST2).row)).mono ?_
      rintro e w3 ⟨rfl, hb3⟩
      have ST3 := hide (dvars_below (unhide ST2) hb3)
      clear hb3 ST2 c0
      obtain ⟨c0, c1, c2, f1, f2⟩ := dvars_cells (unhide ST3)
      obtain ⟨r1, r2, r3⟩ := dvars_end (unhide ST3) (.slice (some ⟨g, 0, none⟩) fs.length cap)
      go_wp2
      refine bodyPost_ret (v := .tuple #[.agg #[.slice (some ⟨g, 0, none⟩) fs.length cap], .bool false]) (by simp [results, Try.results29, go_sem, r1]) rfl ?_
      rw [unhide R]
      exact ⟨_, rfl, r2, r3⟩
end Go.Proofs.Ytapdmngljokdmaa
