/- The walks of the program's own SyncFile and CutFile, and of the copy with a pointer into it that they begin with. -/
import Derived.Test.YtapdmngljokdmaaImplOps
namespace Go.Proofs.Ytapdmngljokdmaa
open Go.RowKit
open scoped Classical
set_option linter.unusedVariables false
attribute [local go_sem ↓] Go.wp_at_zero Go.wp_at_succ

set_option maxRecDepth 100000 in
set_option maxHeartbeats 1600000 in
theorem opened_bad (va : Value) (ba : Nat) (fs : List FileL) (nm : List UInt8) (w : World) (hA : w.ownsRow ba 58 3 va fs.length (filesC fs)) (hl : fs.length ≤ 2000000) (hf : FewF fs 1048576) (hd : ¬ diskOk fs) :
    Calls Try.prog 44 #[.agg #[va], .string ⟨nm.toArray⟩] w fun e w' => ∃ g cap, e = .returned (.tuple #[.agg #[.slice (some ⟨g, 0, none⟩) fs.length cap], .pointer none]) ∧ RowAt w' w.heap.size g cap fs ∧ Below w.heap.size w w' := by
  obtain ⟨aa, ca, rfl, sga⟩ := ownsRow_shape hA
  have HA := hide hA
  have CP := fun (W' : World) (c : W'.cell? ⟨w.heap.size, 0, none⟩ = some (.slice aa fs.length ca)) (h : W'.ownsRow ba 58 3 (.slice aa fs.length ca) fs.length (filesC fs)) => hide (copied_gen w.heap.size ba _ fs W' c h hl hf)
  have OK := fun (W' : World) (g cap B : Nat) (h : RowAt W' B g cap fs) => hide (implDiskOk_any _ B fs W' h hl hf)
  rw [decide_eq_false hd] at OK
  clear hA hf
  go_enter Try.func44, Try.ntmps44
  go_wp2_with fail
  refine (unhide (CP _ (by rw [World.cell?_of_block (Below.heap_alloc _ _ _ (by simp)), cell_of_row _ _ 0 _ _ _ (heap_alloc_new w _)]; rfl) (World.ownsRow.alloc (World.ownsRow.alloc (unhide HA) _) _))).mono ?_
  rintro e w1 ⟨g, cap, rfl, ho, hb1⟩
  have ST := hide (ivars_copy (HA := unhide HA) ho hb1)
  clear ho hb1 CP HA
  go_wp2_with fail
  generalize hW : w1.alloc (Obj.cells #[Value.slice (some ⟨g, 0, none⟩) fs.length cap] 26) = W at ST ⊢
  generalize hb : w1.heap.size = b at ST ⊢
  clear hW hb
  refine (unhide (OK _ _ _ _ (unhide ST).row2)).mono ?_
  rintro e w2 ⟨rfl, hb2⟩
  have ST2 := hide (ivars_below (unhide ST) hb2)
  clear hb2 ST
  obtain ⟨c0, c1, c2, f1, f2⟩ := ivars_cells (unhide ST2)
  obtain ⟨r1, r2, r3⟩ := ivars_end (unhide ST2) (.slice (some ⟨g, 0, none⟩) fs.length cap)
  go_wp2
  refine bodyPost_ret (v := .tuple #[.agg #[.slice (some ⟨g, 0, none⟩) fs.length cap], .pointer none]) (by simp [results, Try.results44, go_sem, r1]) rfl ⟨_, _, rfl, r2, r3⟩
set_option maxRecDepth 100000 in
set_option maxHeartbeats 1600000 in
theorem opened_good (va : Value) (ba : Nat) (fs : List FileL) (nm : List UInt8) (w : World) (hA : w.ownsRow ba 58 3 va fs.length (filesC fs)) (hl : fs.length ≤ 2000000) (hf : FewF fs 1048576) (hd : diskOk fs) (V : Nat → Value)
    (hP : ∀ (b B g cap : Nat) (W : World), W.cell? ⟨b, 0, none⟩ = some (.slice (some ⟨g, 0, none⟩) fs.length cap) → RowAt W B g cap fs → Calls Try.prog 36 #[.pointer (some ⟨b, 0, none⟩), .string ⟨nm.toArray⟩] W fun e w' => e = .returned (V g) ∧ w' = W) :
    Calls Try.prog 44 #[.agg #[va], .string ⟨nm.toArray⟩] w fun e w' => ∃ g cap, e = .returned (.tuple #[.agg #[.slice (some ⟨g, 0, none⟩) fs.length cap], V g]) ∧ RowAt w' w.heap.size g cap fs ∧ Below w.heap.size w w' := by
  obtain ⟨aa, ca, rfl, sga⟩ := ownsRow_shape hA
  have HA := hide hA
  have HP := fun (b B g cap : Nat) (W : World) (h1 : W.cell? ⟨b, 0, none⟩ = some (.slice (some ⟨g, 0, none⟩) fs.length cap)) (h2 : RowAt W B g cap fs) => hide (hP b B g cap W h1 h2)
  clear hP
  have CP := fun (W' : World) (c : W'.cell? ⟨w.heap.size, 0, none⟩ = some (.slice aa fs.length ca)) (h : W'.ownsRow ba 58 3 (.slice aa fs.length ca) fs.length (filesC fs)) => hide (copied_gen w.heap.size ba _ fs W' c h hl hf)
  have OK := fun (W' : World) (g cap B : Nat) (h : RowAt W' B g cap fs) => hide (implDiskOk_any _ B fs W' h hl hf)
  rw [decide_eq_true hd] at OK
  clear hA hf
  go_enter Try.func44, Try.ntmps44
  go_wp2_with fail
  refine (unhide (CP _ (by rw [World.cell?_of_block (Below.heap_alloc _ _ _ (by simp)), cell_of_row _ _ 0 _ _ _ (heap_alloc_new w _)]; rfl) (World.ownsRow.alloc (World.ownsRow.alloc (unhide HA) _) _))).mono ?_
  rintro e w1 ⟨g, cap, rfl, ho, hb1⟩
  have ST := hide (ivars_copy (HA := unhide HA) ho hb1)
  clear ho hb1 CP HA
  go_wp2_with fail
  generalize hW : w1.alloc (Obj.cells #[Value.slice (some ⟨g, 0, none⟩) fs.length cap] 26) = W at ST ⊢
  generalize hb : w1.heap.size = b at ST ⊢
  clear hW hb
  refine (unhide (OK _ _ _ _ (unhide ST).row2)).mono ?_
  rintro e w2 ⟨rfl, hb2⟩
  have ST2 := hide (ivars_below (unhide ST) hb2)
  clear hb2 ST
  obtain ⟨c0, c1, c2, f1, f2⟩ := ivars_cells (unhide ST2)
  go_wp2_with fail
  have PT := hide (unhide (HP b _ g cap w2.drew c2 (ivars_drew (unhide ST2)).row2))
  obtain ⟨r1, r2, r3⟩ := ivars_end (unhide ST2) (.slice (some ⟨g, 0, none⟩) fs.length cap)
  clear HP ST2
  go_region_with ((go_at_call 36; refine (unhide PT).mono ?_; rintro e w3 ⟨rfl, rfl⟩))
  all_goals
    clear PT
    go_wp2
    refine bodyPost_ret (v := .tuple #[.agg #[.slice (some ⟨g, 0, none⟩) fs.length cap], V g]) (by simp [results, Try.results44, go_sem, r1]) rfl ⟨_, _, rfl, World.ownsRow.drew r2, r3.drew⟩
theorem opened_no (va : Value) (ba : Nat) (fs : List FileL) (nm : List UInt8) (w : World) (hA : w.ownsRow ba 58 3 va fs.length (filesC fs)) (hl : fs.length ≤ 2000000) (hf : FewF fs 1048576) (h : ¬ diskOk fs ∨ atF fs nm = -1) :
    Calls Try.prog 44 #[.agg #[va], .string ⟨nm.toArray⟩] w fun e w' => ∃ g cap, e = .returned (.tuple #[.agg #[.slice (some ⟨g, 0, none⟩) fs.length cap], .pointer none]) ∧ RowAt w' w.heap.size g cap fs ∧ Below w.heap.size w w' := by
  by_cases hd : diskOk fs
  · exact opened_good va ba fs nm w hA hl hf hd (fun _ => .pointer none) (fun b B g cap W c h2 => pointed_no b _ B fs nm W c h2 hl (h.resolve_left (fun k => k hd)))
  · exact opened_bad va ba fs nm w hA hl hf hd
theorem opened_yes (va : Value) (ba : Nat) (fs : List FileL) (nm : List UInt8) (w : World) (hA : w.ownsRow ba 58 3 va fs.length (filesC fs)) (hl : fs.length ≤ 2000000) (hf : FewF fs 1048576) (hd : diskOk fs) (j : Nat) (hj : j < fs.length) (h : atF fs nm = (j : Int)) :
    Calls Try.prog 44 #[.agg #[va], .string ⟨nm.toArray⟩] w fun e w' => ∃ g cap, e = .returned (.tuple #[.agg #[.slice (some ⟨g, 0, none⟩) fs.length cap], .pointer (some ⟨g, j * 3, none⟩)]) ∧ RowAt w' w.heap.size g cap fs ∧ Below w.heap.size w w' :=
  opened_good va ba fs nm w hA hl hf hd (fun g => .pointer (some ⟨g, j * 3, none⟩)) (fun b B g cap W c h2 => pointed_yes b g cap B fs nm W c h2 hl j hj h)
set_option maxRecDepth 100000 in
set_option maxHeartbeats 1600000 in
theorem implSync_gen (va : Value) (ba : Nat) (fs : List FileL) (nm : List UInt8) (w : World) (hA : w.ownsRow ba 58 3 va fs.length (filesC fs)) (hl : fs.length ≤ 2000000) (hf : FewF fs 1048576) :
    Calls Try.prog 19 #[.agg #[va], .string ⟨nm.toArray⟩] w fun e w' => ∃ v, e = .returned (.tuple #[.agg #[v], .bool (syncF fs nm).2]) ∧ w'.ownsRow w.heap.size 58 3 v (syncF fs nm).1.length (filesC (syncF fs nm).1) ∧ Below w.heap.size w w' := by
  obtain ⟨aa, ca, rfl, sga⟩ := ownsRow_shape hA
  have HA := hide hA
  clear hA
  by_cases hno : ¬ diskOk fs ∨ atF fs nm = -1
  · have R : Hid (syncF fs nm = (fs, false)) := hide (syncF_no fs nm (by rcases hno with h | h; exact .inr h; exact .inl (by omega)))
    have OP := fun (W' : World) (h : W'.ownsRow ba 58 3 (.slice aa fs.length ca) fs.length (filesC fs)) => hide (opened_no _ ba fs nm W' h hl hf hno)
    clear hf hno
    go_enter Try.func19, Try.ntmps19
    go_wp2_with fail
    refine (unhide (OP _ (World.ownsRow.alloc (World.ownsRow.alloc (unhide HA) _) _))).mono ?_
    rintro e w1 ⟨g, cap, rfl, ho, hb1⟩
    have ST := hide (ivars_copy (HA := unhide HA) ho hb1)
    clear ho hb1 OP HA
    go_upto_region 2 with fail
    generalize hW : w1.alloc (Obj.cells #[Value.slice (some ⟨g, 0, none⟩) fs.length cap] 26) = W at ST ⊢
    generalize hb : w1.heap.size = b at ST ⊢
    clear hW hb
    obtain ⟨c0, c1, c2, f1, f2⟩ := ivars_cells (unhide ST)
    obtain ⟨r1, r2, r3⟩ := ivars_end (unhide ST) (.slice (some ⟨g, 0, none⟩) fs.length cap)
    go_wp2
    refine bodyPost_ret (v := .tuple #[.agg #[.slice (some ⟨g, 0, none⟩) fs.length cap], .bool false]) (by simp [results, Try.results19, go_sem, r1]) rfl ?_
    rw [unhide R]
    exact ⟨_, rfl, r2, r3⟩
  · have hd : diskOk fs := Classical.byContradiction (fun h => hno (.inl h))
    rcases atF_cases fs nm with h | ⟨j, hj, h, hnm⟩
    · exact absurd (.inr h) hno
    · have R := hide (syncF_yes fs nm j hj h hd)
      have OP := fun (W' : World) (h' : W'.ownsRow ba 58 3 (.slice aa fs.length ca) fs.length (filesC fs)) => hide (opened_yes _ ba fs nm W' h' hl hf hd j hj h)
      have hdl := (hf _ (List.getElem_mem hj)).2
      clear hf hno hnm h
      go_enter Try.func19, Try.ntmps19
      go_wp2_with fail
      refine (unhide (OP _ (World.ownsRow.alloc (World.ownsRow.alloc (unhide HA) _) _))).mono ?_
      rintro e w1 ⟨g, cap, rfl, ho, hb1⟩
      have ST := hide (ivars_copy (HA := unhide HA) ho hb1)
      clear ho hb1 OP HA
      go_upto_region 2 with fail
      generalize hW : w1.alloc (Obj.cells #[Value.slice (some ⟨g, 0, none⟩) fs.length cap] 26) = W at ST ⊢
      generalize hb : w1.heap.size = b at ST ⊢
      clear hW hb
      have SY := hide (fsync_any (unhide ST) j hj hdl)
      generalize fs[j] = q at SY R hdl
      go_wp2_with fail
      refine (unhide SY).mono ?_
      rintro e w2 ⟨rfl, h2⟩
      have ST4 := hide h2
      clear h2 SY ST
      obtain ⟨c0, c1, c2, f1, f2⟩ := ivars_cells (unhide ST4)
      obtain ⟨r1, r2, r3⟩ := ivars_end (unhide ST4) (.slice (some ⟨g, 0, none⟩) fs.length cap)
      rw [List.length_set] at c2
      unfold RowAt at r2
      go_wp2
      refine bodyPost_ret (v := .tuple #[.agg #[.slice (some ⟨g, 0, none⟩) fs.length cap], .bool true]) (by simp [results, Try.results19, go_sem, r1]) rfl ?_
      rw [unhide R]
      exact ⟨_, rfl, by rw [List.length_set] at r2 ⊢; exact r2, r3⟩
theorem implSync_any (ba ga ca : Nat) (fs : List FileL) (nm : List UInt8) (w : World) (hA : RowAt w ba ga ca fs) (hl : fs.length ≤ 2000000) (hf : FewF fs 1048576) :
    Calls Try.prog 19 #[.agg #[.slice (some ⟨ga, 0, none⟩) fs.length ca], .string ⟨nm.toArray⟩] w fun e w' => ∃ v, e = .returned (.tuple #[.agg #[v], .bool (syncF fs nm).2]) ∧ w'.ownsRow w.heap.size 58 3 v (syncF fs nm).1.length (filesC (syncF fs nm).1) ∧ Below w.heap.size w w' :=
  implSync_gen _ ba fs nm w hA hl hf
set_option maxRecDepth 100000 in
set_option maxHeartbeats 1600000 in
theorem implCut_any (ba ga ca : Nat) (fs : List FileL) (nm : List UInt8) (many : Int) (w : World) (hA : RowAt w ba ga ca fs) (hl : fs.length ≤ 2000000) (hf : FewF fs 1048576) :
    Calls Try.prog 20 #[.agg #[.slice (some ⟨ga, 0, none⟩) fs.length ca], .string ⟨nm.toArray⟩, .int .i64 many] w fun e w' => ∃ v, e = .returned (.tuple #[.agg #[v], .bool (cutF fs nm many).2]) ∧ w'.ownsRow w.heap.size 58 3 v (cutF fs nm many).1.length (filesC (cutF fs nm many).1) ∧ Below w.heap.size w w' := by
  have HA := hide hA
  clear hA
  by_cases hno : ¬ diskOk fs ∨ atF fs nm = -1
  · have R : Hid (cutF fs nm many = (fs, false)) := hide (cutF_no fs nm many (by rcases hno with h | h; exact .inr h; exact .inl (by omega)))
    have OP := fun (W' : World) (h : RowAt W' ba ga ca fs) => hide (opened_no _ ba fs nm W' h hl hf hno)
    clear hf hno
    go_enter Try.func20, Try.ntmps20
    go_wp2_with fail
    refine (unhide (OP _ (World.ownsRow.alloc (World.ownsRow.alloc (unhide HA) _) _))).mono ?_
    rintro e w1 ⟨g, cap, rfl, ho, hb1⟩
    have ST := hide (ivars_copy (HA := unhide HA) ho hb1)
    clear ho hb1 OP HA
    go_upto_region 2 with fail
    generalize hW : w1.alloc (Obj.cells #[Value.slice (some ⟨g, 0, none⟩) fs.length cap] 26) = W at ST ⊢
    generalize hb : w1.heap.size = b at ST ⊢
    clear hW hb
    obtain ⟨c0, c1, c2, f1, f2⟩ := ivars_cells (unhide ST)
    obtain ⟨r1, r2, r3⟩ := ivars_end (unhide ST) (.slice (some ⟨g, 0, none⟩) fs.length cap)
    go_wp2
    refine bodyPost_ret (v := .tuple #[.agg #[.slice (some ⟨g, 0, none⟩) fs.length cap], .bool false]) (by simp [results, Try.results20, go_sem, r1]) rfl ?_
    rw [unhide R]
    exact ⟨_, rfl, r2, r3⟩
  · have hd : diskOk fs := Classical.byContradiction (fun h => hno (.inl h))
    rcases atF_cases fs nm with h | ⟨j, hj, h, hnm⟩
    · exact absurd (.inr h) hno
    · have OP := fun (W' : World) (h' : RowAt W' ba ga ca fs) => hide (opened_yes _ ba fs nm W' h' hl hf hd j hj h)
      have hdl := (hf _ (List.getElem_mem hj)).2
      have RN := fun hm => hide (cutF_many fs nm many j hj h hm)
      have RY := fun (m : Nat) hm => hide (cutF_yes fs nm m j hj h hd hm)
      clear hf hno hnm h
      go_enter Try.func20, Try.ntmps20
      go_wp2_with fail
      refine (unhide (OP _ (World.ownsRow.alloc (World.ownsRow.alloc (unhide HA) _) _))).mono ?_
      rintro e w1 ⟨g, cap, rfl, ho, hb1⟩
      have ST := hide (ivars_copy (HA := unhide HA) ho hb1)
      clear ho hb1 OP HA
      go_upto_region 2 with fail
      generalize hW : w1.alloc (Obj.cells #[Value.slice (some ⟨g, 0, none⟩) fs.length cap] 26) = W at ST ⊢
      generalize hb : w1.heap.size = b at ST ⊢
      clear hW hb
      have CT := fun (m : Nat) hm => hide (fcut_any (unhide ST) j hj m hm hdl)
      obtain ⟨-, d2, -⟩ := filesC_cell (unhide ST).row2 hj
      generalize fs[j] = q at CT RN RY hdl d2
      by_cases k1 : many < 0
      · have R := RN (.inl k1)
        have k1' : decide (many < 0) = true := by simp; omega
        obtain ⟨c0, c1, c2, f1, f2⟩ := ivars_cells (unhide ST)
        obtain ⟨r1, r2, r3⟩ := ivars_end (unhide ST) (.slice (some ⟨g, 0, none⟩) fs.length cap)
        clear RN RY CT
        go_wp2
        refine bodyPost_ret (v := .tuple #[.agg #[.slice (some ⟨g, 0, none⟩) fs.length cap], .bool false]) (by simp [results, Try.results20, go_sem, r1]) rfl ?_
        rw [unhide R]
        exact ⟨_, rfl, r2, r3⟩
      · have k1' : decide (many < 0) = false := by simp; omega
        by_cases k2 : (q.data.length : Int) < many
        · have R := RN (.inr k2)
          obtain ⟨c0, c1, c2, f1, f2⟩ := ivars_cells (unhide ST)
          obtain ⟨r1, r2, r3⟩ := ivars_end (unhide ST) (.slice (some ⟨g, 0, none⟩) fs.length cap)
          clear RN RY CT
          go_wp2
          refine bodyPost_ret (v := .tuple #[.agg #[.slice (some ⟨g, 0, none⟩) fs.length cap], .bool false]) (by simp [results, Try.results20, go_sem, r1]) rfl ?_
          rw [unhide R]
          exact ⟨_, rfl, r2, r3⟩
        · obtain ⟨m, rfl⟩ : ∃ m : Nat, many = (m : Int) := ⟨many.toNat, by omega⟩
          have hm : m ≤ q.data.length := by omega
          have R := RY m hm
          have CT1 := CT m hm
          have k2' : decide ((q.data.length : Int) < (m : Int)) = false := by simp; omega
          clear RN RY CT
          go_wp2_with fail
          refine (unhide CT1).mono ?_
          rintro e w2 ⟨rfl, h2⟩
          have ST4 := hide h2
          clear h2 CT1 ST d2
          obtain ⟨c0, c1, c2, f1, f2⟩ := ivars_cells (unhide ST4)
          obtain ⟨r1, r2, r3⟩ := ivars_end (unhide ST4) (.slice (some ⟨g, 0, none⟩) fs.length cap)
          rw [List.length_set] at c2
          unfold RowAt at r2
          go_wp2
          refine bodyPost_ret (v := .tuple #[.agg #[.slice (some ⟨g, 0, none⟩) fs.length cap], .bool true]) (by simp [results, Try.results20, go_sem, r1]) rfl ?_
          rw [unhide R]
          exact ⟨_, rfl, by rw [List.length_set] at r2 ⊢; exact r2, r3⟩
end Go.Proofs.Ytapdmngljokdmaa
