/- The walk of the specification's WriteFile. -/
import Derived.Test.YtapdmngljokdmaaDVars
import Derived.Deep.DeepCutAuto
import Derived.Deep.RegionWith
namespace Go.Proofs.Ytapdmngljokdmaa
open Go.RowKit
open scoped Classical
set_option linter.unusedVariables false
attribute [local go_sem ↓] Go.wp_at_zero Go.wp_at_succ

theorem putF_few (fs : List FileL) (nm more : List UInt8) (hd : diskOk fs) (hm : more.length ≤ 60000) (hn : nm.length ≤ 1048576) : FewF (putF fs nm more) 1048576 := by
  have hold : ∀ f ∈ fs, f.name.length ≤ 10 ∧ f.data.length ≤ 60000 := fun f hf => by
    obtain ⟨k, hk, rfl⟩ := List.mem_iff_getElem.1 hf
    exact ⟨(hd.2 k hk).1.1.2, (hd.2 k hk).1.2.1⟩
  intro f hf
  rcases atF_cases fs nm with h | ⟨j, hj, h, _⟩
  · rw [putF_new fs nm more (by omega)] at hf
    rcases List.mem_append.1 hf with h1 | h1
    · have := hold f h1; omega
    · simp at h1; rw [h1]; exact ⟨hn, by simp only; omega⟩
  · rw [putF_old fs nm more j hj h] at hf
    rcases List.mem_or_eq_of_mem_set hf with h1 | h1
    · have := hold f h1; omega
    · have := hold _ (List.getElem_mem hj)
      rw [h1]; exact ⟨by simp only; omega, by simp only [List.length_append]; omega⟩
theorem putF_data (fs : List FileL) (nm more : List UInt8) (hd : diskOk fs) : ∀ (k : Nat) (h : k < fs.length), (fs[k]).data.length ≤ 60000 := fun k h => (hd.2 k h).1.2.1
theorem putF_len (fs : List FileL) (nm more : List UInt8) : (putF fs nm more).length ≤ fs.length + 1 := by
  unfold putF; split <;> simp
set_option maxRecDepth 100000 in
set_option maxHeartbeats 1600000 in
theorem specWrite_any (ba ga ca : Nat) (fs : List FileL) (nm more : List UInt8) (w : World) (hA : RowAt w ba ga ca fs) (hl : fs.length ≤ 1048576) (hf : FewF fs 1048576) (hnl : nm.length ≤ 1048576) (hml : more.length ≤ 1048576) :
    Calls Try.prog 25 #[.agg #[.slice (some ⟨ga, 0, none⟩) fs.length ca], .string ⟨nm.toArray⟩, .string ⟨more.toArray⟩] w fun e w' => ∃ v, e = .returned (.tuple #[.agg #[v], .bool (writeF fs nm more).2]) ∧ w'.ownsRow w.heap.size 58 3 v (writeF fs nm more).1.length (filesC (writeF fs nm more).1) ∧ Below w.heap.size w w' := by
  obtain ⟨i0, hi0, hz0, hz1, hz2⟩ := info_parts infoFile
  have HA := hide hA
  have AT := fun (W' : World) (h : W'.ownsRow ba 58 3 (.slice (some ⟨ga, 0, none⟩) fs.length ca) fs.length (filesC fs)) => hide (specAt_any _ ba fs nm W' h (by omega))
  have CP := fun (W' : World) (h : RowAt W' ba ga ca fs) => hide (specCopy_any ba ga ca fs W' h (by omega))
  have OK := fun (W' : World) (h : RowAt W' ba ga ca fs) => hide (specDiskOk_any _ ba fs W' h (by omega) hf)
  clear hA hf
  go_enter Try.func25, Try.ntmps25
  go_wp2_with fail
  refine (unhide (CP _ (((unhide HA).alloc _).alloc _))).mono ?_
  rintro e w1 ⟨g, cap, rfl, ho, hb1⟩
  have ST := hide (dvars_copy (HA := unhide HA) ho hb1)
  clear ho hb1 HA
  go_upto_region 2 with fail
  obtain ⟨W, hW⟩ : ∃ W, W = w1.alloc (Obj.cells #[Value.slice (some ⟨g, 0, none⟩) fs.length cap] 26) := ⟨_, rfl⟩
  rw [← hW] at ST ⊢
  clear hW
  obtain ⟨b, hb⟩ : ∃ b, b = w1.heap.size := ⟨_, rfl⟩
  rw [← hb] at ST ⊢
  clear hb
  obtain ⟨c0, -, -, -, -⟩ := dvars_cells (unhide ST)
  rcases atF_cases fs nm with h | ⟨j, hj, h, hnm⟩
  · rw [h] at AT
    have PUT0 : Hid ((fs ++ [(⟨nm, [], 0⟩ : FileL)]).set fs.length ⟨nm, [] ++ more, 0⟩ = putF fs nm more) := hide (by
      rw [putF_new fs nm more (by omega), List.set_append_right _ _ (Nat.le_refl _)]; simp)
    go_wp2_with fail
    refine (unhide (AT _ (unhide ST).row)).mono ?_
    rintro e w2 ⟨rfl, hb2⟩
    have ST2 := hide (dvars_below (unhide ST) hb2)
    clear hb2 ST c0 AT
    obtain ⟨c0, c1, c2, f1, f2⟩ := dvars_cells (unhide ST2)
    have hr2 : w2.ownsRow (w.heap.size + 1 + 1) 58 3 (.slice (some ⟨g, 0, none⟩) fs.length cap) fs.length (filesC fs) := (unhide ST2).row2
    have hgs := (unhide ST2).below.size
    have hbs : w.heap.size + 1 + 1 ≤ w2.heap.size := by have := (Array.getElem?_eq_some_iff.1 (unhide ST2).res).1; omega
    go_wp2_with (at_builtin; refine wpList_append_lies _ (by rfl) _ _ _ (by rfl) (w.heap.size + 1 + 1) 58 i0 _ 3 40 Try.underlying24 hi0 hz0 hz1 hz2 rfl (by omega) _ fs.length _ (by rfl) (hr2.alloc _) ⟨w2.heap.size, 0, none⟩ 1 1 (fcs ⟨nm, [], 0⟩) (by rfl) (by rfl) (World.news_of_block (cs := #[.string ⟨nm.toArray⟩, .string ⟨#[]⟩, .int .i64 0]) (t := 58) (fr := (0, 0)) (heap_alloc_new w2 _)) (by simp [fcs, sv, Value.oneCell']) (by omega) (by unfold maxLen; omega) (by omega) (by simp; omega) (w2.heap.size + 1) (by simp) ?_)
    intro g' cap' w3 ho3 hgr hat1 hlt1
    have ho4 : w3.ownsRow (w.heap.size + 1 + 1) 58 3 (.slice (some ⟨g', 0, none⟩) (fs ++ [(⟨nm, [], 0⟩ : FileL)]).length cap') (fs ++ [(⟨nm, [], 0⟩ : FileL)]).length (filesC (fs ++ [(⟨nm, [], 0⟩ : FileL)])) := by
      rw [filesC_append, List.length_append]; simpa [filesC] using ho3
    obtain ⟨US, hUS⟩ : ∃ US, US = fs ++ [(⟨nm, [], 0⟩ : FileL)] := ⟨_, rfl⟩
    rw [← hUS] at ho4
    have hul : US.length = fs.length + 1 := by rw [hUS]; simp
    have hk : fs.length < US.length := by omega
    have hq0 : US[fs.length] = ⟨nm, [], 0⟩ := by simp [hUS]
    obtain ⟨x1, x2, ST3⟩ := dvars_append (unhide ST2) ho4 hgr
    have ST := hide ST3
    have PUT : Hid (US.set fs.length ⟨(US[fs.length]).name, (US[fs.length]).data ++ more, (US[fs.length]).safe⟩ = putF fs nm more) := by rw [hq0, hUS]; exact PUT0
    clear hr2 hgs hbs ho3 ho4 hgr hat1 hlt1 ST2 ST3 c0 c1 c2 f1 f2 PUT0 hUS
    have ST5 : Hid (DVars w (w3.setCell ⟨b, 0, none⟩ (.slice (some ⟨g', 0, none⟩) (fs.length + 1) cap')) b ba ga ca g' cap' fs (.slice none 0 0) US) := by rw [hul] at ST; exact ST
    clear ST
    go_upto_region 6 with fail
    have ST := ST5
    clear ST5 x1 x2
    generalize w3.setCell ⟨b, 0, none⟩ (.slice (some ⟨g', 0, none⟩) (fs.length + 1) cap') = W3 at ST ⊢

    obtain ⟨c0, -, -, -, -⟩ := dvars_cells (unhide ST)
    by_cases hd : diskOk fs
    · have e1 : decide (diskOk fs) = true := decide_eq_true hd
      have OK1 := OK
      rw [e1] at OK1
      by_cases hm : 60000 < more.length
      · have hm1 : decide ((60000 : Int) < (more.length : Int)) = true := by simp; omega
        have R := hide (writeF_no fs nm more (.inr (.inl hm)))
        go_wp2_with fail
        refine (unhide (OK1 _ (unhide ST).row)).mono ?_
        rintro e w4 ⟨rfl, hb4⟩
        have ST4 := hide (dvars_below (unhide ST) hb4)
        clear hb4 ST c0
        obtain ⟨c0, -, -, -, -⟩ := dvars_cells (unhide ST4)
        go_wp2_with fail
        refine (unhide (CP _ (unhide ST4).row)).mono ?_
        rintro e w5 ⟨g5, cap5, rfl, ho5, hb5⟩
        obtain ⟨s1, s2, r1, r2, r3⟩ := dvars_endcopy (unhide ST4) ho5 hb5 (.slice (some ⟨g5, 0, none⟩) fs.length cap5)
        clear ho5 hb5 c0 ST4
        go_wp2
        refine bodyPost_ret (v := .tuple #[.agg #[.slice (some ⟨g5, 0, none⟩) fs.length cap5], .bool false]) (by simp [results, Try.results25, go_sem, r1]) rfl ?_
        rw [unhide R]
        exact ⟨_, rfl, r2, r3⟩
      · have hm1 : decide ((60000 : Int) < (more.length : Int)) = false := by simp; omega
        have hfew := hide (putF_few fs nm more hd (by omega) hnl)
        go_wp2_with fail
        refine (unhide (OK1 _ (unhide ST).row)).mono ?_
        rintro e w4 ⟨rfl, hb4⟩
        have ST4 := hide (dvars_below (unhide ST) hb4)
        clear hb4 ST c0
        obtain ⟨c0, c1, c2, f1, f2⟩ := dvars_cells (unhide ST4)
        rw [hul] at c2
        obtain ⟨d1, d2, d3⟩ := filesC_cell (unhide ST4).row2 hk
        have g2 := (unhide ST4).row2.frozenAt (fs.length * 3 + 1)
        have RR := hide (dvars_store (unhide ST4) _ _ (set_data US fs.length ((US[fs.length]).data ++ more) hk) (by simp))
        rw [unhide PUT] at RR
        have hkl := (putF_data fs nm more hd) 
        have hdl : (US[fs.length]).data.length ≤ 60000 := by rw [hq0]; simp
        have hpl : (putF fs nm more).length = (fs.length + 1) := by rw [← unhide PUT]; simp; exact hul
        have hk0 : (0 : Int) ≤ (fs.length : Int) := Int.natCast_nonneg _
        have hk1 : (fs.length : Int) < ((fs.length + 1) : Int) := by omega
        generalize US[fs.length] = q at d1 d2 d3 RR hdl
        have eap := append_mk q.data more
        clear PUT hkl
        go_wp2_with fail
        go_region
        have ST5 := hide (dvars_drew (unhide RR))
        clear RR ST4 c0 c1 c2 f1 f2 d1 d2 d3 g2 eap
        generalize (w4.setCell ⟨g', fs.length * 3 + 1, none⟩ (.string ⟨(q.data ++ more).toArray⟩)).drew = W5 at ST5 ⊢
        have OK2 := fun (W' : World) (h : W'.ownsRow (w.heap.size + 1 + 1) 58 3 (.slice (some ⟨g', 0, none⟩) (putF fs nm more).length cap') (putF fs nm more).length (filesC (putF fs nm more))) => hide (specDiskOk_any _ _ (putF fs nm more) W' h (by have := putF_len fs nm more; omega) (unhide hfew))
        have hrow := hide (unhide ST5).row2
        obtain ⟨c0, c1, c2, f1, f2⟩ := dvars_cells (unhide ST5)
        rw [hpl] at c2 OK2
        have hrow2 : Hid (W5.ownsRow (w.heap.size + 1 + 1) 58 3 (.slice (some ⟨g', 0, none⟩) (fs.length + 1) cap') (fs.length + 1) (filesC (putF fs nm more))) := by
          have := unhide hrow; unfold RowAt at this; rw [hpl] at this; exact hide this
        clear hrow
        by_cases hp : diskOk (putF fs nm more)
        · have e2 : decide (diskOk (putF fs nm more)) = true := decide_eq_true hp
          rw [e2] at OK2
          have R := hide (writeF_yes fs nm more hd (by omega) hp)
          go_wp2_with fail
          refine (unhide (OK2 _ (unhide hrow2))).mono ?_
          rintro e w6 ⟨rfl, hb6⟩
          have ST6 := hide (dvars_below (unhide ST5) hb6)
          clear ST5 hb6 c0 c1 c2 f1 f2 hrow2 OK2 OK1
          obtain ⟨c0, c1, c2, f1, f2⟩ := dvars_cells (unhide ST6)
          rw [hpl] at c2
          obtain ⟨r1, r2, r3⟩ := dvars_end (unhide ST6) (.slice (some ⟨g', 0, none⟩) (fs.length + 1) cap')
          unfold RowAt at r2
          go_wp2
          refine bodyPost_ret (v := .tuple #[.agg #[.slice (some ⟨g', 0, none⟩) (fs.length + 1) cap'], .bool true]) (by simp [results, Try.results25, go_sem, r1]) rfl ?_
          rw [unhide R]
          exact ⟨_, rfl, by rw [hpl] at r2 ⊢; exact r2, r3⟩
        · have e2 : decide (diskOk (putF fs nm more)) = false := decide_eq_false hp
          rw [e2] at OK2
          have R := hide (writeF_no fs nm more (.inr (.inr hp)))
          go_wp2_with fail
          refine (unhide (OK2 _ (unhide hrow2))).mono ?_
          rintro e w6 ⟨rfl, hb6⟩
          have ST6 := hide (dvars_below (unhide ST5) hb6)
          clear ST5 hb6 c0 c1 c2 f1 f2 hrow2 OK2 OK1
          obtain ⟨c0, -, -, -, -⟩ := dvars_cells (unhide ST6)
          go_wp2_with fail
          refine (unhide (CP _ (unhide ST6).row)).mono ?_
          rintro e w7 ⟨g7, cap7, rfl, ho7, hb7⟩
          obtain ⟨s1, s2, r1, r2, r3⟩ := dvars_endcopy (unhide ST6) ho7 hb7 (.slice (some ⟨g7, 0, none⟩) fs.length cap7)
          clear ho7 hb7 c0 ST6
          go_wp2
          refine bodyPost_ret (v := .tuple #[.agg #[.slice (some ⟨g7, 0, none⟩) fs.length cap7], .bool false]) (by simp [results, Try.results25, go_sem, r1]) rfl ?_
          rw [unhide R]
          exact ⟨_, rfl, r2, r3⟩
    · have e1 : decide (diskOk fs) = false := decide_eq_false hd
      have OK1 := OK
      rw [e1] at OK1
      have R := hide (writeF_no fs nm more (.inl hd))
      go_wp2_with fail
      refine (unhide (OK1 _ (unhide ST).row)).mono ?_
      rintro e w4 ⟨rfl, hb4⟩
      have ST4 := hide (dvars_below (unhide ST) hb4)
      clear hb4 ST c0
      obtain ⟨c0, -, -, -, -⟩ := dvars_cells (unhide ST4)
      go_wp2_with fail
      refine (unhide (CP _ (unhide ST4).row)).mono ?_
      rintro e w5 ⟨g5, cap5, rfl, ho5, hb5⟩
      obtain ⟨s1, s2, r1, r2, r3⟩ := dvars_endcopy (unhide ST4) ho5 hb5 (.slice (some ⟨g5, 0, none⟩) fs.length cap5)
      clear ho5 hb5 c0 ST4
      go_wp2
      refine bodyPost_ret (v := .tuple #[.agg #[.slice (some ⟨g5, 0, none⟩) fs.length cap5], .bool false]) (by simp [results, Try.results25, go_sem, r1]) rfl ?_
      rw [unhide R]
      exact ⟨_, rfl, r2, r3⟩
  · rw [h] at AT
    have PUT : Hid (fs.set j ⟨(fs[j]).name, (fs[j]).data ++ more, (fs[j]).safe⟩ = putF fs nm more) := hide (putF_old fs nm more j hj h).symm
    have hk := hj
    have hj0 : (0 : Int) ≤ (j : Int) := Int.natCast_nonneg _
    go_wp2_with fail
    refine (unhide (AT _ (unhide ST).row)).mono ?_
    rintro e w2 ⟨rfl, hb2⟩
    have ST2 := hide (dvars_below (unhide ST) hb2)
    clear hb2 ST c0 AT
    have ST := ST2
    clear ST2
    go_upto_region 6 with fail

    obtain ⟨c0, -, -, -, -⟩ := dvars_cells (unhide ST)
    by_cases hd : diskOk fs
    · have e1 : decide (diskOk fs) = true := decide_eq_true hd
      have OK1 := OK
      rw [e1] at OK1
      by_cases hm : 60000 < more.length
      · have hm1 : decide ((60000 : Int) < (more.length : Int)) = true := by simp; omega
        have R := hide (writeF_no fs nm more (.inr (.inl hm)))
        go_wp2_with fail
        refine (unhide (OK1 _ (unhide ST).row)).mono ?_
        rintro e w4 ⟨rfl, hb4⟩
        have ST4 := hide (dvars_below (unhide ST) hb4)
        clear hb4 ST c0
        obtain ⟨c0, -, -, -, -⟩ := dvars_cells (unhide ST4)
        go_wp2_with fail
        refine (unhide (CP _ (unhide ST4).row)).mono ?_
        rintro e w5 ⟨g5, cap5, rfl, ho5, hb5⟩
        obtain ⟨s1, s2, r1, r2, r3⟩ := dvars_endcopy (unhide ST4) ho5 hb5 (.slice (some ⟨g5, 0, none⟩) fs.length cap5)
        clear ho5 hb5 c0 ST4
        go_wp2
        refine bodyPost_ret (v := .tuple #[.agg #[.slice (some ⟨g5, 0, none⟩) fs.length cap5], .bool false]) (by simp [results, Try.results25, go_sem, r1]) rfl ?_
        rw [unhide R]
        exact ⟨_, rfl, r2, r3⟩
      · have hm1 : decide ((60000 : Int) < (more.length : Int)) = false := by simp; omega
        have hfew := hide (putF_few fs nm more hd (by omega) hnl)
        go_wp2_with fail
        refine (unhide (OK1 _ (unhide ST).row)).mono ?_
        rintro e w4 ⟨rfl, hb4⟩
        have ST4 := hide (dvars_below (unhide ST) hb4)
        clear hb4 ST c0
        obtain ⟨c0, c1, c2, f1, f2⟩ := dvars_cells (unhide ST4)
        obtain ⟨d1, d2, d3⟩ := filesC_cell (unhide ST4).row2 hk
        have g2 := (unhide ST4).row2.frozenAt (j * 3 + 1)
        have RR := hide (dvars_store (unhide ST4) _ _ (set_data fs j ((fs[j]).data ++ more) hk) (by simp))
        rw [unhide PUT] at RR
        have hkl := (putF_data fs nm more hd) 
        have hdl : (fs[j]).data.length ≤ 60000 := hkl j hj
        have hpl : (putF fs nm more).length = fs.length := by rw [← unhide PUT]; simp
        have hk0 : (0 : Int) ≤ (j : Int) := Int.natCast_nonneg _
        have hk1 : (j : Int) < (fs.length : Int) := by omega
        generalize fs[j] = q at d1 d2 d3 RR hdl
        have eap := append_mk q.data more
        clear PUT hkl
        go_wp2_with fail
        go_region
        have ST5 := hide (dvars_drew (unhide RR))
        clear RR ST4 c0 c1 c2 f1 f2 d1 d2 d3 g2 eap
        generalize (w4.setCell ⟨g, j * 3 + 1, none⟩ (.string ⟨(q.data ++ more).toArray⟩)).drew = W5 at ST5 ⊢
        have OK2 := fun (W' : World) (h : W'.ownsRow (w.heap.size + 1 + 1) 58 3 (.slice (some ⟨g, 0, none⟩) (putF fs nm more).length cap) (putF fs nm more).length (filesC (putF fs nm more))) => hide (specDiskOk_any _ _ (putF fs nm more) W' h (by have := putF_len fs nm more; omega) (unhide hfew))
        have hrow := hide (unhide ST5).row2
        obtain ⟨c0, c1, c2, f1, f2⟩ := dvars_cells (unhide ST5)
        rw [hpl] at c2 OK2
        have hrow2 : Hid (W5.ownsRow (w.heap.size + 1 + 1) 58 3 (.slice (some ⟨g, 0, none⟩) fs.length cap) fs.length (filesC (putF fs nm more))) := by
          have := unhide hrow; unfold RowAt at this; rw [hpl] at this; exact hide this
        clear hrow
        by_cases hp : diskOk (putF fs nm more)
        · have e2 : decide (diskOk (putF fs nm more)) = true := decide_eq_true hp
          rw [e2] at OK2
          have R := hide (writeF_yes fs nm more hd (by omega) hp)
          go_wp2_with fail
          refine (unhide (OK2 _ (unhide hrow2))).mono ?_
          rintro e w6 ⟨rfl, hb6⟩
          have ST6 := hide (dvars_below (unhide ST5) hb6)
          clear ST5 hb6 c0 c1 c2 f1 f2 hrow2 OK2 OK1
          obtain ⟨c0, c1, c2, f1, f2⟩ := dvars_cells (unhide ST6)
          rw [hpl] at c2
          obtain ⟨r1, r2, r3⟩ := dvars_end (unhide ST6) (.slice (some ⟨g, 0, none⟩) fs.length cap)
          unfold RowAt at r2
          go_wp2
          refine bodyPost_ret (v := .tuple #[.agg #[.slice (some ⟨g, 0, none⟩) fs.length cap], .bool true]) (by simp [results, Try.results25, go_sem, r1]) rfl ?_
          rw [unhide R]
          exact ⟨_, rfl, by rw [hpl] at r2 ⊢; exact r2, r3⟩
        · have e2 : decide (diskOk (putF fs nm more)) = false := decide_eq_false hp
          rw [e2] at OK2
          have R := hide (writeF_no fs nm more (.inr (.inr hp)))
          go_wp2_with fail
          refine (unhide (OK2 _ (unhide hrow2))).mono ?_
          rintro e w6 ⟨rfl, hb6⟩
          have ST6 := hide (dvars_below (unhide ST5) hb6)
          clear ST5 hb6 c0 c1 c2 f1 f2 hrow2 OK2 OK1
          obtain ⟨c0, -, -, -, -⟩ := dvars_cells (unhide ST6)
          go_wp2_with fail
          refine (unhide (CP _ (unhide ST6).row)).mono ?_
          rintro e w7 ⟨g7, cap7, rfl, ho7, hb7⟩
          obtain ⟨s1, s2, r1, r2, r3⟩ := dvars_endcopy (unhide ST6) ho7 hb7 (.slice (some ⟨g7, 0, none⟩) fs.length cap7)
          clear ho7 hb7 c0 ST6
          go_wp2
          refine bodyPost_ret (v := .tuple #[.agg #[.slice (some ⟨g7, 0, none⟩) fs.length cap7], .bool false]) (by simp [results, Try.results25, go_sem, r1]) rfl ?_
          rw [unhide R]
          exact ⟨_, rfl, r2, r3⟩
    · have e1 : decide (diskOk fs) = false := decide_eq_false hd
      have OK1 := OK
      rw [e1] at OK1
      have R := hide (writeF_no fs nm more (.inl hd))
      go_wp2_with fail
      refine (unhide (OK1 _ (unhide ST).row)).mono ?_
      rintro e w4 ⟨rfl, hb4⟩
      have ST4 := hide (dvars_below (unhide ST) hb4)
      clear hb4 ST c0
      obtain ⟨c0, -, -, -, -⟩ := dvars_cells (unhide ST4)
      go_wp2_with fail
      refine (unhide (CP _ (unhide ST4).row)).mono ?_
      rintro e w5 ⟨g5, cap5, rfl, ho5, hb5⟩
      obtain ⟨s1, s2, r1, r2, r3⟩ := dvars_endcopy (unhide ST4) ho5 hb5 (.slice (some ⟨g5, 0, none⟩) fs.length cap5)
      clear ho5 hb5 c0 ST4
      go_wp2
      refine bodyPost_ret (v := .tuple #[.agg #[.slice (some ⟨g5, 0, none⟩) fs.length cap5], .bool false]) (by simp [results, Try.results25, go_sem, r1]) rfl ?_
      rw [unhide R]
      exact ⟨_, rfl, r2, r3⟩
end Go.Proofs.Ytapdmngljokdmaa
