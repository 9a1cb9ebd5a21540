/- The walk of the program's own WriteFile. -/
import Derived.Test.YtapdmngljokdmaaImplOpen
namespace Go.Proofs.Ytapdmngljokdmaa
open Go.RowKit
open scoped Classical
set_option linter.unusedVariables false
attribute [local go_sem ↓] Go.wp_at_zero Go.wp_at_succ

theorem putF_big (fs : List FileL) (nm more : List UInt8) (hf : FewF fs 1048576) (hn : nm.length ≤ 1048576) (hm : more.length ≤ 1048576) : FewF (putF fs nm more) 4194304 := by
  rcases atF_cases fs nm with h | ⟨j, hj, h, _⟩
  · rw [putF_new fs nm more (by omega)]
    intro f hmem
    rcases List.mem_append.1 hmem with h1 | h1
    · have := hf f h1; omega
    · rw [List.mem_singleton] at h1; subst h1; exact ⟨by show nm.length ≤ _; omega, by show more.length ≤ _; omega⟩
  · rw [putF_old fs nm more j hj h]
    intro f hmem
    rcases List.mem_or_eq_of_mem_set hmem with h1 | h1
    · have := hf f h1; omega
    · have := hf _ (List.getElem_mem hj)
      subst h1
      exact ⟨by show (fs[j]).name.length ≤ _; omega, by show ((fs[j]).data ++ more).length ≤ _; rw [List.length_append]; omega⟩
/-- Where a disk with more in it is right, more is not too much. -/
theorem putF_more (fs : List FileL) (nm more : List UInt8) (h : diskOk (putF fs nm more)) : more.length ≤ 60000 := by
  rcases atF_cases fs nm with h1 | ⟨j, hj, h1, _⟩
  · rw [putF_new fs nm more (by omega)] at h
    have := (h.2 fs.length (by simp)).1.2.1
    simpa using this
  · rw [putF_old fs nm more j hj h1] at h
    have := (h.2 j (by simpa using hj)).1.2.1
    simp at this
    omega
theorem putF_len1 (fs : List FileL) (nm more : List UInt8) : (putF fs nm more).length ≤ fs.length + 1 := by unfold putF; split <;> simp
/-- A copy that was made behind a look at the disk is laid as the result. -/
theorem laid_copy {w w1 w2 : World} {g cap : Nat} {va : Value} {fs : List FileL}
    (hb1 : Below ((w.alloc (Obj.cells #[va] 26)).alloc (Obj.cells #[Value.slice none 0 0] 26)).heap.size ((w.alloc (Obj.cells #[va] 26)).alloc (Obj.cells #[Value.slice none 0 0] 26)) w1)
    (ho : RowAt w2 w1.heap.size g cap fs) (hb2 : Below w1.heap.size w1 w2) (u : Value) :
    w2.cell? ⟨w.heap.size + 1, 0, none⟩ = some (.slice none 0 0) ∧ w2.frozen? ⟨w.heap.size + 1, 0, none⟩ = false ∧ (w2.setCell ⟨w.heap.size + 1, 0, none⟩ u).cell? ⟨w.heap.size + 1, 0, none⟩ = some u ∧ RowAt (w2.setCell ⟨w.heap.size + 1, 0, none⟩ u) w.heap.size g cap fs ∧ Below w.heap.size w (w2.setCell ⟨w.heap.size + 1, 0, none⟩ u) := by
  have hs : ((w.alloc (Obj.cells #[va] 26)).alloc (Obj.cells #[Value.slice none 0 0] 26)).heap.size = w.heap.size + 1 + 1 := by simp
  have hz := hb1.size
  rw [hs] at hz
  have e1 : w1.heap[w.heap.size + 1]? = some (.cells #[Value.slice none 0 0] 26 (0, 0)) := by
    rw [hb1.block _ (by rw [hs]; omega)]; exact alloc_at _ _ _ (by simp)
  have e2 := heap_later hb2 e1
  have B0 : Below w.heap.size w w1 := ((((Below.refl _ _).alloc (Nat.le_refl _) _).alloc (by simp) _)).trans (hb1.mono (by rw [hs]; omega))
  refine ⟨cell_one e2, by simp [World.frozen?, e2], ?_, ?_, ?_⟩
  · rw [cell_of_row _ _ 0 _ _ _ (store_one e2 u)]; rfl
  · exact ownsRow_base (ownsRow_far ho ⟨w.heap.size + 1, 0, none⟩ u (by show w.heap.size + 1 < _; omega)) (by omega)
  · exact (B0.trans (hb2.mono B0.size)).setCell (p := ⟨w.heap.size + 1, 0, none⟩) (by show _ ≤ w.heap.size + 1; omega) u
theorem cell_d {w : World} {v : Value} {o : Obj} {T : TypeId} : ((w.alloc (Obj.cells #[v] T)).alloc o).cell? ⟨w.heap.size, 0, none⟩ = some v := by
  rw [World.cell?_of_block (Below.heap_alloc _ _ _ (by simp)), cell_of_row _ _ 0 _ _ _ (heap_alloc_new w _)]; rfl
set_option maxRecDepth 100000 in
set_option maxHeartbeats 1600000 in
theorem implWrite_gen (va : Value) (ba : Nat) (fs : List FileL) (nm more : List UInt8) (w : World) (hA : w.ownsRow ba 58 3 va fs.length (filesC fs)) (hl : fs.length ≤ 1048576) (hf : FewF fs 1048576) (hnl : nm.length ≤ 1048576) (hml : more.length ≤ 1048576) :
    Calls Try.prog 13 #[.agg #[va], .string ⟨nm.toArray⟩, .string ⟨more.toArray⟩] w fun e w' => ∃ v, e = .returned (.tuple #[.agg #[v], .bool (writeF fs nm more).2]) ∧ w'.ownsRow w.heap.size 58 3 v (writeF fs nm more).1.length (filesC (writeF fs nm more).1) ∧ Below w.heap.size w w' := by
  obtain ⟨aa, ca, rfl, sga⟩ := ownsRow_shape hA
  have HA := hide hA
  have OK := fun (W' : World) (h : W'.ownsRow ba 58 3 (.slice aa fs.length ca) fs.length (filesC fs)) => hide (implDiskOk_any _ ba fs W' h (by omega) hf)
  have CP := fun (W' : World) (c : W'.cell? ⟨w.heap.size, 0, none⟩ = some (.slice aa fs.length ca)) (h : W'.ownsRow ba 58 3 (.slice aa fs.length ca) fs.length (filesC fs)) => hide (copied_gen w.heap.size ba _ fs W' c h (by omega) hf)
  have HF := hide hf
  clear hA hf
  by_cases hd : diskOk fs
  · rw [decide_eq_true hd] at OK
    go_enter Try.func13, Try.ntmps13
    go_wp2_with fail
    refine (unhide (OK _ (World.ownsRow.alloc (World.ownsRow.alloc (unhide HA) _) _))).mono ?_
    rintro e w1 ⟨rfl, hb1⟩
    have y0 := cell_later hb1 cell_d
    have HR := hide (ownsRow_below (World.ownsRow.alloc (World.ownsRow.alloc (unhide HA) _) _) hb1)
    have HB1 := hide hb1
    clear hb1
    go_wp2_with fail
    refine (unhide (CP _ y0 (unhide HR))).mono ?_
    rintro e w2 ⟨g, cap, rfl, ho, hb2⟩
    have ST := hide (ivars_copy (HA := unhide HA) (ownsRow_base ho (unhide HB1).size) ((unhide HB1).trans (hb2.mono (unhide HB1).size)))
    clear ho hb2 HB1 HR y0 OK
    go_upto_region 4 with fail
    generalize hW : w2.alloc (Obj.cells #[Value.slice (some ⟨g, 0, none⟩) fs.length cap] 26) = W at ST ⊢
    generalize hb : w2.heap.size = b at ST ⊢
    clear hW hb
    obtain ⟨-, -, c2, -, -⟩ := ivars_cells (unhide ST)
    rcases atF_cases fs nm with h | ⟨j, hj, h, hnm⟩
    · have PT := hide (pointed_no b _ _ fs nm W c2 (unhide ST).row2 (by omega) h)
      have MD := hide (made_any (unhide ST) hl nm hnl)
      have PN := hide (putF_new fs nm more (by omega))
      clear c2 h
      go_wp2_with fail
      refine (unhide PT).mono ?_
      rintro e w3 ⟨rfl, rfl⟩
      clear PT
      go_wp2_with fail
      refine (unhide MD).mono ?_
      rintro e w3 ⟨g1, cap1, rfl, h1⟩
      have ST1 := hide h1
      clear h1 MD ST
      have hk : fs.length < (fs ++ [(⟨nm, [], 0⟩ : FileL)]).length := by simp
      have hq : (fs ++ [(⟨nm, [], 0⟩ : FileL)])[fs.length] = ⟨nm, [], 0⟩ := by simp
      have hdl : ((fs ++ [(⟨nm, [], 0⟩ : FileL)])[fs.length]).data.length ≤ 1048576 := by rw [hq]; simp
      have PUT : Hid ((fs ++ [(⟨nm, [], 0⟩ : FileL)]).set fs.length ⟨((fs ++ [(⟨nm, [], 0⟩ : FileL)])[fs.length]).name, ((fs ++ [(⟨nm, [], 0⟩ : FileL)])[fs.length]).data ++ more, ((fs ++ [(⟨nm, [], 0⟩ : FileL)])[fs.length]).safe⟩ = putF fs nm more) := by
        rw [hq, unhide PN]; exact hide (by simp)
      clear hq PN
      have WR := hide (fwrite_any (unhide ST1) fs.length hk more (by omega) hdl)
      rw [unhide PUT] at WR
      go_wp2_with fail
      refine (unhide WR).mono ?_
      rintro e w4 ⟨rfl, h4⟩
      have ST4 := hide h4
      clear h4 WR ST1 PUT hdl hk
      have hpl := putF_len1 fs nm more
      have RY := fun hp => hide (writeF_yes fs nm more hd (putF_more fs nm more hp) hp)
      have RN := fun hp => hide (writeF_no fs nm more (.inr (.inr hp)))
      have OK2 := hide (implDiskOk_big _ _ (putF fs nm more) w4 (unhide ST4).row2 (by omega) (putF_big fs nm more (unhide HF) hnl hml))
      generalize putF fs nm more = U at ST4 hpl RY RN OK2
      obtain ⟨c0, c1, c2, f1, f2⟩ := ivars_cells (unhide ST4)
      by_cases hp : diskOk U
      · rw [decide_eq_true hp] at OK2
        have R := RY hp
        clear RY RN CP
        go_wp2_with fail
        refine (unhide OK2).mono ?_
        rintro e w5 ⟨rfl, hb5⟩
        have ST5 := hide (ivars_below (unhide ST4) hb5)
        clear hb5 ST4 OK2 c0 c1 c2 f1 f2
        obtain ⟨c0, c1, c2, f1, f2⟩ := ivars_cells (unhide ST5)
        obtain ⟨r1, r2, r3⟩ := ivars_end (unhide ST5) (.slice (some ⟨g1, 0, none⟩) U.length cap1)
        go_wp2
        refine bodyPost_ret (v := .tuple #[.agg #[.slice (some ⟨g1, 0, none⟩) U.length cap1], .bool true]) (by simp [results, Try.results13, go_sem, r1]) rfl ?_
        rw [unhide R]
        exact ⟨_, rfl, r2, r3⟩
      · rw [decide_eq_false hp] at OK2
        have R := RN hp
        clear RY RN
        go_wp2_with fail
        refine (unhide OK2).mono ?_
        rintro e w5 ⟨rfl, hb5⟩
        have ST5 := hide (ivars_below (unhide ST4) hb5)
        clear hb5 ST4 OK2 c0 c1 c2 f1 f2
        obtain ⟨c0, c1, c2, f1, f2⟩ := ivars_cells (unhide ST5)
        go_wp2_with fail
        refine (unhide (CP _ c0 (unhide ST5).row)).mono ?_
        rintro e w6 ⟨g6, cap6, rfl, ho6, hb6⟩
        obtain ⟨s1, s2, r1, r2, r3⟩ := ivars_endcopy (unhide ST5) ho6 hb6 (.slice (some ⟨g6, 0, none⟩) fs.length cap6)
        clear ho6 hb6 ST5 CP c0 c1 c2 f1 f2
        go_wp2
        refine bodyPost_ret (v := .tuple #[.agg #[.slice (some ⟨g6, 0, none⟩) fs.length cap6], .bool false]) (by simp [results, Try.results13, go_sem, r1]) rfl ?_
        rw [unhide R]
        exact ⟨_, rfl, r2, r3⟩
    · have PT := hide (pointed_yes b g cap _ fs nm W c2 (unhide ST).row2 (by omega) j hj h)
      have PUT := hide (putF_old fs nm more j hj h).symm
      have hk := hj
      have hdl := ((unhide HF) _ (List.getElem_mem hj)).2
      clear c2 h hnm
      go_wp2_with fail
      refine (unhide PT).mono ?_
      rintro e w3 ⟨rfl, rfl⟩
      clear PT
      have ST1 := ST
      clear ST
      have WR := hide (fwrite_any (unhide ST1) j hk more (by omega) hdl)
      rw [unhide PUT] at WR
      go_wp2_with fail
      refine (unhide WR).mono ?_
      rintro e w4 ⟨rfl, h4⟩
      have ST4 := hide h4
      clear h4 WR ST1 PUT hdl hk
      have hpl := putF_len1 fs nm more
      have RY := fun hp => hide (writeF_yes fs nm more hd (putF_more fs nm more hp) hp)
      have RN := fun hp => hide (writeF_no fs nm more (.inr (.inr hp)))
      have OK2 := hide (implDiskOk_big _ _ (putF fs nm more) w4 (unhide ST4).row2 (by omega) (putF_big fs nm more (unhide HF) hnl hml))
      generalize putF fs nm more = U at ST4 hpl RY RN OK2
      obtain ⟨c0, c1, c2, f1, f2⟩ := ivars_cells (unhide ST4)
      by_cases hp : diskOk U
      · rw [decide_eq_true hp] at OK2
        have R := RY hp
        clear RY RN CP
        go_wp2_with fail
        refine (unhide OK2).mono ?_
        rintro e w5 ⟨rfl, hb5⟩
        have ST5 := hide (ivars_below (unhide ST4) hb5)
        clear hb5 ST4 OK2 c0 c1 c2 f1 f2
        obtain ⟨c0, c1, c2, f1, f2⟩ := ivars_cells (unhide ST5)
        obtain ⟨r1, r2, r3⟩ := ivars_end (unhide ST5) (.slice (some ⟨g, 0, none⟩) U.length cap)
        go_wp2
        refine bodyPost_ret (v := .tuple #[.agg #[.slice (some ⟨g, 0, none⟩) U.length cap], .bool true]) (by simp [results, Try.results13, go_sem, r1]) rfl ?_
        rw [unhide R]
        exact ⟨_, rfl, r2, r3⟩
      · rw [decide_eq_false hp] at OK2
        have R := RN hp
        clear RY RN
        go_wp2_with fail
        refine (unhide OK2).mono ?_
        rintro e w5 ⟨rfl, hb5⟩
        have ST5 := hide (ivars_below (unhide ST4) hb5)
        clear hb5 ST4 OK2 c0 c1 c2 f1 f2
        obtain ⟨c0, c1, c2, f1, f2⟩ := ivars_cells (unhide ST5)
        go_wp2_with fail
        refine (unhide (CP _ c0 (unhide ST5).row)).mono ?_
        rintro e w6 ⟨g6, cap6, rfl, ho6, hb6⟩
        obtain ⟨s1, s2, r1, r2, r3⟩ := ivars_endcopy (unhide ST5) ho6 hb6 (.slice (some ⟨g6, 0, none⟩) fs.length cap6)
        clear ho6 hb6 ST5 CP c0 c1 c2 f1 f2
        go_wp2
        refine bodyPost_ret (v := .tuple #[.agg #[.slice (some ⟨g6, 0, none⟩) fs.length cap6], .bool false]) (by simp [results, Try.results13, go_sem, r1]) rfl ?_
        rw [unhide R]
        exact ⟨_, rfl, r2, r3⟩
  · rw [decide_eq_false hd] at OK
    have R := hide (writeF_no fs nm more (.inl hd))
    go_enter Try.func13, Try.ntmps13
    go_wp2_with fail
    refine (unhide (OK _ (World.ownsRow.alloc (World.ownsRow.alloc (unhide HA) _) _))).mono ?_
    rintro e w1 ⟨rfl, hb1⟩
    have y0 := cell_later hb1 cell_d
    have HR := hide (ownsRow_below (World.ownsRow.alloc (World.ownsRow.alloc (unhide HA) _) _) hb1)
    have HB1 := hide hb1
    clear hb1
    go_wp2_with fail
    refine (unhide (CP _ y0 (unhide HR))).mono ?_
    rintro e w2 ⟨g, cap, rfl, ho, hb2⟩
    obtain ⟨x1, x2, r1, r2, r3⟩ := laid_copy (unhide HB1) ho hb2 (.slice (some ⟨g, 0, none⟩) fs.length cap)
    clear ho hb2 HB1 HR y0 OK CP HA
    go_wp2
    refine bodyPost_ret (v := .tuple #[.agg #[.slice (some ⟨g, 0, none⟩) fs.length cap], .bool false]) (by simp [results, Try.results13, go_sem, r1]) rfl ?_
    rw [unhide R]
    exact ⟨_, rfl, r2, r3⟩
theorem implWrite_any (ba ga ca : Nat) (fs : List FileL) (nm more : List UInt8) (w : World) (hA : RowAt w ba ga ca fs) (hl : fs.length ≤ 1048576) (hf : FewF fs 1048576) (hnl : nm.length ≤ 1048576) (hml : more.length ≤ 1048576) :
    Calls Try.prog 13 #[.agg #[.slice (some ⟨ga, 0, none⟩) fs.length ca], .string ⟨nm.toArray⟩, .string ⟨more.toArray⟩] w fun e w' => ∃ v, e = .returned (.tuple #[.agg #[v], .bool (writeF fs nm more).2]) ∧ w'.ownsRow w.heap.size 58 3 v (writeF fs nm more).1.length (filesC (writeF fs nm more).1) ∧ Below w.heap.size w w' :=
  implWrite_gen _ ba fs nm more w hA hl hf hnl hml
end Go.Proofs.Ytapdmngljokdmaa
