/- The walk of the program's own MoveFile, whole. -/
import Derived.Test.YtapdmngljokdmaaImplMove
namespace Go.Proofs.Ytapdmngljokdmaa
open Go.RowKit
open scoped Classical
set_option linter.unusedVariables false
attribute [local go_sem ↓] Go.wp_at_zero Go.wp_at_succ

set_option maxRecDepth 100000 in
set_option maxHeartbeats 1600000 in
theorem implMove_any (ba ga ca : Nat) (fs : List FileL) (nm tn : List UInt8) (w : World) (hA : RowAt w ba ga ca fs) (hl : fs.length ≤ 1048576) (hf : FewF fs 1048576) (hnl : nm.length ≤ 1048576) (htl : tn.length ≤ 1048576) :
    Calls Try.prog 18 #[.agg #[.slice (some ⟨ga, 0, none⟩) fs.length ca], .string ⟨nm.toArray⟩, .string ⟨tn.toArray⟩] w fun e w' => ∃ v, e = .returned (.tuple #[.agg #[v], .bool (moveF fs nm tn).2]) ∧ w'.ownsRow w.heap.size 58 3 v (moveF fs nm tn).1.length (filesC (moveF fs nm tn).1) ∧ Below w.heap.size w w' := by
  have HA := hide hA
  clear hA
  by_cases hno : ¬ diskOk fs ∨ atF fs nm = -1
  · have R : Hid (moveF fs nm tn = (fs, false)) := hide (moveF_no fs nm tn (by
      rintro ⟨h1, h2, -⟩
      rcases hno with h | h
      · exact h h2
      · omega))
    have OP := fun (W' : World) (h : RowAt W' ba ga ca fs) => hide (opened_no _ ba fs nm W' h (by omega) hf hno)
    clear hf hno
    go_enter Try.func18, Try.ntmps18
    go_wp2_with fail
    refine (unhide (OP _ (World.ownsRow.alloc (World.ownsRow.alloc (unhide HA) _) _))).mono ?_
    rintro e w1 ⟨g, cap, rfl, ho, hb1⟩
    have ST := hide (ivars_copy (HA := unhide HA) ho hb1)
    clear ho hb1 OP HA
    go_upto_region 2 with fail
    generalize hW : w1.alloc (Obj.cells #[Value.slice (some ⟨g, 0, none⟩) fs.length cap] 26) = W at ST ⊢
    generalize hb : w1.heap.size = b at ST ⊢
    clear hW hb
    obtain ⟨c0, c1, c2, f1, f2⟩ := ivars_cells (unhide ST)
    obtain ⟨r1, r2, r3⟩ := ivars_end (unhide ST) (.slice (some ⟨g, 0, none⟩) fs.length cap)
    go_wp2
    refine bodyPost_ret (v := .tuple #[.agg #[.slice (some ⟨g, 0, none⟩) fs.length cap], .bool false]) (by simp [results, Try.results18, go_sem, r1]) rfl ?_
    rw [unhide R]
    exact ⟨_, rfl, r2, r3⟩
  · have hd : diskOk fs := Classical.byContradiction (fun h => hno (.inl h))
    rcases atF_cases fs nm with h | ⟨j, hj, h, hnm⟩
    · exact absurd (.inr h) hno
    · have OP := fun (W' : World) (h' : RowAt W' ba ga ca fs) => hide (opened_yes _ ba fs nm W' h' (by omega) hf hd j hj h)
      have hdl := (hf _ (List.getElem_mem hj)).2
      have MM := hide (mayMove_at fs nm tn j hj h)
      have MY := hide (moveF_yes fs nm tn j h)
      have KP := fun hne => hide (mv_keep tn nm hne fs 0 j (by rw [← show atF fs nm = atGo nm fs 0 from rfl, h]; omega))
      have NM := fun W' => hide (implName_any tn W' (by omega))
      clear hf hno hnm h
      go_enter Try.func18, Try.ntmps18
      go_wp2_with fail
      refine (unhide (OP _ (World.ownsRow.alloc (World.ownsRow.alloc (unhide HA) _) _))).mono ?_
      rintro e w1 ⟨g, cap, rfl, ho, hb1⟩
      have ST := hide (ivars_copy (HA := unhide HA) ho hb1)
      clear ho hb1 OP HA
      go_upto_region 2 with fail
      generalize hW : w1.alloc (Obj.cells #[Value.slice (some ⟨g, 0, none⟩) fs.length cap] 26) = W at ST ⊢
      generalize hb : w1.heap.size = b at ST ⊢
      clear hW hb
      have AS := hide (allSafe_any g (j * 3) fs[j] W (fileAt_row (unhide ST).row2 hj) hdl)
      by_cases k1 : nm = tn
      · have R := hide (moveF_no fs nm tn (fun h => ((unhide MM).1 h).2.1 k1))
        have k1' : (tn == nm) = true := by simp [k1]
        obtain ⟨c0, c1, c2, f1, f2⟩ := ivars_cells (unhide ST)
        obtain ⟨r1, r2, r3⟩ := ivars_end (unhide ST) (.slice (some ⟨g, 0, none⟩) fs.length cap)
        clear MM MY KP NM AS k1
        go_wp2
        refine bodyPost_ret (v := .tuple #[.agg #[.slice (some ⟨g, 0, none⟩) fs.length cap], .bool false]) (by simp [results, Try.results18, go_sem, r1]) rfl ?_
        rw [unhide R]
        exact ⟨_, rfl, r2, r3⟩
      · have k1' : (tn == nm) = false := by simp; exact fun e => k1 e.symm
        by_cases k2 : nameOk tn
        · rw [decide_eq_true k2] at NM
          by_cases k3 : (fs[j]).safe = ((fs[j]).data.length : Int)
          · have R := hide (unhide MY ((unhide MM).2 ⟨hd, k1, k2, k3⟩))
            have k3' : ((fs[j]).safe == ((fs[j]).data.length : Int)) = true := by simp [k3]
            rw [k3'] at AS
            obtain ⟨j', hj', ha, hs⟩ := unhide (KP k1)
            rw [Nat.zero_add] at hs
            have ha0 : atF (keepF tn fs) nm = (j' : Int) := by have := ha 0; rw [Nat.zero_add] at this; exact this
            clear MM MY KP k3 k3' ha
            go_wp2_with fail
            refine (unhide (NM _)).mono ?_
            rintro e w2 ⟨rfl, rfl⟩
            go_wp2_with fail
            refine (unhide AS).mono ?_
            rintro e w3 ⟨rfl, hb3⟩
            have ST3 := hide (ivars_below (unhide ST) hb3)
            clear hb3 ST AS NM
            go_wp2_with fail
            refine (drop_any (unhide ST3) hl tn).mono ?_
            rintro e w4 ⟨rfl, g4, cap4, h4⟩
            have ST4 := hide h4
            clear h4 ST3
            have hkl := keepF_len tn fs
            have PT := hide (pointed_yes b g4 cap4 _ (keepF tn fs) nm w4 (ivars_cells (unhide ST4)).2.2.1 (unhide ST4).row2 (by omega) j' hj' ha0)
            have RN := hide (frename_any (unhide ST4) j' hj' tn htl)
            rw [hs] at RN
            have hml : (mvGo tn j fs 0).length = (keepF tn fs).length := by rw [← hs]; simp
            clear hs ha0
            go_wp2_with fail
            refine (unhide PT).mono ?_
            rintro e w5 ⟨rfl, rfl⟩
            go_wp2_with fail
            refine (unhide RN).mono ?_
            rintro e w6 ⟨rfl, h6⟩
            have ST6 := hide h6
            clear h6 RN PT ST4
            generalize mvGo tn j fs 0 = M at R ST6 hml
            obtain ⟨c0, c1, c2, f1, f2⟩ := ivars_cells (unhide ST6)
            obtain ⟨r1, r2, r3⟩ := ivars_end (unhide ST6) (.slice (some ⟨g4, 0, none⟩) M.length cap4)
            clear hml
            go_wp2
            refine bodyPost_ret (v := .tuple #[.agg #[.slice (some ⟨g4, 0, none⟩) M.length cap4], .bool true]) (by simp [results, Try.results18, go_sem, r1]) rfl ?_
            rw [unhide R]
            exact ⟨_, rfl, r2, r3⟩
          · have R := hide (moveF_no fs nm tn (fun h => k3 ((unhide MM).1 h).2.2.2))
            have k3' : ((fs[j]).safe == ((fs[j]).data.length : Int)) = false := by simp [k3]
            rw [k3'] at AS
            clear MM MY KP k3 k3'
            go_wp2_with fail
            refine (unhide (NM _)).mono ?_
            rintro e w2 ⟨rfl, rfl⟩
            go_wp2_with fail
            refine (unhide AS).mono ?_
            rintro e w3 ⟨rfl, hb3⟩
            have ST3 := hide (ivars_below (unhide ST) hb3)
            clear hb3 ST AS NM
            obtain ⟨c0, c1, c2, f1, f2⟩ := ivars_cells (unhide ST3)
            obtain ⟨r1, r2, r3⟩ := ivars_end (unhide ST3) (.slice (some ⟨g, 0, none⟩) fs.length cap)
            go_wp2
            refine bodyPost_ret (v := .tuple #[.agg #[.slice (some ⟨g, 0, none⟩) fs.length cap], .bool false]) (by simp [results, Try.results18, go_sem, r1]) rfl ?_
            rw [unhide R]
            exact ⟨_, rfl, r2, r3⟩
        · rw [decide_eq_false k2] at NM
          have R := hide (moveF_no fs nm tn (fun h => k2 ((unhide MM).1 h).2.2.1))
          clear MM MY KP AS k2
          obtain ⟨c0, c1, c2, f1, f2⟩ := ivars_cells (unhide ST)
          obtain ⟨r1, r2, r3⟩ := ivars_end (unhide ST) (.slice (some ⟨g, 0, none⟩) fs.length cap)
          go_wp2_with fail
          refine (unhide (NM _)).mono ?_
          rintro e w2 ⟨rfl, rfl⟩
          go_wp2
          refine bodyPost_ret (v := .tuple #[.agg #[.slice (some ⟨g, 0, none⟩) fs.length cap], .bool false]) (by simp [results, Try.results18, go_sem, r1]) rfl ?_
          rw [unhide R]
          exact ⟨_, rfl, r2, r3⟩
end Go.Proofs.Ytapdmngljokdmaa
