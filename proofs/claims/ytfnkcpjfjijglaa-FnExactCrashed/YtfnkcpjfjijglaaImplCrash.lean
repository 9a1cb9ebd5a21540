/- The walks of the program's own AllSafe, Crashed and MayBe, and of what they call. -/
import Derived.Test.YtfnkcpjfjijglaaImplOps
import Derived.Test.YtfnkcpjfjijglaaImplBrought
import Derived.Test.YtfnkcpjfjijglaaCrashBase
import Derived.Test.YtfnkcpjfjijglaaIntsHelp
namespace Go.Proofs.Ytfnkcpjfjijglaa
open Go.RowKit
open scoped Classical
set_option linter.unusedVariables false
attribute [local go_sem ↓] Go.wp_at_zero Go.wp_at_succ

set_option maxRecDepth 100000 in
set_option maxHeartbeats 1600000 in
theorem implAllSafe_any (va : Value) (ba : Nat) (fs : List FileL) (w : World) (hA : w.ownsRow ba 34 3 va fs.length (filesC fs)) (hl : fs.length ≤ 2000000) (hf : FewF fs 1048576) :
    Calls Try.prog 13 #[.agg #[va]] w fun e w' => e = .returned (.bool (decide (allSafeF fs))) ∧ Below w.heap.size w w' := by
  obtain ⟨aa, ca, rfl, sga⟩ := ownsRow_shape hA
  have HA := hide hA
  have HF := hide hf
  clear hA hf
  go_enter Try.func13, Try.ntmps13
  go_wp2
  obtain ⟨W, hW⟩ : ∃ W, W = w.alloc (Obj.cells #[Value.slice aa fs.length ca] 26) := ⟨_, rfl⟩
  have c0 : W.cell? ⟨w.heap.size, 0, none⟩ = some (.slice aa fs.length ca) := by rw [hW, cell_of_row _ _ 0 _ _ _ (heap_alloc_new w _)]; rfl
  have hW0 : Below w.heap.size w W := by rw [hW]; exact (Below.refl _ _).alloc (Nat.le_refl _) _
  have HW := hide (ownsRow_below (unhide HA) hW0)
  rw [← hW]
  clear hW HA
  go_loopw [7] (fun i wr => ∃ k : Nat, k ≤ fs.length ∧ i = .int .i64 k ∧ Below W.heap.size W wr ∧ Hid (∀ (j : Nat) (h : j < fs.length), j < k → (fs[j]).safe = ((fs[j]).data.length : Int)))
    (fun i _ => fs.length - (intOf i).toNat)
  case atStart => exact ⟨0, Nat.zero_le _, rfl, Below.refl _ _, hide (fun j _ h => by omega)⟩
  case round =>
    obtain ⟨k, hk, rfl, hb, hat⟩ := hrel
    have d0 := cell_later hb c0
    have hbw := hW0.trans (hb.mono hW0.size)
    by_cases hlt : k < fs.length
    · obtain ⟨ga, rfl⟩ := sga (by omega)
      have hk0 : (0 : Int) ≤ (k : Int) := Int.natCast_nonneg _
      have hk1 : (k : Int) < (fs.length : Int) := by omega
      have FA := hide (fileAt_row (ownsRow_below (unhide HW) hb) hlt)
      have hp := (unhide HF) _ (List.getElem_mem hlt)
      have HBAD : Hid (¬ (fs[k]).safe = ((fs[k]).data.length : Int) → decide (allSafeF fs) = false) := hide (fun h => decide_eq_false (fun hd => h (hd k hlt)))
      have HGOOD : Hid ((fs[k]).safe = ((fs[k]).data.length : Int) → ∀ (j : Nat) (h : j < fs.length), j < k + 1 → (fs[j]).safe = ((fs[j]).data.length : Int)) := hide (fun h j hj hjk => by
        by_cases e : j = k
        · subst e; exact h
        · exact unhide hat j hj (by omega))
      generalize fs[k] = p at FA hp HBAD HGOOD
      have AS := hide (allSafe_any ga (k * 3) p wr (unhide FA) hp.2)
      clear sga HW hat FA
      by_cases h1 : p.safe = (p.data.length : Int)
      · have R := hide (unhide HGOOD h1)
        rw [show (p.safe == (p.data.length : Int)) = true from by simp [h1]] at AS
        clear HBAD HGOOD h1
        go_wp2_with fail
        refine (unhide AS).mono ?_
        rintro e w1 ⟨rfl, hb1⟩
        have R2 := hb.trans (hb1.mono hb.size)
        clear hb1
        go_wp2
        go_roundw
        case rel => exact ⟨k + 1, by omega, by go_num, R2, R⟩
        case measure => simp [intOf]; omega
      · have R := hide (unhide HBAD h1)
        rw [show (p.safe == (p.data.length : Int)) = false from by simp [h1]] at AS
        clear HBAD HGOOD h1
        go_wp2_with fail
        refine (unhide AS).mono ?_
        rintro e w1 ⟨rfl, hb1⟩
        have R2 := hbw.trans (hb1.mono hbw.size)
        clear hb1
        go_wp2
        go_ret
        exact ⟨ret_bool (unhide R).symm, R2⟩
    · have R : Hid (decide (allSafeF fs) = true) := hide (decide_eq_true (fun j hj => unhide hat j hj (by omega)))
      clear sga hat HW
      go_wp2
      go_ret
      exact ⟨ret_bool (unhide R).symm, hbw⟩
set_option maxRecDepth 100000 in
set_option maxHeartbeats 1600000 in
theorem kept_any (g o i bk : Nat) (p : FileL) (vk : Value) (ks : List Int) (w : World) (hp : FileAt w g o p) (hK : w.ownsRow bk 3 1 vk ks.length (intC ks)) (h0 : 0 ≤ p.safe) (h1 : p.safe ≤ (p.data.length : Int)) (h2 : p.data.length ≤ 1048576) (hi : i ≤ 2000000) (hkl : ks.length ≤ 2000000) :
    Calls Try.prog 50 #[.pointer (some ⟨g, o, none⟩), .int .i64 (i : Int), vk] w fun e w' => e = .returned (.int .i64 (moreAt ks i p)) ∧ Below w.heap.size w w' := by
  obtain ⟨ak, ck, rfl, sgk⟩ := ownsRow_shape hK
  have D : ∀ n, Below w.heap.size w (w.drewN n) := fun n => far_drewN w n
  by_cases hlt : i < ks.length
  · obtain ⟨gk, rfl⟩ := sgk (by omega)
    have c0 := intC_cell hK rfl hlt
    have R : Hid (moreAt ks i p = brI ks[i] 0 ((p.data.length : Int) - p.safe)) := hide (by unfold moreAt; rw [if_pos hlt]; simp [List.getD_eq_getElem?_getD, hlt])
    generalize ks[i] = z at c0 R
    obtain ⟨nm, dt, sf⟩ := p
    obtain ⟨c1, c2, c3⟩ := hp
    simp only at c1 c2 c3 h0 h1 h2 R
    have hi0 : (0 : Int) ≤ (i : Int) := Int.natCast_nonneg _
    have hi1 : (i : Int) < (ks.length : Int) := by omega
    have hge : decide ((ks.length : Int) ≤ (i : Int)) = false := by simp; omega
    have BR := fun W => hide (brought_any z 0 ((dt.length : Int) - sf) W)
    clear hK sgk
    go_enter Try.func50, Try.ntmps50
    go_wp2_with fail
    go_quiet ((go_at_call 63; exact Calls.quiet_of_same (unhide (BR _))))
    go_wp2
    go_ret
    exact ⟨ret_int (unhide R).symm, D _⟩
  · have R : Hid (moreAt ks i p = 0) := hide (by unfold moreAt; rw [if_neg hlt])
    have hge : decide ((ks.length : Int) ≤ (i : Int)) = true := by simp; omega
    clear hK sgk
    go_enter Try.func50, Try.ntmps50
    go_wp2
    go_ret
    exact ⟨ret_int (unhide R).symm, Below.refl _ _⟩
theorem crashFile_at (ks : List Int) (i : Nat) (p : FileL) (s0 m0 : Nat) (hs : p.safe = (s0 : Int)) (h : moreAt ks i p = (m0 : Int)) (hl : s0 + m0 ≤ p.data.length) : crashFile ks i p = ⟨p.name, p.data.take (s0 + m0), ((s0 + m0 : Nat) : Int)⟩ := by
  unfold crashFile
  rw [hs, h, show ((s0 : Int) + (m0 : Int)).toNat = s0 + m0 from by omega, List.length_take, Nat.min_eq_left hl]
set_option maxRecDepth 100000 in
set_option maxHeartbeats 1600000 in
theorem lose_any {w W : World} {b ba bk g cap : Nat} {va vk : Value} {fs : List FileL} {ks : List Int} {r : Value} (ST : IVars w W b ba va g cap fs r fs) (hK : w.ownsRow bk 3 1 vk ks.length (intC ks)) (hd : diskOk fs) (hkl : ks.length ≤ 2000000) :
    Calls Try.prog 29 #[.pointer (some ⟨b, 0, none⟩), vk] W fun e w' => e = .returned (.tuple #[]) ∧ IVars w w' b ba va g cap fs r (crashGo ks fs 0) := by
  have HK := hide hK
  have HD := hide hd
  have hl4 : fs.length ≤ 4 := hd.1
  have HS := hide ST
  obtain ⟨-, -, c2, -, -⟩ := ivars_cells ST
  clear hK ST hd
  go_enter Try.func29, Try.ntmps29
  go_wp2
  clear c2
  go_loopw [11] (fun i wr => ∃ k : Nat, k ≤ fs.length ∧ i = .int .i64 k ∧ Hid (IVars w wr b ba va g cap fs r (partC ks fs k)))
    (fun i _ => fs.length - (intOf i).toNat)
  case atStart => exact ⟨0, Nat.zero_le _, rfl, by rw [partC_zero]; exact HS⟩
  case round =>
    obtain ⟨k, hk, rfl, HR⟩ := hrel
    clear HS
    by_cases hlt : k < fs.length
    · have hk0 : (0 : Int) ≤ (k : Int) := Int.natCast_nonneg _
      have hk1 : (k : Int) < (fs.length : Int) := by omega
      obtain ⟨-, -, c2, -, -⟩ := ivars_cells (unhide HR)
      rw [partC_length] at c2
      have hkp : k < (partC ks fs k).length := by rw [partC_length]; exact hlt
      have hok := ((unhide HD).2 k hlt).1
      have hat := partC_at ks fs k hlt
      have FA := hide (fileAt_row (unhide HR).row2 hkp)
      have KR := hide (ownsRow_below (unhide HK) (unhide HR).below)
      rw [hat] at FA
      obtain ⟨s0, hs0⟩ : ∃ s0 : Nat, (fs[k]).safe = (s0 : Int) := ⟨_, (Int.toNat_of_nonneg hok.2.2.1).symm⟩
      have hmo := moreAt_in ks k fs[k] hok.2.2.1 hok.2.2.2
      obtain ⟨m0, hm0⟩ : ∃ m0 : Nat, moreAt ks k fs[k] = (m0 : Int) := ⟨_, (Int.toNat_of_nonneg hmo.1).symm⟩
      have hdl : (fs[k]).data.length ≤ 60000 := hok.2.1
      have hsm : s0 + m0 ≤ (fs[k]).data.length := by have := hmo.2; rw [hs0, hm0] at this; omega
      have KE := hide (kept_any g (k * 3) k bk fs[k] vk ks wr.drew ⟨(unhide FA).name, (unhide FA).data, (unhide FA).safe⟩ (World.ownsRow.drew (unhide KR)) hok.2.2.1 hok.2.2.2 (by omega) (by omega) hkl)
      rw [hm0] at KE
      have CU := fun (W' : World) (h : Below wr.drew.heap.size wr.drew W') => hide (fcut_any (ivars_below (ivars_drew (unhide HR)) h) k hkp (s0 + m0) (by rw [hat]; exact hsm) (by rw [hat]; omega))
      rw [hat, ← crashFile_at ks k fs[k] s0 m0 hs0 hm0 hsm, partC_set ks fs k hlt, Int.natCast_add, ← show IntKind.i64.wrap ((s0 : Int) + (m0 : Int)) = (s0 : Int) + (m0 : Int) from IntWalk.i64_in _ ⟨by omega, by omega⟩] at CU
      have d3 := (unhide FA).safe
      rw [hs0] at d3
      have hs2 : s0 ≤ 60000 := by omega
      have hm2 : m0 ≤ 60000 := by omega
      clear hok hat FA KR hmo hdl hsm hs0 hm0 HR hkp
      go_wp2_with fail
      go_region_with (first
        | (go_at_call 50; refine (unhide KE).mono ?_; rintro e w1 ⟨rfl, hb1⟩; have x3 := cell_later hb1 d3)
        | (go_at_call 49; refine (unhide (CU _ hb1)).mono ?_; rintro e w2 ⟨rfl, h2⟩))
      all_goals
        have R := hide h2
        clear h2 x3 hb1 CU KE d3 c2
        go_wp2
        go_roundw
        case rel => exact ⟨k + 1, by omega, by go_num, R⟩
        case measure => simp [intOf]; omega
    · have R := unhide HR
      rw [partC_all ks fs k hlt] at R
      have R1 := hide R
      clear R HR
      go_wp2
      go_end0
      exact ⟨rfl, unhide R1⟩
set_option maxRecDepth 100000 in
set_option maxHeartbeats 1600000 in
theorem implCrashed_any (va vk : Value) (ba bk : Nat) (fs : List FileL) (ks : List Int) (w : World) (hA : w.ownsRow ba 34 3 va fs.length (filesC fs)) (hK : w.ownsRow bk 3 1 vk ks.length (intC ks)) (hl : fs.length ≤ 2000000) (hkl : ks.length ≤ 2000000) (hf : FewF fs 1048576) :
    Calls Try.prog 9 #[.agg #[va], vk] w fun e w' => ∃ v, e = .returned (.agg #[v]) ∧ w'.ownsRow w.heap.size 34 3 v (crashF fs ks).length (filesC (crashF fs ks)) ∧ Below w.heap.size w w' := by
  obtain ⟨aa, ca, rfl, sga⟩ := ownsRow_shape hA
  obtain ⟨ak, ck, rfl, sgk⟩ := ownsRow_shape hK
  have HA := hide hA
  have HK := hide hK
  have CP := fun (W' : World) (c : W'.cell? ⟨w.heap.size, 0, none⟩ = some (.slice aa fs.length ca)) (h : W'.ownsRow ba 34 3 (.slice aa fs.length ca) fs.length (filesC fs)) => hide (copied_gen w.heap.size ba _ fs W' c h hl hf)
  have OK := fun (W' : World) (g cap B : Nat) (h : RowAt W' B g cap fs) => hide (implDiskOk_any _ B fs W' h hl hf)
  clear hA hf hK sga sgk
  by_cases hd : diskOk fs
  · rw [decide_eq_true hd] at OK
    have LO := fun (W' : World) (b g cap : Nat) (h : IVars w W' b ba (.slice aa fs.length ca) g cap fs (.slice none 0 0) fs) => hide (lose_any h (unhide HK) hd hkl)
    have HE := hide (crashF_yes fs ks hd)
    have HL := hide (crashGo_length ks fs 0)
    clear hd
    go_enter Try.func9, Try.ntmps9
    go_wp2_with fail
    refine (unhide (CP _ (by rw [World.cell?_of_block (Below.heap_alloc _ _ _ (by simp)), cell_of_row _ _ 0 _ _ _ (heap_alloc_new w _)]; rfl) (World.ownsRow.alloc (World.ownsRow.alloc (unhide HA) _) _))).mono ?_
    rintro e w1 ⟨g, cap, rfl, ho, hb1⟩
    have ST := hide (ivars_copy (HA := unhide HA) ho hb1)
    clear ho hb1 CP HA
    go_wp2_with fail
    generalize hW : w1.alloc (Obj.cells #[Value.slice (some ⟨g, 0, none⟩) fs.length cap] 26) = W at ST ⊢
    generalize hb : w1.heap.size = b at ST ⊢
    clear hW hb
    refine (unhide (OK _ _ _ _ (unhide ST).row2)).mono ?_
    rintro e w2 ⟨rfl, hb2⟩
    have ST2 := hide (ivars_below (unhide ST) hb2)
    clear hb2 ST
    obtain ⟨c0, c1, c2, f1, f2⟩ := ivars_cells (unhide ST2)
    go_wp2_with fail
    refine (unhide (LO _ _ _ _ (unhide ST2))).mono ?_
    rintro e w3 ⟨rfl, h3⟩
    have ST3 := hide h3
    clear h3 ST2 LO OK c0 c1 c2 f1 f2
    obtain ⟨c0, c1, c2, f1, f2⟩ := ivars_cells (unhide ST3)
    obtain ⟨r1, r2, r3⟩ := ivars_end (unhide ST3) (.slice (some ⟨g, 0, none⟩) (crashGo ks fs 0).length cap)
    rw [← unhide HE] at c2 r1 r2 r3
    obtain ⟨us, hus⟩ : ∃ us, us = crashF fs ks := ⟨_, rfl⟩
    rw [← hus] at c2 r1 r2 r3
    have HU := hide hus
    clear ST3 HE HL hus
    go_wp2
    refine bodyPost_ret (v := .agg #[.slice (some ⟨g, 0, none⟩) us.length cap]) (by simp [results, Try.results9, go_sem, r1]) rfl ⟨_, rfl, by rw [← unhide HU]; exact r2, r3⟩
  · rw [decide_eq_false hd] at OK
    rw [crashF_no fs ks hd]
    clear hd
    go_enter Try.func9, Try.ntmps9
    go_wp2_with fail
    refine (unhide (CP _ (by rw [World.cell?_of_block (Below.heap_alloc _ _ _ (by simp)), cell_of_row _ _ 0 _ _ _ (heap_alloc_new w _)]; rfl) (World.ownsRow.alloc (World.ownsRow.alloc (unhide HA) _) _))).mono ?_
    rintro e w1 ⟨g, cap, rfl, ho, hb1⟩
    have ST := hide (ivars_copy (HA := unhide HA) ho hb1)
    clear ho hb1 CP HA
    go_wp2_with fail
    generalize hW : w1.alloc (Obj.cells #[Value.slice (some ⟨g, 0, none⟩) fs.length cap] 26) = W at ST ⊢
    generalize hb : w1.heap.size = b at ST ⊢
    clear hW hb
    refine (unhide (OK _ _ _ _ (unhide ST).row2)).mono ?_
    rintro e w2 ⟨rfl, hb2⟩
    have ST2 := hide (ivars_below (unhide ST) hb2)
    clear hb2 ST OK
    obtain ⟨c0, c1, c2, f1, f2⟩ := ivars_cells (unhide ST2)
    obtain ⟨r1, r2, r3⟩ := ivars_end (unhide ST2) (.slice (some ⟨g, 0, none⟩) fs.length cap)
    go_wp2
    refine bodyPost_ret (v := .agg #[.slice (some ⟨g, 0, none⟩) fs.length cap]) (by simp [results, Try.results9, go_sem, r1]) rfl ⟨_, rfl, r2, r3⟩
end Go.Proofs.Ytfnkcpjfjijglaa
