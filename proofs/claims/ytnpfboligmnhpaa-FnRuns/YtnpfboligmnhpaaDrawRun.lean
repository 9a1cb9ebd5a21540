/- The walk of l09Run: a drawn run is what runDrawn says. -/
import Derived.Test.YtnpfboligmnhpaaRunDrawn
import Derived.Deep.DeepCutAuto
import Derived.Deep.RegionWith
import Derived.Deep.RegionHeld3
namespace Go.Proofs.Ytnpfboligmnhpaa
open Go.RowKit
open scoped Classical
set_option linter.unusedVariables false
set_option linter.unusedSimpArgs false
attribute [local go_sem ↓] Go.wp_at_zero Go.wp_at_succ

theorem ls_end {w W W' : World} {B g o : Nat} {s : CurS} {ve vt : Value} {r : RunL} (h : LS w W B g o s ve vt r) (hg : W.grownBy W' (some w.heap.size)) : RunOwn W' w.heap.size ve vt r ∧ CurIs W' B g s ∧ w.grownBy W' (some g) := by
  have hl := h.glt
  have hB := h.hB
  have hz := h.grown.size
  refine ⟨runOwn_base ⟨h.ow.edges.kept hg (far_run h.ow.edges h.res (by decide)), h.ow.tasks.kept hg (far_run h.ow.tasks h.res (by decide))⟩ (by omega), curIs_kept h.cur (hg.block g (by omega) (by simp; omega)) (below_of_grown hg (by omega) (fun y hy => by cases hy; omega)), ⟨hg.os.trans h.grown.os, hg.tape.trans h.grown.tape, hg.output.trans h.grown.output, Nat.le_trans hz hg.size, fun j hj hn => (hg.block j (by omega) (fun e => by simp only [Option.some.injEq] at e; omega)).trans (h.grown.block j hj hn)⟩⟩
theorem pickAt3 {ts : List QuadL} {st : Int} {l : List Int} {j : Nat} (hl : l = tinA ts st) (hj : j < l.length) : l.getD j 0 = ((pickL l j : Nat) : Int) ∧ pickL l j < ts.length ∧ (ts.getD (pickL l j) quad0).a = st := by subst hl; exact pick_in hj
set_option maxRecDepth 100000 in
set_option maxHeartbeats 25600000 in
theorem drawRun_is (B g : Nat) (s : CurS) (w : World) (hc : CurIs w B g s) (hBw : B ≤ w.heap.size) :
    Calls Try.prog 38 #[.pointer (some ⟨g, 0, none⟩)] w fun e w' => ∃ ve vt, e = .returned (runV (runDrawn s).1 ve vt) ∧ RunOwn w' w.heap.size ve vt (runDrawn s).1 ∧ CurIs w' B g (runDrawn s).2 ∧ w.grownBy w' (some g) := by
  have hgw : g < w.heap.size := by obtain ⟨_, _, h1, _⟩ := hc; exact (Array.getElem?_eq_some_iff.1 h1).1
  obtain ⟨W, hW⟩ : ∃ W, W = w.alloc (Obj.cells zeroR 29) := ⟨_, rfl⟩
  have hr : W.heap[w.heap.size]? = some (.cells zeroR 29 (0, 0)) := by rw [hW]; exact heap_alloc_new _ _
  have hb0 : Below w.heap.size w W := by rw [hW]; exact (Below.refl _ _).alloc (Nat.le_refl _) _
  have hcu : CurIs W B g s := curIs_kept hc (hb0.block g hgw) (hb0.mono hBw)
  have hsz : W.heap.size = w.heap.size + 1 := by rw [hW]; simp
  have hgr : w.grownBy W (some g) := grown_of_below hb0
  unfold zeroR at hW
  clear hc hb0
  have BC := hide (below_is B g 9 s W hcu (by omega) (by omega))
  have hb9 := below_lt s 9 (by omega)
  have HSZ := hide hsz
  clear hcu hsz
  go_enter Try.func38, Try.ntmps38
  go_wp2_with fail
  rw [← hW]
  clear hW
  refine (unhide BC).mono ?_
  rintro e w1 ⟨rfl, hc1, hg1⟩
  have hr1 : w1.heap[w.heap.size]? = some (.cells zeroR 29 (0, 0)) := by rw [hg1.block _ (by have := unhide HSZ; omega) (by simp; omega)]; exact hr
  have hgr1 := grown_trans hgr hg1
  have z1 := hide hg1.size
  have PD := hide (drawPlan_is B g s.step w1 hc1 (by have := hgr1.size; omega))
  clear BC hc1 hg1 hr hgr
  obtain ⟨nb, hnb⟩ : ∃ nb, nb = s.below 9 := ⟨_, rfl⟩
  rw [← hnb] at hb9 ⊢
  have HNB := hide hnb
  clear hnb
  go_wp2_with fail
  refine (unhide PD).mono ?_
  rintro e w2 ⟨v, rfl, ow2, hc2, hg2⟩
  have hr2 : w2.heap[w.heap.size]? = some (.cells zeroR 29 (0, 0)) := by rw [hg2.block _ (Array.getElem?_eq_some_iff.1 hr1).1 (by simp; omega)]; exact hr1
  have hgr2 := grown_trans hgr1 hg2
  have z2 := hide hg2.size
  clear PD hr1 hgr1 hg2
  have NI : NewIs ((1 + nb : Nat) : Int) (planDrawn s.step) (runNew0 s) true := by
    rw [unhide HNB]
    refine ⟨fun _ => ⟨rfl, rfl⟩, fun h => absurd ⟨⟨by omega, by have := below_lt s 9 (by omega); omega⟩, planDrawn_fault s.step⟩ h⟩
  have hel : (planDrawn s.step).edges.length ≤ 8 := (edgesDrawn_good s.step).2
  have NC := hide (specNewX v w1.heap.size ((1 + nb : Nat) : Int) (planDrawn s.step) (runNew0 s) true NI w2 ow2 (by omega))
  obtain ⟨p0, hp0⟩ : ∃ p0, p0 = planDrawn s.step := ⟨_, rfl⟩
  have W0 := hide (runNew0_well s)
  have P0 : Hid ((runNew0 s).plan = p0) := hide hp0.symm
  have T0 : (runNew0 s).tasks.length = tasksDrawn s.step := by
    show (newT (planDrawn s.step) (planDrawn s.step).tasks.toNat).length = _
    rw [newT_len]; rfl
  have tn := tasksDrawn_in s.step
  obtain ⟨n0, hn0⟩ : ∃ n0, n0 = tasksDrawn s.step := ⟨_, rfl⟩
  rw [← hn0] at T0 tn
  rw [← hp0] at hel NC ⊢
  have RES0 : Hid (rnGo 12 (edgesDrawn s.step).2 0 (runNew0 s) = runLoop s) := hide rfl
  have FIN : Hid (runDrawn s = (if (runLoop s).2.below 10 == 0 then leftR (runLoop s).1 else (runLoop s).1, (runLoop s).2.step)) := hide rfl
  generalize runLoop s = RES at RES0 FIN
  generalize (edgesDrawn s.step).2 = s0 at hc2 RES0
  generalize runNew0 s = r at W0 P0 T0 RES0 NC
  have HT0 := hide T0
  clear hp0 hn0 NI HNB T0
  obtain ⟨q1, q2, q3, q4, qes⟩ := p0
  obtain ⟨id, ⟨p1, p2, p3, p4, es⟩, st, ts⟩ := r
  dsimp only [planV, runV, runC] at NC hel HT0 P0 ⊢
  have HEL : es.length ≤ 8 := by have := unhide P0; simp only [PlanL.mk.injEq] at this; rw [this.2.2.2.2]; exact hel
  have HGW := hide hgw
  have e1n : ((1 + nb : Nat) : Int) = 1 + (nb : Int) := by omega
  rw [e1n] at NC
  clear ow2 e1n
  go_wp2_with fail
  refine (unhide NC).mono ?_
  rintro e w3 ⟨ve3, vt3, rfl, ow3, hb3⟩
  have oa := ow3.edges
  have ob := ow3.tasks
  dsimp only at oa ob
  obtain ⟨qe, me, rfl, -⟩ := ownsRow_shape oa
  obtain ⟨qt, mt, rfl, -⟩ := ownsRow_shape ob
  obtain ⟨w4, hw4⟩ : ∃ w4, w4 = w3.alloc (Obj.cells #[.int .i64 id, .int .i64 p1, .int .i64 p2, .int .i64 p3, .int .i64 p4, .slice qe es.length me, .int .i64 st, .slice qt ts.length mt] 29) := ⟨_, rfl⟩
  have hb4 : Below w3.heap.size w3 w4 := by rw [hw4]; exact (Below.refl _ _).alloc (Nat.le_refl _) _
  have b24 : Below w2.heap.size w2 w4 := hb3.trans (hb4.mono hb3.size)
  have hz2 := hgr2.size
  have ST0 : Hid (LS w w4 B g w3.heap.size s0 (.slice qe es.length me) (.slice qt ts.length mt) ⟨id, ⟨p1, p2, p3, p4, es⟩, st, ts⟩) := hide
    ⟨heapLater b24 hr2, by rw [hw4]; exact heap_alloc_new _ _, runOwn_base (runOwn_below ow3 hb4) (by have h1 := (Array.getElem?_eq_some_iff.1 hr2).1; omega), curIs_kept hc2 (b24.block g (by omega)) (b24.mono (by omega)), hgw, hBw, by have h1 := (Array.getElem?_eq_some_iff.1 hr2).1; have := hb3.size; omega, grown_trans hgr2 (grown_of_below b24)⟩
  clear oa ob ow3 hb3 hb4 b24 hr2 hgr2 hc2 NC z1 z2 HSZ hel
  go_wp2
  rw [← hw4]
  clear hw4
  generalize w3.heap.size = o at ST0 ⊢
  clear hz2 hgw hBw
  go_loopw [5] (fun v wr => ∃ (i : Nat) (s1 : CurS) (r : RunL) (ve vt : Value), i ≤ 11 ∧ v = .int .i64 i ∧ Hid (WellR r) ∧ Hid (r.plan = ⟨q1, q2, q3, q4, qes⟩) ∧ Hid (r.tasks.length = n0) ∧ Hid (LS w wr B g o s1 ve vt r) ∧ Hid (rnGo (12 - i) s1 i r = RES))
    (fun v _ => 12 - (intOf v).toNat)
  case atStart => exact ⟨0, s0, _, _, _, by omega, rfl, W0, P0, HT0, ST0, RES0⟩
  case round =>
    clear W0 P0 HT0 ST0 RES0 HEL
    obtain ⟨i, s1, r, ve, vt, hi, rfl, WL, PL, TL, ST, HG⟩ := hrel
    obtain ⟨id, ⟨p1, p2, p3, p4, es⟩, st, ts⟩ := r
    have oa := (unhide ST).ow.edges
    have ob := (unhide ST).ow.tasks
    dsimp only at oa ob TL PL
    obtain ⟨qe, me, rfl, -⟩ := ownsRow_shape oa
    obtain ⟨qt, mt, rfl, -⟩ := ownsRow_shape ob
    clear oa ob
    obtain ⟨nn, FF⟩ := facts_of (unhide WL).ok
    have hel : es.length ≤ 30 := (fault_none (unhide WL).ok.2.1).1.2.2.1
    have htl : ts.length ≤ 12 := by have := FF.hl; have := FF.n12; dsimp only at *; omega
    have hwt : 1 ≤ p3 ∧ p3 ≤ 20 := FF.wait
    have HCB : Hid (∀ u, u < ts.length → 0 ≤ (ts.getD u quad0).c ∧ (ts.getD u quad0).c ≤ 5) := hide (fun u hu => by have h1 := (FF.fit u (by rw [← FF.hl]; exact hu)).2.1; have h2 := FF.most; dsimp only at h1 h2; omega)
    clear FF
    have BC := hide (below_is B g 12 s1 wr (unhide ST).cur (by omega) (by omega))
    go_wp2_with fail
    refine (unhide BC).mono ?_
    rintro e v1 ⟨rfl, hc1, hg1⟩
    have S1 := hide (ls_cur (unhide ST) hc1 hg1)
    clear BC hc1 hg1 ST
    have hb12 := below_lt s1 12 (by omega)
    obtain ⟨m, hm⟩ : ∃ m, m = s1.below 12 := ⟨_, rfl⟩
    rw [← hm] at hb12 ⊢
    obtain ⟨s2, hs2⟩ : ∃ s2, s2 = s1.step := ⟨_, rfl⟩
    rw [← hs2] at S1
    have HM := hide hm
    have HS2 := hide hs2
    clear hm hs2
    have c6 : v1.cell? ⟨o, 6, none⟩ = some (.int .i64 st) := cellIn (unhide S1).bo rfl
    by_cases h1 : i < m ∧ st = 1
    · obtain ⟨h1, hst⟩ := h1
      have d1 : decide ((i : Int) < (m : Int)) = true := by simp; exact h1
      have d2 : (st == 1) = true := by simp [hst]
      have HG2 : Hid (rnGo (12 - (i + 1)) (rnStep s2 i ⟨id, ⟨p1, p2, p3, p4, es⟩, st, ts⟩).2 (i + 1) (rnStep s2 i ⟨id, ⟨p1, p2, p3, p4, es⟩, st, ts⟩).1 = RES) := hide (by rw [← unhide HG, rnGo_in s1 i _ hi (by rw [← unhide HM]; exact h1) hst, ← unhide HS2])
      have WN2 := hide (rnStep_well (s := s2) (i := i) (unhide WL) hi)
      have A2D : Hid (∀ A2 A3 : List Int, A2 = tinA ts 2 → A3 = tinA ts 3 → rnStep s2 i ⟨id, ⟨p1, p2, p3, p4, es⟩, st, ts⟩ = if A3.length = 0 then (if A2.length = 0 then (⟨id, ⟨p1, p2, p3, p4, es⟩, st, ts⟩, s2) else (startR ⟨id, ⟨p1, p2, p3, p4, es⟩, st, ts⟩ (pickL A2 (s2.below A2.length)) ((i : Int) + p3), s2.step)) else if s2.below 2 == 0 then (doneR ⟨id, ⟨p1, p2, p3, p4, es⟩, st, ts⟩ (pickL A3 (s2.step.below A3.length)), s2.step.step) else if s2.step.below 4 == 0 then (failR ⟨id, ⟨p1, p2, p3, p4, es⟩, st, ts⟩ (pickL A3 (s2.step.step.below A3.length)), s2.step.step.step) else if A2.length = 0 then (⟨id, ⟨p1, p2, p3, p4, es⟩, st, ts⟩, s2.step.step) else (startR ⟨id, ⟨p1, p2, p3, p4, es⟩, st, ts⟩ (pickL A2 (s2.step.step.below A2.length)) ((i : Int) + p3), s2.step.step.step)) := hide (fun A2 A3 h2 h3 => by rw [h2, h3]; rfl)
      have HST := hide hst
      clear hst HG HM
      have TC := fun (x : Int) (W : World) (h : W.ownsRow (w.heap.size + 1) 40 4 (.slice qt ts.length mt) ts.length (quadsC ts)) => hide (specTasksIn_any (.slice qe es.length me) (.slice qt ts.length mt) (w.heap.size + 1) ⟨id, ⟨p1, p2, p3, p4, es⟩, st, ts⟩ x W h (by dsimp only; omega))
      dsimp only [runV, runC] at TC
      have TL2 := tinA_len ts 2
      have TL3 := tinA_len ts 3
      have T2 := TC 2
      have T3 := TC 3
      obtain ⟨A2, hA2⟩ : ∃ A2, A2 = tinA ts 2 := ⟨_, rfl⟩
      obtain ⟨A3, hA3⟩ : ∃ A3, A3 = tinA ts 3 := ⟨_, rfl⟩
      rw [← hA2] at T2 TL2
      rw [← hA3] at T3 TL3
      have STEPS := hide (unhide A2D A2 A3 hA2 hA3)
      have HDA2 := hide hA2
      have HDA3 := hide hA3
      clear hA2 hA3 A2D TC
      have hk := (unhide S1).bo
      unfold runC at hk
      dsimp only at hk
      have k0 := cellIn (i := 0) hk rfl
      have k1 := cellIn (i := 1) hk rfl
      have k2 := cellIn (i := 2) hk rfl
      have k3 := cellIn (i := 3) hk rfl
      have k4 := cellIn (i := 4) hk rfl
      have k5 := cellIn (i := 5) hk rfl
      have k6 := cellIn (i := 6) hk rfl
      have k7 := cellIn (i := 7) hk rfl
      clear hk
      go_wp2_with fail
      refine (unhide (T2 _ (unhide S1).ow.tasks)).mono ?_
      rintro e v2 ⟨gA2, cA2, rfl, oA2, hb2⟩
      have S2 := hide (ls_below (unhide S1) hb2)
      have HBA2 := hide (show g < v1.heap.size by have := (unhide S1).glt; have := (unhide S1).grown.size; omega)
      clear k0 k1 k2 k3 k4 k5 k6 k7 c6 S1 T2 hb2
      have hk := (unhide S2).bo
      unfold runC at hk
      dsimp only at hk
      have k0 := cellIn (i := 0) hk rfl
      have k1 := cellIn (i := 1) hk rfl
      have k2 := cellIn (i := 2) hk rfl
      have k3 := cellIn (i := 3) hk rfl
      have k4 := cellIn (i := 4) hk rfl
      have k5 := cellIn (i := 5) hk rfl
      have k6 := cellIn (i := 6) hk rfl
      have k7 := cellIn (i := 7) hk rfl
      clear hk
      go_wp2_with fail
      refine (unhide (T3 _ (unhide S2).ow.tasks)).mono ?_
      rintro e v3 ⟨gA3, cA3, rfl, oA3, hb3⟩
      have S3 := hide (ls_below (unhide S2) hb3)
      have OA2 := hide (ownsRow_below oA2 hb3)
      have OA3 := hide oA3
      have HBA3 := hide (show g < v2.heap.size by have := (unhide S2).glt; have := (unhide S2).grown.size; omega)
      clear k0 k1 k2 k3 k4 k5 k6 k7 S2 T3 hb3 oA2 oA3
      generalize v1.heap.size = bA2 at OA2 HBA2
      generalize v2.heap.size = bA3 at OA3 HBA3
      by_cases h3 : A3.length = 0
      · have e3 : A3 = [] := List.length_eq_zero_iff.1 h3
        subst e3
        have H3 : Hid (([] : List Int).length = 0) := hide rfl
        clear h3
        by_cases h4 : A2.length = 0
        · have e4 : A2 = [] := List.length_eq_zero_iff.1 h4
          subst e4
          have H4 : Hid (([] : List Int).length = 0) := hide rfl
          clear h4
          have STEP : rnStep s2 i ⟨id, ⟨p1, p2, p3, p4, es⟩, st, ts⟩ = (⟨id, ⟨p1, p2, p3, p4, es⟩, st, ts⟩, s2) := by rw [unhide STEPS]; exact by rw [if_pos (unhide H3), if_pos (unhide H4)]
          have GN := hide (unhide HG2)
          rw [STEP] at GN
          clear STEP HG2 WN2
          go_wp2
          go_roundw
          case rel => exact ⟨i + 1, _, ⟨id, ⟨p1, p2, p3, p4, es⟩, st, ts⟩, _, _, by omega, by go_num, WL, PL, TL, S3, GN⟩
          case measure => simp [intOf]; omega
        · have d4 : ¬ A2 = [] := fun e => h4 (by rw [e]; rfl)
          have H4 := hide h4
          obtain ⟨jj, hjj⟩ : ∃ jj, jj = s2.below A2.length := ⟨_, rfl⟩
          have hjl : jj < A2.length := by rw [hjj]; exact below_lt _ _ (by omega)
          obtain ⟨r2, hr2⟩ : ∃ r2, r2 = startR ⟨id, ⟨p1, p2, p3, p4, es⟩, st, ts⟩ (pickL A2 jj) ((i : Int) + p3) := ⟨_, rfl⟩
          have STEP : rnStep s2 i ⟨id, ⟨p1, p2, p3, p4, es⟩, st, ts⟩ = (r2, s2.step) := by rw [hr2, hjj]; exact by rw [unhide STEPS, if_pos (unhide H3), if_neg (unhide H4)]
          have GN := hide (unhide HG2)
          rw [STEP] at GN
          have WN0 := unhide WN2
          rw [STEP] at WN0
          obtain ⟨pk1, pk2, pk3⟩ := pickAt3 (unhide HDA2) hjl
          obtain ⟨u, hu⟩ : ∃ u, u = pickL A2 jj := ⟨_, rfl⟩
          rw [← hu] at pk1 pk2 pk3 hr2
          have HU : Hid (A2[jj] = (u : Int)) := hide (by rw [← pk1, List.getD_eq_getElem?_getD, List.getElem?_eq_getElem hjl]; rfl)
          have hul : u < ts.length := pk2
          have hcc := unhide HCB u pk2
          have CF := fun (W : World) (h1 : W.ownsRow (w.heap.size + 1) 96 2 (.slice qe es.length me) es.length (edgesC es)) (h2 : W.ownsRow (w.heap.size + 1) 40 4 (.slice qt ts.length mt) ts.length (quadsC ts)) => hide (specStart_any (.slice qe es.length me) (.slice qt ts.length mt) (w.heap.size + 1) (w.heap.size + 1) u ⟨id, ⟨p1, p2, p3, p4, es⟩, st, ts⟩ (i : Int) W h1 h2 (by dsimp only; omega) (by dsimp only; omega) hul ⟨by dsimp only; omega, by dsimp only; omega⟩ ⟨by dsimp only; omega, by dsimp only; omega⟩ ⟨by omega, by omega⟩)
          have ec : startR ⟨id, ⟨p1, p2, p3, p4, es⟩, st, ts⟩ u ((i : Int) + p3) = r2 := hr2.symm
          dsimp only at CF
          rw [ec] at CF
          clear ec
          obtain ⟨yi, ⟨y1, y2, y3, y4, ye⟩, ys, yt⟩ := r2
          dsimp only [runV, runC] at CF
          have WN := hide WN0.1
          have PN := hide (WN0.2.plan.trans (unhide PL))
          have TN := hide (WN0.2.len.trans (unhide TL))
          have e1 := intC_cell (unhide OA2) rfl hjl
          rw [unhide HU] at e1
          have ST0 := hide (ls_below (unhide S3) ((Below.refl v3.heap.size v3).drew))
          have OB0 := hide (ownsRow_below (unhide OA2) ((Below.refl v3.heap.size v3).drew))
          have hj0 : (0 : Int) ≤ (jj : Int) := Int.natCast_nonneg _
          have hj1 : (jj : Int) < (A2.length : Int) := by omega
          have HJ := hide hjj
          clear STEP WN0 pk1 pk2 pk3 hu WN2 HG2 hjj S3 OA2
          go_wp2_with fail
          refine wp_region_held_drew (S := fun w' => w'.cell? ⟨gA2, jj, none⟩ = some (.int .i64 (u : Int))) (by kernel_rfl) e1 (fun hS => ?_)
          refine wpAnyH_take (i := 1) (v := .slice (some ⟨gA2, 0, none⟩) A2.length cA2) rfl (by kernel_rfl) (by kernel_rfl) (by kernel_rfl) (fun _ _ _ h => h) (Or.inl ⟨by kernel_rfl, fun w hSw => by (try dsimp only at hSw); go_split_ands; go_simp⟩) (by assumption) ?_
          simp only [Act.put, List.getElem_toArray, List.getElem_cons_zero, List.getElem_cons_succ, List.setIfInBounds_toArray, List.set_cons_zero, List.set_cons_succ]
          refine wpAnyH_take (i := 2) (v := .pointer (some ⟨g, 0, none⟩)) rfl (by kernel_rfl) (by kernel_rfl) (by kernel_rfl) (fun _ _ _ h => h) (Or.inl ⟨by kernel_rfl, fun w hSw => by (try dsimp only at hSw); go_split_ands; go_simp⟩) (by assumption) ?_
          simp only [Act.put, List.getElem_toArray, List.getElem_cons_zero, List.getElem_cons_succ, List.setIfInBounds_toArray, List.set_cons_zero, List.set_cons_succ]
          refine wpAnyH_take (i := 3) (v := .slice (some ⟨gA2, 0, none⟩) A2.length cA2) rfl (by kernel_rfl) (by kernel_rfl) (by kernel_rfl) (fun _ _ _ h => h) (Or.inl ⟨by kernel_rfl, fun w hSw => by (try dsimp only at hSw); go_split_ands; go_simp⟩) (by assumption) ?_
          simp only [Act.put, List.getElem_toArray, List.getElem_cons_zero, List.getElem_cons_succ, List.setIfInBounds_toArray, List.set_cons_zero, List.set_cons_succ]
          refine wpAnyH_take (i := 4) (v := .int .i64 (A2.length : Int)) rfl (by kernel_rfl) (by kernel_rfl) (by kernel_rfl) (fun _ _ _ h => h) (Or.inl ⟨by kernel_rfl, fun w hSw => by (try dsimp only at hSw); go_split_ands; go_simp⟩) (by assumption) ?_
          simp only [Act.put, List.getElem_toArray, List.getElem_cons_zero, List.getElem_cons_succ, List.setIfInBounds_toArray, List.set_cons_zero, List.set_cons_succ]
          refine wpAnyH_take (i := 8) (v := .int .i64 (i : Int)) rfl (by kernel_rfl) (by kernel_rfl) (by kernel_rfl) (fun _ _ _ h => h) (Or.inl ⟨by kernel_rfl, fun w hSw => by (try dsimp only at hSw); go_split_ands; go_simp⟩) (by assumption) ?_
          simp only [Act.put, List.getElem_toArray, List.getElem_cons_zero, List.getElem_cons_succ, List.setIfInBounds_toArray, List.set_cons_zero, List.set_cons_succ]
          obtain ⟨V0, hV0⟩ : ∃ V0, V0 = v3.drew := ⟨_, rfl⟩
          rw [← hV0] at ST0 OB0 hS ⊢
          clear hV0 e1
          refine wpAnyH_ready (rs := [0, 5]) (by kernel_rfl) (by simp) ?_
          refine AllReadyH.cons (i := 0) rfl (fun K hK => ?_) (AllReadyH.cons (i := 5) rfl (fun K hK => ?_) AllReadyH.nil)
          · have hk := (unhide ST0).bo
            unfold runC at hk
            dsimp only at hk
            have k0 := cellIn (i := 0) hk rfl
            have k1 := cellIn (i := 1) hk rfl
            have k2 := cellIn (i := 2) hk rfl
            have k3 := cellIn (i := 3) hk rfl
            have k4 := cellIn (i := 4) hk rfl
            have k5 := cellIn (i := 5) hk rfl
            have k6 := cellIn (i := 6) hk rfl
            have k7 := cellIn (i := 7) hk rfl
            clear hk
            go_simp
            refine hK.out _ _ hS (fun hHeld => ?_)
            clear hK hHeld k0 k1 k2 k3 k4 k5 k6 k7
            try simp only [Act.put, List.getElem_toArray, List.getElem_cons_zero, List.getElem_cons_succ, List.setIfInBounds_toArray, List.set_cons_zero, List.set_cons_succ]
            refine wpAnyH_ready (rs := [5]) (by kernel_rfl) (by simp) ?_
            refine AllReadyH.cons (i := 5) rfl (fun K hK => ?_) AllReadyH.nil
            have BC := hide (below_is B g A2.length s2 V0 (unhide ST0).cur (by omega) (by omega))
            go_simp
            refine (unhide BC).mono ?_
            rintro e V1 ⟨rfl, hcu, hgr⟩
            have SB := hide (ls_cur (unhide ST0) hcu hgr)
            have OBB := hide (row_cur (unhide OB0) hgr (by have := (unhide ST0).glt; have := unhide HBA2; omega))
            have hSB : V1.cell? ⟨gA2, jj, none⟩ = some (.int .i64 (u : Int)) := by have := intC_cell (unhide OBB) rfl hjl; rw [unhide HU] at this; exact this
            clear hcu hgr BC
            go_wp2_with fail
            refine hK.out _ _ hSB (fun hHeld => ?_)
            clear hK hHeld ST0 OB0 hS
            have hS := hSB
            clear hSB
            try simp only [Act.put, List.getElem_toArray, List.getElem_cons_zero, List.getElem_cons_succ, List.setIfInBounds_toArray, List.set_cons_zero, List.set_cons_succ]
            rw [← unhide HJ]
            clear HJ
            refine wpAnyH_take (i := 6) (v := .pointer (some ⟨gA2, jj, none⟩)) rfl (by kernel_rfl) (by kernel_rfl) (by kernel_rfl) (fun _ _ _ h => h) (Or.inl ⟨by kernel_rfl, fun w hSw => by (try dsimp only at hSw); go_split_ands; go_simp⟩) (by assumption) ?_
            simp only [Act.put, List.getElem_toArray, List.getElem_cons_zero, List.getElem_cons_succ, List.setIfInBounds_toArray, List.set_cons_zero, List.set_cons_succ]
            refine wpAnyH_take (i := 7) (v := .int .i64 (u : Int)) rfl (by kernel_rfl) (by kernel_rfl) (by kernel_rfl) (fun _ _ _ h => h) (Or.inl ⟨by kernel_rfl, fun w hSw => by (try dsimp only at hSw); go_split_ands; go_simp⟩) (by assumption) ?_
            simp only [Act.put, List.getElem_toArray, List.getElem_cons_zero, List.getElem_cons_succ, List.setIfInBounds_toArray, List.set_cons_zero, List.set_cons_succ]
            refine wpAnyH_ready (rs := [9]) (by kernel_rfl) (by simp) ?_
            refine AllReadyH.cons (i := 9) rfl (fun K hK => ?_) AllReadyH.nil
            go_simp
            refine (unhide (CF _ (unhide SB).ow.edges (unhide SB).ow.tasks)).mono ?_
            rintro e w7 ⟨ge, ce, gt, ct, rfl, ow7, hb7⟩
            have S7 := hide (ls_below (unhide SB) hb7)
            have hS7 := cell_later hb7 hS
            have OW7 := hide (runOwn_base ow7 (show w.heap.size + 1 ≤ V1.heap.size by have h1 := (Array.getElem?_eq_some_iff.1 (unhide SB).res).1; omega))
            have OB7 := hide (ownsRow_below (unhide OBB) hb7)
            clear SB OBB hS ow7 hb7
            go_wp2_with fail
            refine hK.out _ _ hS7 (fun hHeld => ?_)
            clear hK hHeld
            try simp only [Act.put, List.getElem_toArray, List.getElem_cons_zero, List.getElem_cons_succ, List.setIfInBounds_toArray, List.set_cons_zero, List.set_cons_succ]
            refine wpAnyH_ready (rs := [10]) (by kernel_rfl) (by simp) ?_
            refine AllReadyH.cons (i := 10) rfl (fun K hK => ?_) AllReadyH.nil
            have hbo := (unhide S7).bo
            unfold runC at hbo
            dsimp only at hbo
            obtain ⟨hb8, G8⟩ := setMany_is [(0, .int .i64 yi), (1, .int .i64 y1), (2, .int .i64 y2), (3, .int .i64 y3), (4, .int .i64 y4), (5, .slice (some ⟨ge, 0, none⟩) es.length ce), (6, .int .i64 ys), (7, .slice (some ⟨gt, 0, none⟩) ts.length ct)] w7 _ hbo
            have hb8' : (setMany w7 o [(0, .int .i64 yi), (1, .int .i64 y1), (2, .int .i64 y2), (3, .int .i64 y3), (4, .int .i64 y4), (5, .slice (some ⟨ge, 0, none⟩) es.length ce), (6, .int .i64 ys), (7, .slice (some ⟨gt, 0, none⟩) ts.length ct)]).heap[o]? = some (.cells (runC ⟨yi, ⟨y1, y2, y3, y4, ye⟩, ys, yt⟩ (.slice (some ⟨ge, 0, none⟩) es.length ce) (.slice (some ⟨gt, 0, none⟩) ts.length ct)) 29 (0, 0)) := by rw [hb8, put8]; rfl
            have S8 := hide (ls_put (unhide S7) G8 hb8' (unhide OW7))
            have hS8 : (setMany w7 o [(0, .int .i64 yi), (1, .int .i64 y1), (2, .int .i64 y2), (3, .int .i64 y3), (4, .int .i64 y4), (5, .slice (some ⟨ge, 0, none⟩) es.length ce), (6, .int .i64 ys), (7, .slice (some ⟨gt, 0, none⟩) ts.length ct)]).cell? ⟨gA2, jj, none⟩ = some (.int .i64 (u : Int)) := cell_but hS7 G8 (fun e => by
              have h1 := (unhide OB7).2
              rcases h1 with ⟨q, _⟩ | ⟨g1, cap1, cur1, k1, _, hh1, _⟩
              · simp at q
              · simp only [Value.slice.injEq, Option.some.injEq, Addr.mk.injEq, and_true, true_and] at k1
                rw [← k1.1, e, hbo] at hh1
                simp at hh1)
            obtain ⟨w8, hw8⟩ : ∃ w8, w8 = setMany w7 o [(0, .int .i64 yi), (1, .int .i64 y1), (2, .int .i64 y2), (3, .int .i64 y3), (4, .int .i64 y4), (5, .slice (some ⟨ge, 0, none⟩) es.length ce), (6, .int .i64 ys), (7, .slice (some ⟨gt, 0, none⟩) ts.length ct)] := ⟨_, rfl⟩
            have eW : ((((((((w7).setCell ⟨o, 0, none⟩ (.int .i64 yi)).setCell ⟨o, 1, none⟩ (.int .i64 y1)).setCell ⟨o, 2, none⟩ (.int .i64 y2)).setCell ⟨o, 3, none⟩ (.int .i64 y3)).setCell ⟨o, 4, none⟩ (.int .i64 y4)).setCell ⟨o, 5, none⟩ (.slice (some ⟨ge, 0, none⟩) es.length ce)).setCell ⟨o, 6, none⟩ (.int .i64 ys)).setCell ⟨o, 7, none⟩ (.slice (some ⟨gt, 0, none⟩) ts.length ct) = w8 := by rw [hw8]; simp only [setMany]
            rw [← hw8] at S8 hS8
            have EW := hide eW
            have z0 := cellIn (i := 0) hbo rfl
            have x0 := softIn (i := 0) hbo
            have z1 := cellIn (i := 1) hbo rfl
            have x1 := softIn (i := 1) hbo
            have z2 := cellIn (i := 2) hbo rfl
            have x2 := softIn (i := 2) hbo
            have z3 := cellIn (i := 3) hbo rfl
            have x3 := softIn (i := 3) hbo
            have z4 := cellIn (i := 4) hbo rfl
            have x4 := softIn (i := 4) hbo
            have z5 := cellIn (i := 5) hbo rfl
            have x5 := softIn (i := 5) hbo
            have z6 := cellIn (i := 6) hbo rfl
            have x6 := softIn (i := 6) hbo
            have z7 := cellIn (i := 7) hbo rfl
            have x7 := softIn (i := 7) hbo
            clear eW hw8 hb8 G8 hb8' hbo OW7 OB7 S7
            go_simp
            rw [unhide EW]
            refine hK.out _ _ hS8 (fun hHeld => ?_)
            clear hK hHeld hS8 hS7 EW z0 x0 z1 x1 z2 x2 z3 x3 z4 x4 z5 x5 z6 x6 z7 x7
            try simp only [Act.put, List.getElem_toArray, List.getElem_cons_zero, List.getElem_cons_succ, List.setIfInBounds_toArray, List.set_cons_zero, List.set_cons_succ]
            refine wpAnyH_done (by kernel_rfl) ?_ _
            go_wp2
            go_roundw
            case rel => exact ⟨i + 1, _, ⟨yi, ⟨y1, y2, y3, y4, ye⟩, ys, yt⟩, _, _, by omega, by go_num, WN, PN, TN, S8, GN⟩
            case measure => simp [intOf]; omega
          · have BC := hide (below_is B g A2.length s2 V0 (unhide ST0).cur (by omega) (by omega))
            go_simp
            refine (unhide BC).mono ?_
            rintro e V1 ⟨rfl, hcu, hgr⟩
            have SB := hide (ls_cur (unhide ST0) hcu hgr)
            have OBB := hide (row_cur (unhide OB0) hgr (by have := (unhide ST0).glt; have := unhide HBA2; omega))
            have hSB : V1.cell? ⟨gA2, jj, none⟩ = some (.int .i64 (u : Int)) := by have := intC_cell (unhide OBB) rfl hjl; rw [unhide HU] at this; exact this
            clear hcu hgr BC
            go_wp2_with fail
            refine hK.out _ _ hSB (fun hHeld => ?_)
            clear hK hHeld ST0 OB0 hS
            have hS := hSB
            clear hSB
            try simp only [Act.put, List.getElem_toArray, List.getElem_cons_zero, List.getElem_cons_succ, List.setIfInBounds_toArray, List.set_cons_zero, List.set_cons_succ]
            rw [← unhide HJ]
            clear HJ
            refine wpAnyH_take (i := 6) (v := .pointer (some ⟨gA2, jj, none⟩)) rfl (by kernel_rfl) (by kernel_rfl) (by kernel_rfl) (fun _ _ _ h => h) (Or.inl ⟨by kernel_rfl, fun w hSw => by (try dsimp only at hSw); go_split_ands; go_simp⟩) (by assumption) ?_
            simp only [Act.put, List.getElem_toArray, List.getElem_cons_zero, List.getElem_cons_succ, List.setIfInBounds_toArray, List.set_cons_zero, List.set_cons_succ]
            refine wpAnyH_take (i := 7) (v := .int .i64 (u : Int)) rfl (by kernel_rfl) (by kernel_rfl) (by kernel_rfl) (fun _ _ _ h => h) (Or.inl ⟨by kernel_rfl, fun w hSw => by (try dsimp only at hSw); go_split_ands; go_simp⟩) (by assumption) ?_
            simp only [Act.put, List.getElem_toArray, List.getElem_cons_zero, List.getElem_cons_succ, List.setIfInBounds_toArray, List.set_cons_zero, List.set_cons_succ]
            refine wpAnyH_ready (rs := [0]) (by kernel_rfl) (by simp) ?_
            refine AllReadyH.cons (i := 0) rfl (fun K hK => ?_) AllReadyH.nil
            have hk := (unhide SB).bo
            unfold runC at hk
            dsimp only at hk
            have k0 := cellIn (i := 0) hk rfl
            have k1 := cellIn (i := 1) hk rfl
            have k2 := cellIn (i := 2) hk rfl
            have k3 := cellIn (i := 3) hk rfl
            have k4 := cellIn (i := 4) hk rfl
            have k5 := cellIn (i := 5) hk rfl
            have k6 := cellIn (i := 6) hk rfl
            have k7 := cellIn (i := 7) hk rfl
            clear hk
            go_simp
            refine hK.out _ _ hS (fun hHeld => ?_)
            clear hK hHeld k0 k1 k2 k3 k4 k5 k6 k7
            try simp only [Act.put, List.getElem_toArray, List.getElem_cons_zero, List.getElem_cons_succ, List.setIfInBounds_toArray, List.set_cons_zero, List.set_cons_succ]
            refine wpAnyH_ready (rs := [9]) (by kernel_rfl) (by simp) ?_
            refine AllReadyH.cons (i := 9) rfl (fun K hK => ?_) AllReadyH.nil
            go_simp
            refine (unhide (CF _ (unhide SB).ow.edges (unhide SB).ow.tasks)).mono ?_
            rintro e w7 ⟨ge, ce, gt, ct, rfl, ow7, hb7⟩
            have S7 := hide (ls_below (unhide SB) hb7)
            have hS7 := cell_later hb7 hS
            have OW7 := hide (runOwn_base ow7 (show w.heap.size + 1 ≤ V1.heap.size by have h1 := (Array.getElem?_eq_some_iff.1 (unhide SB).res).1; omega))
            have OB7 := hide (ownsRow_below (unhide OBB) hb7)
            clear SB OBB hS ow7 hb7
            go_wp2_with fail
            refine hK.out _ _ hS7 (fun hHeld => ?_)
            clear hK hHeld
            try simp only [Act.put, List.getElem_toArray, List.getElem_cons_zero, List.getElem_cons_succ, List.setIfInBounds_toArray, List.set_cons_zero, List.set_cons_succ]
            refine wpAnyH_ready (rs := [10]) (by kernel_rfl) (by simp) ?_
            refine AllReadyH.cons (i := 10) rfl (fun K hK => ?_) AllReadyH.nil
            have hbo := (unhide S7).bo
            unfold runC at hbo
            dsimp only at hbo
            obtain ⟨hb8, G8⟩ := setMany_is [(0, .int .i64 yi), (1, .int .i64 y1), (2, .int .i64 y2), (3, .int .i64 y3), (4, .int .i64 y4), (5, .slice (some ⟨ge, 0, none⟩) es.length ce), (6, .int .i64 ys), (7, .slice (some ⟨gt, 0, none⟩) ts.length ct)] w7 _ hbo
            have hb8' : (setMany w7 o [(0, .int .i64 yi), (1, .int .i64 y1), (2, .int .i64 y2), (3, .int .i64 y3), (4, .int .i64 y4), (5, .slice (some ⟨ge, 0, none⟩) es.length ce), (6, .int .i64 ys), (7, .slice (some ⟨gt, 0, none⟩) ts.length ct)]).heap[o]? = some (.cells (runC ⟨yi, ⟨y1, y2, y3, y4, ye⟩, ys, yt⟩ (.slice (some ⟨ge, 0, none⟩) es.length ce) (.slice (some ⟨gt, 0, none⟩) ts.length ct)) 29 (0, 0)) := by rw [hb8, put8]; rfl
            have S8 := hide (ls_put (unhide S7) G8 hb8' (unhide OW7))
            have hS8 : (setMany w7 o [(0, .int .i64 yi), (1, .int .i64 y1), (2, .int .i64 y2), (3, .int .i64 y3), (4, .int .i64 y4), (5, .slice (some ⟨ge, 0, none⟩) es.length ce), (6, .int .i64 ys), (7, .slice (some ⟨gt, 0, none⟩) ts.length ct)]).cell? ⟨gA2, jj, none⟩ = some (.int .i64 (u : Int)) := cell_but hS7 G8 (fun e => by
              have h1 := (unhide OB7).2
              rcases h1 with ⟨q, _⟩ | ⟨g1, cap1, cur1, k1, _, hh1, _⟩
              · simp at q
              · simp only [Value.slice.injEq, Option.some.injEq, Addr.mk.injEq, and_true, true_and] at k1
                rw [← k1.1, e, hbo] at hh1
                simp at hh1)
            obtain ⟨w8, hw8⟩ : ∃ w8, w8 = setMany w7 o [(0, .int .i64 yi), (1, .int .i64 y1), (2, .int .i64 y2), (3, .int .i64 y3), (4, .int .i64 y4), (5, .slice (some ⟨ge, 0, none⟩) es.length ce), (6, .int .i64 ys), (7, .slice (some ⟨gt, 0, none⟩) ts.length ct)] := ⟨_, rfl⟩
            have eW : ((((((((w7).setCell ⟨o, 0, none⟩ (.int .i64 yi)).setCell ⟨o, 1, none⟩ (.int .i64 y1)).setCell ⟨o, 2, none⟩ (.int .i64 y2)).setCell ⟨o, 3, none⟩ (.int .i64 y3)).setCell ⟨o, 4, none⟩ (.int .i64 y4)).setCell ⟨o, 5, none⟩ (.slice (some ⟨ge, 0, none⟩) es.length ce)).setCell ⟨o, 6, none⟩ (.int .i64 ys)).setCell ⟨o, 7, none⟩ (.slice (some ⟨gt, 0, none⟩) ts.length ct) = w8 := by rw [hw8]; simp only [setMany]
            rw [← hw8] at S8 hS8
            have EW := hide eW
            have z0 := cellIn (i := 0) hbo rfl
            have x0 := softIn (i := 0) hbo
            have z1 := cellIn (i := 1) hbo rfl
            have x1 := softIn (i := 1) hbo
            have z2 := cellIn (i := 2) hbo rfl
            have x2 := softIn (i := 2) hbo
            have z3 := cellIn (i := 3) hbo rfl
            have x3 := softIn (i := 3) hbo
            have z4 := cellIn (i := 4) hbo rfl
            have x4 := softIn (i := 4) hbo
            have z5 := cellIn (i := 5) hbo rfl
            have x5 := softIn (i := 5) hbo
            have z6 := cellIn (i := 6) hbo rfl
            have x6 := softIn (i := 6) hbo
            have z7 := cellIn (i := 7) hbo rfl
            have x7 := softIn (i := 7) hbo
            clear eW hw8 hb8 G8 hb8' hbo OW7 OB7 S7
            go_simp
            rw [unhide EW]
            refine hK.out _ _ hS8 (fun hHeld => ?_)
            clear hK hHeld hS8 hS7 EW z0 x0 z1 x1 z2 x2 z3 x3 z4 x4 z5 x5 z6 x6 z7 x7
            try simp only [Act.put, List.getElem_toArray, List.getElem_cons_zero, List.getElem_cons_succ, List.setIfInBounds_toArray, List.set_cons_zero, List.set_cons_succ]
            refine wpAnyH_done (by kernel_rfl) ?_ _
            go_wp2
            go_roundw
            case rel => exact ⟨i + 1, _, ⟨yi, ⟨y1, y2, y3, y4, ye⟩, ys, yt⟩, _, _, by omega, by go_num, WN, PN, TN, S8, GN⟩
            case measure => simp [intOf]; omega
      · have d3 : ¬ A3 = [] := fun e => h3 (by rw [e]; rfl)
        have H3 := hide h3
        have OC := hide (once_is B g 2 s2 v3 (unhide S3).cur (by omega) (by omega))
        go_wp2_with fail
        refine (unhide OC).mono ?_
        rintro e v4 ⟨rfl, hc4, hg4⟩
        have S4 := hide (ls_cur (unhide S3) hc4 hg4)
        have OB2 := hide (row_cur (unhide OA2) hg4 (unhide HBA2))
        have OB3 := hide (row_cur (unhide OA3) hg4 (unhide HBA3))
        clear OC hc4 hg4 S3 OA2 OA3
        cases hz2 : (s2.below 2 == 0) with
        | true =>
          have HZ2 := hide hz2
          clear hz2
          obtain ⟨jj, hjj⟩ : ∃ jj, jj = s2.step.below A3.length := ⟨_, rfl⟩
          have hjl : jj < A3.length := by rw [hjj]; exact below_lt _ _ (by omega)
          obtain ⟨r2, hr2⟩ : ∃ r2, r2 = doneR ⟨id, ⟨p1, p2, p3, p4, es⟩, st, ts⟩ (pickL A3 jj) := ⟨_, rfl⟩
          have STEP : rnStep s2 i ⟨id, ⟨p1, p2, p3, p4, es⟩, st, ts⟩ = (r2, s2.step.step) := by rw [hr2, hjj]; exact by rw [unhide STEPS, if_neg (unhide H3), if_pos (unhide HZ2)]
          have GN := hide (unhide HG2)
          rw [STEP] at GN
          have WN0 := unhide WN2
          rw [STEP] at WN0
          obtain ⟨pk1, pk2, pk3⟩ := pickAt3 (unhide HDA3) hjl
          obtain ⟨u, hu⟩ : ∃ u, u = pickL A3 jj := ⟨_, rfl⟩
          rw [← hu] at pk1 pk2 pk3 hr2
          have HU : Hid (A3[jj] = (u : Int)) := hide (by rw [← pk1, List.getD_eq_getElem?_getD, List.getElem?_eq_getElem hjl]; rfl)
          have hul : u < ts.length := pk2
          have HD : DoneIs ⟨id, ⟨p1, p2, p3, p4, es⟩, st, ts⟩ (u : Int) r2 := ⟨fun _ => by rw [hr2, Int.toNat_natCast], fun h => absurd (runs_of (unhide WL).ok pk2 pk3) h⟩
          have CF := fun (W : World) (h1 : W.ownsRow (w.heap.size + 1) 96 2 (.slice qe es.length me) es.length (edgesC es)) (h2 : W.ownsRow (w.heap.size + 1) 40 4 (.slice qt ts.length mt) ts.length (quadsC ts)) => hide (specRunDone_any (.slice qe es.length me) (.slice qt ts.length mt) (w.heap.size + 1) (w.heap.size + 1) ⟨id, ⟨p1, p2, p3, p4, es⟩, st, ts⟩ r2 (u : Int) HD W h1 h2 (by dsimp only; omega) (by dsimp only; omega))
          obtain ⟨yi, ⟨y1, y2, y3, y4, ye⟩, ys, yt⟩ := r2
          dsimp only [runV, runC] at CF
          have WN := hide WN0.1
          have PN := hide (WN0.2.plan.trans (unhide PL))
          have TN := hide (WN0.2.len.trans (unhide TL))
          have e1 := intC_cell (unhide OB3) rfl hjl
          rw [unhide HU] at e1
          have ST0 := hide (ls_below (unhide S4) ((Below.refl v4.heap.size v4).drew))
          have OB0 := hide (ownsRow_below (unhide OB3) ((Below.refl v4.heap.size v4).drew))
          have hj0 : (0 : Int) ≤ (jj : Int) := Int.natCast_nonneg _
          have hj1 : (jj : Int) < (A3.length : Int) := by omega
          have HJ := hide hjj
          clear STEP WN0 pk1 pk2 pk3 hu WN2 HG2 hjj S4 OB3
          go_wp2_with fail
          refine wp_region_held_drew (S := fun w' => w'.cell? ⟨gA3, jj, none⟩ = some (.int .i64 (u : Int))) (by kernel_rfl) e1 (fun hS => ?_)
          refine wpAnyH_take (i := 1) (v := .slice (some ⟨gA3, 0, none⟩) A3.length cA3) rfl (by kernel_rfl) (by kernel_rfl) (by kernel_rfl) (fun _ _ _ h => h) (Or.inl ⟨by kernel_rfl, fun w hSw => by (try dsimp only at hSw); go_split_ands; go_simp⟩) (by assumption) ?_
          simp only [Act.put, List.getElem_toArray, List.getElem_cons_zero, List.getElem_cons_succ, List.setIfInBounds_toArray, List.set_cons_zero, List.set_cons_succ]
          refine wpAnyH_take (i := 2) (v := .pointer (some ⟨g, 0, none⟩)) rfl (by kernel_rfl) (by kernel_rfl) (by kernel_rfl) (fun _ _ _ h => h) (Or.inl ⟨by kernel_rfl, fun w hSw => by (try dsimp only at hSw); go_split_ands; go_simp⟩) (by assumption) ?_
          simp only [Act.put, List.getElem_toArray, List.getElem_cons_zero, List.getElem_cons_succ, List.setIfInBounds_toArray, List.set_cons_zero, List.set_cons_succ]
          refine wpAnyH_take (i := 3) (v := .slice (some ⟨gA3, 0, none⟩) A3.length cA3) rfl (by kernel_rfl) (by kernel_rfl) (by kernel_rfl) (fun _ _ _ h => h) (Or.inl ⟨by kernel_rfl, fun w hSw => by (try dsimp only at hSw); go_split_ands; go_simp⟩) (by assumption) ?_
          simp only [Act.put, List.getElem_toArray, List.getElem_cons_zero, List.getElem_cons_succ, List.setIfInBounds_toArray, List.set_cons_zero, List.set_cons_succ]
          refine wpAnyH_take (i := 4) (v := .int .i64 (A3.length : Int)) rfl (by kernel_rfl) (by kernel_rfl) (by kernel_rfl) (fun _ _ _ h => h) (Or.inl ⟨by kernel_rfl, fun w hSw => by (try dsimp only at hSw); go_split_ands; go_simp⟩) (by assumption) ?_
          simp only [Act.put, List.getElem_toArray, List.getElem_cons_zero, List.getElem_cons_succ, List.setIfInBounds_toArray, List.set_cons_zero, List.set_cons_succ]
          obtain ⟨V0, hV0⟩ : ∃ V0, V0 = v4.drew := ⟨_, rfl⟩
          rw [← hV0] at ST0 OB0 hS ⊢
          clear hV0 e1
          refine wpAnyH_ready (rs := [0, 5]) (by kernel_rfl) (by simp) ?_
          refine AllReadyH.cons (i := 0) rfl (fun K hK => ?_) (AllReadyH.cons (i := 5) rfl (fun K hK => ?_) AllReadyH.nil)
          · have hk := (unhide ST0).bo
            unfold runC at hk
            dsimp only at hk
            have k0 := cellIn (i := 0) hk rfl
            have k1 := cellIn (i := 1) hk rfl
            have k2 := cellIn (i := 2) hk rfl
            have k3 := cellIn (i := 3) hk rfl
            have k4 := cellIn (i := 4) hk rfl
            have k5 := cellIn (i := 5) hk rfl
            have k6 := cellIn (i := 6) hk rfl
            have k7 := cellIn (i := 7) hk rfl
            clear hk
            go_simp
            refine hK.out _ _ hS (fun hHeld => ?_)
            clear hK hHeld k0 k1 k2 k3 k4 k5 k6 k7
            try simp only [Act.put, List.getElem_toArray, List.getElem_cons_zero, List.getElem_cons_succ, List.setIfInBounds_toArray, List.set_cons_zero, List.set_cons_succ]
            refine wpAnyH_ready (rs := [5]) (by kernel_rfl) (by simp) ?_
            refine AllReadyH.cons (i := 5) rfl (fun K hK => ?_) AllReadyH.nil
            have BC := hide (below_is B g A3.length s2.step V0 (unhide ST0).cur (by omega) (by omega))
            go_simp
            refine (unhide BC).mono ?_
            rintro e V1 ⟨rfl, hcu, hgr⟩
            have SB := hide (ls_cur (unhide ST0) hcu hgr)
            have OBB := hide (row_cur (unhide OB0) hgr (by have := (unhide ST0).glt; have := unhide HBA3; omega))
            have hSB : V1.cell? ⟨gA3, jj, none⟩ = some (.int .i64 (u : Int)) := by have := intC_cell (unhide OBB) rfl hjl; rw [unhide HU] at this; exact this
            clear hcu hgr BC
            go_wp2_with fail
            refine hK.out _ _ hSB (fun hHeld => ?_)
            clear hK hHeld ST0 OB0 hS
            have hS := hSB
            clear hSB
            try simp only [Act.put, List.getElem_toArray, List.getElem_cons_zero, List.getElem_cons_succ, List.setIfInBounds_toArray, List.set_cons_zero, List.set_cons_succ]
            rw [← unhide HJ]
            clear HJ
            refine wpAnyH_take (i := 6) (v := .pointer (some ⟨gA3, jj, none⟩)) rfl (by kernel_rfl) (by kernel_rfl) (by kernel_rfl) (fun _ _ _ h => h) (Or.inl ⟨by kernel_rfl, fun w hSw => by (try dsimp only at hSw); go_split_ands; go_simp⟩) (by assumption) ?_
            simp only [Act.put, List.getElem_toArray, List.getElem_cons_zero, List.getElem_cons_succ, List.setIfInBounds_toArray, List.set_cons_zero, List.set_cons_succ]
            refine wpAnyH_take (i := 7) (v := .int .i64 (u : Int)) rfl (by kernel_rfl) (by kernel_rfl) (by kernel_rfl) (fun _ _ _ h => h) (Or.inl ⟨by kernel_rfl, fun w hSw => by (try dsimp only at hSw); go_split_ands; go_simp⟩) (by assumption) ?_
            simp only [Act.put, List.getElem_toArray, List.getElem_cons_zero, List.getElem_cons_succ, List.setIfInBounds_toArray, List.set_cons_zero, List.set_cons_succ]
            refine wpAnyH_ready (rs := [8]) (by kernel_rfl) (by simp) ?_
            refine AllReadyH.cons (i := 8) rfl (fun K hK => ?_) AllReadyH.nil
            go_simp
            refine (unhide (CF _ (unhide SB).ow.edges (unhide SB).ow.tasks)).mono ?_
            rintro e w7 ⟨ge, ce, gt, ct, rfl, ow7, hb7⟩
            have S7 := hide (ls_below (unhide SB) hb7)
            have hS7 := cell_later hb7 hS
            have OW7 := hide (runOwn_base ow7 (show w.heap.size + 1 ≤ V1.heap.size by have h1 := (Array.getElem?_eq_some_iff.1 (unhide SB).res).1; omega))
            have OB7 := hide (ownsRow_below (unhide OBB) hb7)
            clear SB OBB hS ow7 hb7
            go_wp2_with fail
            refine hK.out _ _ hS7 (fun hHeld => ?_)
            clear hK hHeld
            try simp only [Act.put, List.getElem_toArray, List.getElem_cons_zero, List.getElem_cons_succ, List.setIfInBounds_toArray, List.set_cons_zero, List.set_cons_succ]
            refine wpAnyH_ready (rs := [9]) (by kernel_rfl) (by simp) ?_
            refine AllReadyH.cons (i := 9) rfl (fun K hK => ?_) AllReadyH.nil
            have hbo := (unhide S7).bo
            unfold runC at hbo
            dsimp only at hbo
            obtain ⟨hb8, G8⟩ := setMany_is [(0, .int .i64 yi), (1, .int .i64 y1), (2, .int .i64 y2), (3, .int .i64 y3), (4, .int .i64 y4), (5, .slice (some ⟨ge, 0, none⟩) es.length ce), (6, .int .i64 ys), (7, .slice (some ⟨gt, 0, none⟩) ts.length ct)] w7 _ hbo
            have hb8' : (setMany w7 o [(0, .int .i64 yi), (1, .int .i64 y1), (2, .int .i64 y2), (3, .int .i64 y3), (4, .int .i64 y4), (5, .slice (some ⟨ge, 0, none⟩) es.length ce), (6, .int .i64 ys), (7, .slice (some ⟨gt, 0, none⟩) ts.length ct)]).heap[o]? = some (.cells (runC ⟨yi, ⟨y1, y2, y3, y4, ye⟩, ys, yt⟩ (.slice (some ⟨ge, 0, none⟩) es.length ce) (.slice (some ⟨gt, 0, none⟩) ts.length ct)) 29 (0, 0)) := by rw [hb8, put8]; rfl
            have S8 := hide (ls_put (unhide S7) G8 hb8' (unhide OW7))
            have hS8 : (setMany w7 o [(0, .int .i64 yi), (1, .int .i64 y1), (2, .int .i64 y2), (3, .int .i64 y3), (4, .int .i64 y4), (5, .slice (some ⟨ge, 0, none⟩) es.length ce), (6, .int .i64 ys), (7, .slice (some ⟨gt, 0, none⟩) ts.length ct)]).cell? ⟨gA3, jj, none⟩ = some (.int .i64 (u : Int)) := cell_but hS7 G8 (fun e => by
              have h1 := (unhide OB7).2
              rcases h1 with ⟨q, _⟩ | ⟨g1, cap1, cur1, k1, _, hh1, _⟩
              · simp at q
              · simp only [Value.slice.injEq, Option.some.injEq, Addr.mk.injEq, and_true, true_and] at k1
                rw [← k1.1, e, hbo] at hh1
                simp at hh1)
            obtain ⟨w8, hw8⟩ : ∃ w8, w8 = setMany w7 o [(0, .int .i64 yi), (1, .int .i64 y1), (2, .int .i64 y2), (3, .int .i64 y3), (4, .int .i64 y4), (5, .slice (some ⟨ge, 0, none⟩) es.length ce), (6, .int .i64 ys), (7, .slice (some ⟨gt, 0, none⟩) ts.length ct)] := ⟨_, rfl⟩
            have eW : ((((((((w7).setCell ⟨o, 0, none⟩ (.int .i64 yi)).setCell ⟨o, 1, none⟩ (.int .i64 y1)).setCell ⟨o, 2, none⟩ (.int .i64 y2)).setCell ⟨o, 3, none⟩ (.int .i64 y3)).setCell ⟨o, 4, none⟩ (.int .i64 y4)).setCell ⟨o, 5, none⟩ (.slice (some ⟨ge, 0, none⟩) es.length ce)).setCell ⟨o, 6, none⟩ (.int .i64 ys)).setCell ⟨o, 7, none⟩ (.slice (some ⟨gt, 0, none⟩) ts.length ct) = w8 := by rw [hw8]; simp only [setMany]
            rw [← hw8] at S8 hS8
            have EW := hide eW
            have z0 := cellIn (i := 0) hbo rfl
            have x0 := softIn (i := 0) hbo
            have z1 := cellIn (i := 1) hbo rfl
            have x1 := softIn (i := 1) hbo
            have z2 := cellIn (i := 2) hbo rfl
            have x2 := softIn (i := 2) hbo
            have z3 := cellIn (i := 3) hbo rfl
            have x3 := softIn (i := 3) hbo
            have z4 := cellIn (i := 4) hbo rfl
            have x4 := softIn (i := 4) hbo
            have z5 := cellIn (i := 5) hbo rfl
            have x5 := softIn (i := 5) hbo
            have z6 := cellIn (i := 6) hbo rfl
            have x6 := softIn (i := 6) hbo
            have z7 := cellIn (i := 7) hbo rfl
            have x7 := softIn (i := 7) hbo
            clear eW hw8 hb8 G8 hb8' hbo OW7 OB7 S7
            go_simp
            rw [unhide EW]
            refine hK.out _ _ hS8 (fun hHeld => ?_)
            clear hK hHeld hS8 hS7 EW z0 x0 z1 x1 z2 x2 z3 x3 z4 x4 z5 x5 z6 x6 z7 x7
            try simp only [Act.put, List.getElem_toArray, List.getElem_cons_zero, List.getElem_cons_succ, List.setIfInBounds_toArray, List.set_cons_zero, List.set_cons_succ]
            refine wpAnyH_done (by kernel_rfl) ?_ _
            go_wp2
            go_roundw
            case rel => exact ⟨i + 1, _, ⟨yi, ⟨y1, y2, y3, y4, ye⟩, ys, yt⟩, _, _, by omega, by go_num, WN, PN, TN, S8, GN⟩
            case measure => simp [intOf]; omega
          · have BC := hide (below_is B g A3.length s2.step V0 (unhide ST0).cur (by omega) (by omega))
            go_simp
            refine (unhide BC).mono ?_
            rintro e V1 ⟨rfl, hcu, hgr⟩
            have SB := hide (ls_cur (unhide ST0) hcu hgr)
            have OBB := hide (row_cur (unhide OB0) hgr (by have := (unhide ST0).glt; have := unhide HBA3; omega))
            have hSB : V1.cell? ⟨gA3, jj, none⟩ = some (.int .i64 (u : Int)) := by have := intC_cell (unhide OBB) rfl hjl; rw [unhide HU] at this; exact this
            clear hcu hgr BC
            go_wp2_with fail
            refine hK.out _ _ hSB (fun hHeld => ?_)
            clear hK hHeld ST0 OB0 hS
            have hS := hSB
            clear hSB
            try simp only [Act.put, List.getElem_toArray, List.getElem_cons_zero, List.getElem_cons_succ, List.setIfInBounds_toArray, List.set_cons_zero, List.set_cons_succ]
            rw [← unhide HJ]
            clear HJ
            refine wpAnyH_take (i := 6) (v := .pointer (some ⟨gA3, jj, none⟩)) rfl (by kernel_rfl) (by kernel_rfl) (by kernel_rfl) (fun _ _ _ h => h) (Or.inl ⟨by kernel_rfl, fun w hSw => by (try dsimp only at hSw); go_split_ands; go_simp⟩) (by assumption) ?_
            simp only [Act.put, List.getElem_toArray, List.getElem_cons_zero, List.getElem_cons_succ, List.setIfInBounds_toArray, List.set_cons_zero, List.set_cons_succ]
            refine wpAnyH_take (i := 7) (v := .int .i64 (u : Int)) rfl (by kernel_rfl) (by kernel_rfl) (by kernel_rfl) (fun _ _ _ h => h) (Or.inl ⟨by kernel_rfl, fun w hSw => by (try dsimp only at hSw); go_split_ands; go_simp⟩) (by assumption) ?_
            simp only [Act.put, List.getElem_toArray, List.getElem_cons_zero, List.getElem_cons_succ, List.setIfInBounds_toArray, List.set_cons_zero, List.set_cons_succ]
            refine wpAnyH_ready (rs := [0]) (by kernel_rfl) (by simp) ?_
            refine AllReadyH.cons (i := 0) rfl (fun K hK => ?_) AllReadyH.nil
            have hk := (unhide SB).bo
            unfold runC at hk
            dsimp only at hk
            have k0 := cellIn (i := 0) hk rfl
            have k1 := cellIn (i := 1) hk rfl
            have k2 := cellIn (i := 2) hk rfl
            have k3 := cellIn (i := 3) hk rfl
            have k4 := cellIn (i := 4) hk rfl
            have k5 := cellIn (i := 5) hk rfl
            have k6 := cellIn (i := 6) hk rfl
            have k7 := cellIn (i := 7) hk rfl
            clear hk
            go_simp
            refine hK.out _ _ hS (fun hHeld => ?_)
            clear hK hHeld k0 k1 k2 k3 k4 k5 k6 k7
            try simp only [Act.put, List.getElem_toArray, List.getElem_cons_zero, List.getElem_cons_succ, List.setIfInBounds_toArray, List.set_cons_zero, List.set_cons_succ]
            refine wpAnyH_ready (rs := [8]) (by kernel_rfl) (by simp) ?_
            refine AllReadyH.cons (i := 8) rfl (fun K hK => ?_) AllReadyH.nil
            go_simp
            refine (unhide (CF _ (unhide SB).ow.edges (unhide SB).ow.tasks)).mono ?_
            rintro e w7 ⟨ge, ce, gt, ct, rfl, ow7, hb7⟩
            have S7 := hide (ls_below (unhide SB) hb7)
            have hS7 := cell_later hb7 hS
            have OW7 := hide (runOwn_base ow7 (show w.heap.size + 1 ≤ V1.heap.size by have h1 := (Array.getElem?_eq_some_iff.1 (unhide SB).res).1; omega))
            have OB7 := hide (ownsRow_below (unhide OBB) hb7)
            clear SB OBB hS ow7 hb7
            go_wp2_with fail
            refine hK.out _ _ hS7 (fun hHeld => ?_)
            clear hK hHeld
            try simp only [Act.put, List.getElem_toArray, List.getElem_cons_zero, List.getElem_cons_succ, List.setIfInBounds_toArray, List.set_cons_zero, List.set_cons_succ]
            refine wpAnyH_ready (rs := [9]) (by kernel_rfl) (by simp) ?_
            refine AllReadyH.cons (i := 9) rfl (fun K hK => ?_) AllReadyH.nil
            have hbo := (unhide S7).bo
            unfold runC at hbo
            dsimp only at hbo
            obtain ⟨hb8, G8⟩ := setMany_is [(0, .int .i64 yi), (1, .int .i64 y1), (2, .int .i64 y2), (3, .int .i64 y3), (4, .int .i64 y4), (5, .slice (some ⟨ge, 0, none⟩) es.length ce), (6, .int .i64 ys), (7, .slice (some ⟨gt, 0, none⟩) ts.length ct)] w7 _ hbo
            have hb8' : (setMany w7 o [(0, .int .i64 yi), (1, .int .i64 y1), (2, .int .i64 y2), (3, .int .i64 y3), (4, .int .i64 y4), (5, .slice (some ⟨ge, 0, none⟩) es.length ce), (6, .int .i64 ys), (7, .slice (some ⟨gt, 0, none⟩) ts.length ct)]).heap[o]? = some (.cells (runC ⟨yi, ⟨y1, y2, y3, y4, ye⟩, ys, yt⟩ (.slice (some ⟨ge, 0, none⟩) es.length ce) (.slice (some ⟨gt, 0, none⟩) ts.length ct)) 29 (0, 0)) := by rw [hb8, put8]; rfl
            have S8 := hide (ls_put (unhide S7) G8 hb8' (unhide OW7))
            have hS8 : (setMany w7 o [(0, .int .i64 yi), (1, .int .i64 y1), (2, .int .i64 y2), (3, .int .i64 y3), (4, .int .i64 y4), (5, .slice (some ⟨ge, 0, none⟩) es.length ce), (6, .int .i64 ys), (7, .slice (some ⟨gt, 0, none⟩) ts.length ct)]).cell? ⟨gA3, jj, none⟩ = some (.int .i64 (u : Int)) := cell_but hS7 G8 (fun e => by
              have h1 := (unhide OB7).2
              rcases h1 with ⟨q, _⟩ | ⟨g1, cap1, cur1, k1, _, hh1, _⟩
              · simp at q
              · simp only [Value.slice.injEq, Option.some.injEq, Addr.mk.injEq, and_true, true_and] at k1
                rw [← k1.1, e, hbo] at hh1
                simp at hh1)
            obtain ⟨w8, hw8⟩ : ∃ w8, w8 = setMany w7 o [(0, .int .i64 yi), (1, .int .i64 y1), (2, .int .i64 y2), (3, .int .i64 y3), (4, .int .i64 y4), (5, .slice (some ⟨ge, 0, none⟩) es.length ce), (6, .int .i64 ys), (7, .slice (some ⟨gt, 0, none⟩) ts.length ct)] := ⟨_, rfl⟩
            have eW : ((((((((w7).setCell ⟨o, 0, none⟩ (.int .i64 yi)).setCell ⟨o, 1, none⟩ (.int .i64 y1)).setCell ⟨o, 2, none⟩ (.int .i64 y2)).setCell ⟨o, 3, none⟩ (.int .i64 y3)).setCell ⟨o, 4, none⟩ (.int .i64 y4)).setCell ⟨o, 5, none⟩ (.slice (some ⟨ge, 0, none⟩) es.length ce)).setCell ⟨o, 6, none⟩ (.int .i64 ys)).setCell ⟨o, 7, none⟩ (.slice (some ⟨gt, 0, none⟩) ts.length ct) = w8 := by rw [hw8]; simp only [setMany]
            rw [← hw8] at S8 hS8
            have EW := hide eW
            have z0 := cellIn (i := 0) hbo rfl
            have x0 := softIn (i := 0) hbo
            have z1 := cellIn (i := 1) hbo rfl
            have x1 := softIn (i := 1) hbo
            have z2 := cellIn (i := 2) hbo rfl
            have x2 := softIn (i := 2) hbo
            have z3 := cellIn (i := 3) hbo rfl
            have x3 := softIn (i := 3) hbo
            have z4 := cellIn (i := 4) hbo rfl
            have x4 := softIn (i := 4) hbo
            have z5 := cellIn (i := 5) hbo rfl
            have x5 := softIn (i := 5) hbo
            have z6 := cellIn (i := 6) hbo rfl
            have x6 := softIn (i := 6) hbo
            have z7 := cellIn (i := 7) hbo rfl
            have x7 := softIn (i := 7) hbo
            clear eW hw8 hb8 G8 hb8' hbo OW7 OB7 S7
            go_simp
            rw [unhide EW]
            refine hK.out _ _ hS8 (fun hHeld => ?_)
            clear hK hHeld hS8 hS7 EW z0 x0 z1 x1 z2 x2 z3 x3 z4 x4 z5 x5 z6 x6 z7 x7
            try simp only [Act.put, List.getElem_toArray, List.getElem_cons_zero, List.getElem_cons_succ, List.setIfInBounds_toArray, List.set_cons_zero, List.set_cons_succ]
            refine wpAnyH_done (by kernel_rfl) ?_ _
            go_wp2
            go_roundw
            case rel => exact ⟨i + 1, _, ⟨yi, ⟨y1, y2, y3, y4, ye⟩, ys, yt⟩, _, _, by omega, by go_num, WN, PN, TN, S8, GN⟩
            case measure => simp [intOf]; omega
        | false =>
          have HZ2 := hide hz2
          clear hz2
          have OC := hide (once_is B g 4 s2.step v4 (unhide S4).cur (by omega) (by omega))
          go_wp2_with fail
          refine (unhide OC).mono ?_
          rintro e v5 ⟨rfl, hc5, hg5⟩
          have S5 := hide (ls_cur (unhide S4) hc5 hg5)
          have OC2 := hide (row_cur (unhide OB2) hg5 (unhide HBA2))
          have OC3 := hide (row_cur (unhide OB3) hg5 (unhide HBA3))
          clear OC hc5 hg5 S4 OB2 OB3
          cases hz4 : (s2.step.below 4 == 0) with
          | true =>
            have HZ4 := hide hz4
            clear hz4
            obtain ⟨jj, hjj⟩ : ∃ jj, jj = s2.step.step.below A3.length := ⟨_, rfl⟩
            have hjl : jj < A3.length := by rw [hjj]; exact below_lt _ _ (by omega)
            obtain ⟨r2, hr2⟩ : ∃ r2, r2 = failR ⟨id, ⟨p1, p2, p3, p4, es⟩, st, ts⟩ (pickL A3 jj) := ⟨_, rfl⟩
            have STEP : rnStep s2 i ⟨id, ⟨p1, p2, p3, p4, es⟩, st, ts⟩ = (r2, s2.step.step.step) := by rw [hr2, hjj]; exact by rw [unhide STEPS, if_neg (unhide H3), if_neg (by rw [unhide HZ2]; decide), if_pos (unhide HZ4)]
            have GN := hide (unhide HG2)
            rw [STEP] at GN
            have WN0 := unhide WN2
            rw [STEP] at WN0
            obtain ⟨pk1, pk2, pk3⟩ := pickAt3 (unhide HDA3) hjl
            obtain ⟨u, hu⟩ : ∃ u, u = pickL A3 jj := ⟨_, rfl⟩
            rw [← hu] at pk1 pk2 pk3 hr2
            have HU : Hid (A3[jj] = (u : Int)) := hide (by rw [← pk1, List.getD_eq_getElem?_getD, List.getElem?_eq_getElem hjl]; rfl)
            have hul : u < ts.length := pk2
            have HD : FailIs ⟨id, ⟨p1, p2, p3, p4, es⟩, st, ts⟩ (u : Int) r2 := ⟨fun _ => by rw [hr2, Int.toNat_natCast], fun h => absurd (runs_of (unhide WL).ok pk2 pk3) h⟩
            have CF := fun (W : World) (h1 : W.ownsRow (w.heap.size + 1) 96 2 (.slice qe es.length me) es.length (edgesC es)) (h2 : W.ownsRow (w.heap.size + 1) 40 4 (.slice qt ts.length mt) ts.length (quadsC ts)) => hide (specRunFails_any (.slice qe es.length me) (.slice qt ts.length mt) (w.heap.size + 1) (w.heap.size + 1) ⟨id, ⟨p1, p2, p3, p4, es⟩, st, ts⟩ r2 (u : Int) HD W h1 h2 (by dsimp only; omega) (by dsimp only; omega))
            obtain ⟨yi, ⟨y1, y2, y3, y4, ye⟩, ys, yt⟩ := r2
            dsimp only [runV, runC] at CF
            have WN := hide WN0.1
            have PN := hide (WN0.2.plan.trans (unhide PL))
            have TN := hide (WN0.2.len.trans (unhide TL))
            have e1 := intC_cell (unhide OC3) rfl hjl
            rw [unhide HU] at e1
            have ST0 := hide (ls_below (unhide S5) ((Below.refl v5.heap.size v5).drew))
            have OB0 := hide (ownsRow_below (unhide OC3) ((Below.refl v5.heap.size v5).drew))
            have hj0 : (0 : Int) ≤ (jj : Int) := Int.natCast_nonneg _
            have hj1 : (jj : Int) < (A3.length : Int) := by omega
            have HJ := hide hjj
            clear STEP WN0 pk1 pk2 pk3 hu WN2 HG2 hjj S5 OC3
            go_wp2_with fail
            refine wp_region_held_drew (S := fun w' => w'.cell? ⟨gA3, jj, none⟩ = some (.int .i64 (u : Int))) (by kernel_rfl) e1 (fun hS => ?_)
            refine wpAnyH_take (i := 1) (v := .slice (some ⟨gA3, 0, none⟩) A3.length cA3) rfl (by kernel_rfl) (by kernel_rfl) (by kernel_rfl) (fun _ _ _ h => h) (Or.inl ⟨by kernel_rfl, fun w hSw => by (try dsimp only at hSw); go_split_ands; go_simp⟩) (by assumption) ?_
            simp only [Act.put, List.getElem_toArray, List.getElem_cons_zero, List.getElem_cons_succ, List.setIfInBounds_toArray, List.set_cons_zero, List.set_cons_succ]
            refine wpAnyH_take (i := 2) (v := .pointer (some ⟨g, 0, none⟩)) rfl (by kernel_rfl) (by kernel_rfl) (by kernel_rfl) (fun _ _ _ h => h) (Or.inl ⟨by kernel_rfl, fun w hSw => by (try dsimp only at hSw); go_split_ands; go_simp⟩) (by assumption) ?_
            simp only [Act.put, List.getElem_toArray, List.getElem_cons_zero, List.getElem_cons_succ, List.setIfInBounds_toArray, List.set_cons_zero, List.set_cons_succ]
            refine wpAnyH_take (i := 3) (v := .slice (some ⟨gA3, 0, none⟩) A3.length cA3) rfl (by kernel_rfl) (by kernel_rfl) (by kernel_rfl) (fun _ _ _ h => h) (Or.inl ⟨by kernel_rfl, fun w hSw => by (try dsimp only at hSw); go_split_ands; go_simp⟩) (by assumption) ?_
            simp only [Act.put, List.getElem_toArray, List.getElem_cons_zero, List.getElem_cons_succ, List.setIfInBounds_toArray, List.set_cons_zero, List.set_cons_succ]
            refine wpAnyH_take (i := 4) (v := .int .i64 (A3.length : Int)) rfl (by kernel_rfl) (by kernel_rfl) (by kernel_rfl) (fun _ _ _ h => h) (Or.inl ⟨by kernel_rfl, fun w hSw => by (try dsimp only at hSw); go_split_ands; go_simp⟩) (by assumption) ?_
            simp only [Act.put, List.getElem_toArray, List.getElem_cons_zero, List.getElem_cons_succ, List.setIfInBounds_toArray, List.set_cons_zero, List.set_cons_succ]
            obtain ⟨V0, hV0⟩ : ∃ V0, V0 = v5.drew := ⟨_, rfl⟩
            rw [← hV0] at ST0 OB0 hS ⊢
            clear hV0 e1
            refine wpAnyH_ready (rs := [0, 5]) (by kernel_rfl) (by simp) ?_
            refine AllReadyH.cons (i := 0) rfl (fun K hK => ?_) (AllReadyH.cons (i := 5) rfl (fun K hK => ?_) AllReadyH.nil)
            · have hk := (unhide ST0).bo
              unfold runC at hk
              dsimp only at hk
              have k0 := cellIn (i := 0) hk rfl
              have k1 := cellIn (i := 1) hk rfl
              have k2 := cellIn (i := 2) hk rfl
              have k3 := cellIn (i := 3) hk rfl
              have k4 := cellIn (i := 4) hk rfl
              have k5 := cellIn (i := 5) hk rfl
              have k6 := cellIn (i := 6) hk rfl
              have k7 := cellIn (i := 7) hk rfl
              clear hk
              go_simp
              refine hK.out _ _ hS (fun hHeld => ?_)
              clear hK hHeld k0 k1 k2 k3 k4 k5 k6 k7
              try simp only [Act.put, List.getElem_toArray, List.getElem_cons_zero, List.getElem_cons_succ, List.setIfInBounds_toArray, List.set_cons_zero, List.set_cons_succ]
              refine wpAnyH_ready (rs := [5]) (by kernel_rfl) (by simp) ?_
              refine AllReadyH.cons (i := 5) rfl (fun K hK => ?_) AllReadyH.nil
              have BC := hide (below_is B g A3.length s2.step.step V0 (unhide ST0).cur (by omega) (by omega))
              go_simp
              refine (unhide BC).mono ?_
              rintro e V1 ⟨rfl, hcu, hgr⟩
              have SB := hide (ls_cur (unhide ST0) hcu hgr)
              have OBB := hide (row_cur (unhide OB0) hgr (by have := (unhide ST0).glt; have := unhide HBA3; omega))
              have hSB : V1.cell? ⟨gA3, jj, none⟩ = some (.int .i64 (u : Int)) := by have := intC_cell (unhide OBB) rfl hjl; rw [unhide HU] at this; exact this
              clear hcu hgr BC
              go_wp2_with fail
              refine hK.out _ _ hSB (fun hHeld => ?_)
              clear hK hHeld ST0 OB0 hS
              have hS := hSB
              clear hSB
              try simp only [Act.put, List.getElem_toArray, List.getElem_cons_zero, List.getElem_cons_succ, List.setIfInBounds_toArray, List.set_cons_zero, List.set_cons_succ]
              rw [← unhide HJ]
              clear HJ
              refine wpAnyH_take (i := 6) (v := .pointer (some ⟨gA3, jj, none⟩)) rfl (by kernel_rfl) (by kernel_rfl) (by kernel_rfl) (fun _ _ _ h => h) (Or.inl ⟨by kernel_rfl, fun w hSw => by (try dsimp only at hSw); go_split_ands; go_simp⟩) (by assumption) ?_
              simp only [Act.put, List.getElem_toArray, List.getElem_cons_zero, List.getElem_cons_succ, List.setIfInBounds_toArray, List.set_cons_zero, List.set_cons_succ]
              refine wpAnyH_take (i := 7) (v := .int .i64 (u : Int)) rfl (by kernel_rfl) (by kernel_rfl) (by kernel_rfl) (fun _ _ _ h => h) (Or.inl ⟨by kernel_rfl, fun w hSw => by (try dsimp only at hSw); go_split_ands; go_simp⟩) (by assumption) ?_
              simp only [Act.put, List.getElem_toArray, List.getElem_cons_zero, List.getElem_cons_succ, List.setIfInBounds_toArray, List.set_cons_zero, List.set_cons_succ]
              refine wpAnyH_ready (rs := [8]) (by kernel_rfl) (by simp) ?_
              refine AllReadyH.cons (i := 8) rfl (fun K hK => ?_) AllReadyH.nil
              go_simp
              refine (unhide (CF _ (unhide SB).ow.edges (unhide SB).ow.tasks)).mono ?_
              rintro e w7 ⟨ge, ce, gt, ct, rfl, ow7, hb7⟩
              have S7 := hide (ls_below (unhide SB) hb7)
              have hS7 := cell_later hb7 hS
              have OW7 := hide (runOwn_base ow7 (show w.heap.size + 1 ≤ V1.heap.size by have h1 := (Array.getElem?_eq_some_iff.1 (unhide SB).res).1; omega))
              have OB7 := hide (ownsRow_below (unhide OBB) hb7)
              clear SB OBB hS ow7 hb7
              go_wp2_with fail
              refine hK.out _ _ hS7 (fun hHeld => ?_)
              clear hK hHeld
              try simp only [Act.put, List.getElem_toArray, List.getElem_cons_zero, List.getElem_cons_succ, List.setIfInBounds_toArray, List.set_cons_zero, List.set_cons_succ]
              refine wpAnyH_ready (rs := [9]) (by kernel_rfl) (by simp) ?_
              refine AllReadyH.cons (i := 9) rfl (fun K hK => ?_) AllReadyH.nil
              have hbo := (unhide S7).bo
              unfold runC at hbo
              dsimp only at hbo
              obtain ⟨hb8, G8⟩ := setMany_is [(0, .int .i64 yi), (1, .int .i64 y1), (2, .int .i64 y2), (3, .int .i64 y3), (4, .int .i64 y4), (5, .slice (some ⟨ge, 0, none⟩) es.length ce), (6, .int .i64 ys), (7, .slice (some ⟨gt, 0, none⟩) ts.length ct)] w7 _ hbo
              have hb8' : (setMany w7 o [(0, .int .i64 yi), (1, .int .i64 y1), (2, .int .i64 y2), (3, .int .i64 y3), (4, .int .i64 y4), (5, .slice (some ⟨ge, 0, none⟩) es.length ce), (6, .int .i64 ys), (7, .slice (some ⟨gt, 0, none⟩) ts.length ct)]).heap[o]? = some (.cells (runC ⟨yi, ⟨y1, y2, y3, y4, ye⟩, ys, yt⟩ (.slice (some ⟨ge, 0, none⟩) es.length ce) (.slice (some ⟨gt, 0, none⟩) ts.length ct)) 29 (0, 0)) := by rw [hb8, put8]; rfl
              have S8 := hide (ls_put (unhide S7) G8 hb8' (unhide OW7))
              have hS8 : (setMany w7 o [(0, .int .i64 yi), (1, .int .i64 y1), (2, .int .i64 y2), (3, .int .i64 y3), (4, .int .i64 y4), (5, .slice (some ⟨ge, 0, none⟩) es.length ce), (6, .int .i64 ys), (7, .slice (some ⟨gt, 0, none⟩) ts.length ct)]).cell? ⟨gA3, jj, none⟩ = some (.int .i64 (u : Int)) := cell_but hS7 G8 (fun e => by
                have h1 := (unhide OB7).2
                rcases h1 with ⟨q, _⟩ | ⟨g1, cap1, cur1, k1, _, hh1, _⟩
                · simp at q
                · simp only [Value.slice.injEq, Option.some.injEq, Addr.mk.injEq, and_true, true_and] at k1
                  rw [← k1.1, e, hbo] at hh1
                  simp at hh1)
              obtain ⟨w8, hw8⟩ : ∃ w8, w8 = setMany w7 o [(0, .int .i64 yi), (1, .int .i64 y1), (2, .int .i64 y2), (3, .int .i64 y3), (4, .int .i64 y4), (5, .slice (some ⟨ge, 0, none⟩) es.length ce), (6, .int .i64 ys), (7, .slice (some ⟨gt, 0, none⟩) ts.length ct)] := ⟨_, rfl⟩
              have eW : ((((((((w7).setCell ⟨o, 0, none⟩ (.int .i64 yi)).setCell ⟨o, 1, none⟩ (.int .i64 y1)).setCell ⟨o, 2, none⟩ (.int .i64 y2)).setCell ⟨o, 3, none⟩ (.int .i64 y3)).setCell ⟨o, 4, none⟩ (.int .i64 y4)).setCell ⟨o, 5, none⟩ (.slice (some ⟨ge, 0, none⟩) es.length ce)).setCell ⟨o, 6, none⟩ (.int .i64 ys)).setCell ⟨o, 7, none⟩ (.slice (some ⟨gt, 0, none⟩) ts.length ct) = w8 := by rw [hw8]; simp only [setMany]
              rw [← hw8] at S8 hS8
              have EW := hide eW
              have z0 := cellIn (i := 0) hbo rfl
              have x0 := softIn (i := 0) hbo
              have z1 := cellIn (i := 1) hbo rfl
              have x1 := softIn (i := 1) hbo
              have z2 := cellIn (i := 2) hbo rfl
              have x2 := softIn (i := 2) hbo
              have z3 := cellIn (i := 3) hbo rfl
              have x3 := softIn (i := 3) hbo
              have z4 := cellIn (i := 4) hbo rfl
              have x4 := softIn (i := 4) hbo
              have z5 := cellIn (i := 5) hbo rfl
              have x5 := softIn (i := 5) hbo
              have z6 := cellIn (i := 6) hbo rfl
              have x6 := softIn (i := 6) hbo
              have z7 := cellIn (i := 7) hbo rfl
              have x7 := softIn (i := 7) hbo
              clear eW hw8 hb8 G8 hb8' hbo OW7 OB7 S7
              go_simp
              rw [unhide EW]
              refine hK.out _ _ hS8 (fun hHeld => ?_)
              clear hK hHeld hS8 hS7 EW z0 x0 z1 x1 z2 x2 z3 x3 z4 x4 z5 x5 z6 x6 z7 x7
              try simp only [Act.put, List.getElem_toArray, List.getElem_cons_zero, List.getElem_cons_succ, List.setIfInBounds_toArray, List.set_cons_zero, List.set_cons_succ]
              refine wpAnyH_done (by kernel_rfl) ?_ _
              go_wp2
              go_roundw
              case rel => exact ⟨i + 1, _, ⟨yi, ⟨y1, y2, y3, y4, ye⟩, ys, yt⟩, _, _, by omega, by go_num, WN, PN, TN, S8, GN⟩
              case measure => simp [intOf]; omega
            · have BC := hide (below_is B g A3.length s2.step.step V0 (unhide ST0).cur (by omega) (by omega))
              go_simp
              refine (unhide BC).mono ?_
              rintro e V1 ⟨rfl, hcu, hgr⟩
              have SB := hide (ls_cur (unhide ST0) hcu hgr)
              have OBB := hide (row_cur (unhide OB0) hgr (by have := (unhide ST0).glt; have := unhide HBA3; omega))
              have hSB : V1.cell? ⟨gA3, jj, none⟩ = some (.int .i64 (u : Int)) := by have := intC_cell (unhide OBB) rfl hjl; rw [unhide HU] at this; exact this
              clear hcu hgr BC
              go_wp2_with fail
              refine hK.out _ _ hSB (fun hHeld => ?_)
              clear hK hHeld ST0 OB0 hS
              have hS := hSB
              clear hSB
              try simp only [Act.put, List.getElem_toArray, List.getElem_cons_zero, List.getElem_cons_succ, List.setIfInBounds_toArray, List.set_cons_zero, List.set_cons_succ]
              rw [← unhide HJ]
              clear HJ
              refine wpAnyH_take (i := 6) (v := .pointer (some ⟨gA3, jj, none⟩)) rfl (by kernel_rfl) (by kernel_rfl) (by kernel_rfl) (fun _ _ _ h => h) (Or.inl ⟨by kernel_rfl, fun w hSw => by (try dsimp only at hSw); go_split_ands; go_simp⟩) (by assumption) ?_
              simp only [Act.put, List.getElem_toArray, List.getElem_cons_zero, List.getElem_cons_succ, List.setIfInBounds_toArray, List.set_cons_zero, List.set_cons_succ]
              refine wpAnyH_take (i := 7) (v := .int .i64 (u : Int)) rfl (by kernel_rfl) (by kernel_rfl) (by kernel_rfl) (fun _ _ _ h => h) (Or.inl ⟨by kernel_rfl, fun w hSw => by (try dsimp only at hSw); go_split_ands; go_simp⟩) (by assumption) ?_
              simp only [Act.put, List.getElem_toArray, List.getElem_cons_zero, List.getElem_cons_succ, List.setIfInBounds_toArray, List.set_cons_zero, List.set_cons_succ]
              refine wpAnyH_ready (rs := [0]) (by kernel_rfl) (by simp) ?_
              refine AllReadyH.cons (i := 0) rfl (fun K hK => ?_) AllReadyH.nil
              have hk := (unhide SB).bo
              unfold runC at hk
              dsimp only at hk
              have k0 := cellIn (i := 0) hk rfl
              have k1 := cellIn (i := 1) hk rfl
              have k2 := cellIn (i := 2) hk rfl
              have k3 := cellIn (i := 3) hk rfl
              have k4 := cellIn (i := 4) hk rfl
              have k5 := cellIn (i := 5) hk rfl
              have k6 := cellIn (i := 6) hk rfl
              have k7 := cellIn (i := 7) hk rfl
              clear hk
              go_simp
              refine hK.out _ _ hS (fun hHeld => ?_)
              clear hK hHeld k0 k1 k2 k3 k4 k5 k6 k7
              try simp only [Act.put, List.getElem_toArray, List.getElem_cons_zero, List.getElem_cons_succ, List.setIfInBounds_toArray, List.set_cons_zero, List.set_cons_succ]
              refine wpAnyH_ready (rs := [8]) (by kernel_rfl) (by simp) ?_
              refine AllReadyH.cons (i := 8) rfl (fun K hK => ?_) AllReadyH.nil
              go_simp
              refine (unhide (CF _ (unhide SB).ow.edges (unhide SB).ow.tasks)).mono ?_
              rintro e w7 ⟨ge, ce, gt, ct, rfl, ow7, hb7⟩
              have S7 := hide (ls_below (unhide SB) hb7)
              have hS7 := cell_later hb7 hS
              have OW7 := hide (runOwn_base ow7 (show w.heap.size + 1 ≤ V1.heap.size by have h1 := (Array.getElem?_eq_some_iff.1 (unhide SB).res).1; omega))
              have OB7 := hide (ownsRow_below (unhide OBB) hb7)
              clear SB OBB hS ow7 hb7
              go_wp2_with fail
              refine hK.out _ _ hS7 (fun hHeld => ?_)
              clear hK hHeld
              try simp only [Act.put, List.getElem_toArray, List.getElem_cons_zero, List.getElem_cons_succ, List.setIfInBounds_toArray, List.set_cons_zero, List.set_cons_succ]
              refine wpAnyH_ready (rs := [9]) (by kernel_rfl) (by simp) ?_
              refine AllReadyH.cons (i := 9) rfl (fun K hK => ?_) AllReadyH.nil
              have hbo := (unhide S7).bo
              unfold runC at hbo
              dsimp only at hbo
              obtain ⟨hb8, G8⟩ := setMany_is [(0, .int .i64 yi), (1, .int .i64 y1), (2, .int .i64 y2), (3, .int .i64 y3), (4, .int .i64 y4), (5, .slice (some ⟨ge, 0, none⟩) es.length ce), (6, .int .i64 ys), (7, .slice (some ⟨gt, 0, none⟩) ts.length ct)] w7 _ hbo
              have hb8' : (setMany w7 o [(0, .int .i64 yi), (1, .int .i64 y1), (2, .int .i64 y2), (3, .int .i64 y3), (4, .int .i64 y4), (5, .slice (some ⟨ge, 0, none⟩) es.length ce), (6, .int .i64 ys), (7, .slice (some ⟨gt, 0, none⟩) ts.length ct)]).heap[o]? = some (.cells (runC ⟨yi, ⟨y1, y2, y3, y4, ye⟩, ys, yt⟩ (.slice (some ⟨ge, 0, none⟩) es.length ce) (.slice (some ⟨gt, 0, none⟩) ts.length ct)) 29 (0, 0)) := by rw [hb8, put8]; rfl
              have S8 := hide (ls_put (unhide S7) G8 hb8' (unhide OW7))
              have hS8 : (setMany w7 o [(0, .int .i64 yi), (1, .int .i64 y1), (2, .int .i64 y2), (3, .int .i64 y3), (4, .int .i64 y4), (5, .slice (some ⟨ge, 0, none⟩) es.length ce), (6, .int .i64 ys), (7, .slice (some ⟨gt, 0, none⟩) ts.length ct)]).cell? ⟨gA3, jj, none⟩ = some (.int .i64 (u : Int)) := cell_but hS7 G8 (fun e => by
                have h1 := (unhide OB7).2
                rcases h1 with ⟨q, _⟩ | ⟨g1, cap1, cur1, k1, _, hh1, _⟩
                · simp at q
                · simp only [Value.slice.injEq, Option.some.injEq, Addr.mk.injEq, and_true, true_and] at k1
                  rw [← k1.1, e, hbo] at hh1
                  simp at hh1)
              obtain ⟨w8, hw8⟩ : ∃ w8, w8 = setMany w7 o [(0, .int .i64 yi), (1, .int .i64 y1), (2, .int .i64 y2), (3, .int .i64 y3), (4, .int .i64 y4), (5, .slice (some ⟨ge, 0, none⟩) es.length ce), (6, .int .i64 ys), (7, .slice (some ⟨gt, 0, none⟩) ts.length ct)] := ⟨_, rfl⟩
              have eW : ((((((((w7).setCell ⟨o, 0, none⟩ (.int .i64 yi)).setCell ⟨o, 1, none⟩ (.int .i64 y1)).setCell ⟨o, 2, none⟩ (.int .i64 y2)).setCell ⟨o, 3, none⟩ (.int .i64 y3)).setCell ⟨o, 4, none⟩ (.int .i64 y4)).setCell ⟨o, 5, none⟩ (.slice (some ⟨ge, 0, none⟩) es.length ce)).setCell ⟨o, 6, none⟩ (.int .i64 ys)).setCell ⟨o, 7, none⟩ (.slice (some ⟨gt, 0, none⟩) ts.length ct) = w8 := by rw [hw8]; simp only [setMany]
              rw [← hw8] at S8 hS8
              have EW := hide eW
              have z0 := cellIn (i := 0) hbo rfl
              have x0 := softIn (i := 0) hbo
              have z1 := cellIn (i := 1) hbo rfl
              have x1 := softIn (i := 1) hbo
              have z2 := cellIn (i := 2) hbo rfl
              have x2 := softIn (i := 2) hbo
              have z3 := cellIn (i := 3) hbo rfl
              have x3 := softIn (i := 3) hbo
              have z4 := cellIn (i := 4) hbo rfl
              have x4 := softIn (i := 4) hbo
              have z5 := cellIn (i := 5) hbo rfl
              have x5 := softIn (i := 5) hbo
              have z6 := cellIn (i := 6) hbo rfl
              have x6 := softIn (i := 6) hbo
              have z7 := cellIn (i := 7) hbo rfl
              have x7 := softIn (i := 7) hbo
              clear eW hw8 hb8 G8 hb8' hbo OW7 OB7 S7
              go_simp
              rw [unhide EW]
              refine hK.out _ _ hS8 (fun hHeld => ?_)
              clear hK hHeld hS8 hS7 EW z0 x0 z1 x1 z2 x2 z3 x3 z4 x4 z5 x5 z6 x6 z7 x7
              try simp only [Act.put, List.getElem_toArray, List.getElem_cons_zero, List.getElem_cons_succ, List.setIfInBounds_toArray, List.set_cons_zero, List.set_cons_succ]
              refine wpAnyH_done (by kernel_rfl) ?_ _
              go_wp2
              go_roundw
              case rel => exact ⟨i + 1, _, ⟨yi, ⟨y1, y2, y3, y4, ye⟩, ys, yt⟩, _, _, by omega, by go_num, WN, PN, TN, S8, GN⟩
              case measure => simp [intOf]; omega
          | false =>
            have HZ4 := hide hz4
            clear hz4
            by_cases h4 : A2.length = 0
            · have e4 : A2 = [] := List.length_eq_zero_iff.1 h4
              subst e4
              have H4 : Hid (([] : List Int).length = 0) := hide rfl
              clear h4
              have STEP : rnStep s2 i ⟨id, ⟨p1, p2, p3, p4, es⟩, st, ts⟩ = (⟨id, ⟨p1, p2, p3, p4, es⟩, st, ts⟩, s2.step.step) := by rw [unhide STEPS]; exact by rw [if_neg (unhide H3), if_neg (by rw [unhide HZ2]; decide), if_neg (by rw [unhide HZ4]; decide), if_pos (unhide H4)]
              have GN := hide (unhide HG2)
              rw [STEP] at GN
              clear STEP HG2 WN2
              go_wp2
              go_roundw
              case rel => exact ⟨i + 1, _, ⟨id, ⟨p1, p2, p3, p4, es⟩, st, ts⟩, _, _, by omega, by go_num, WL, PL, TL, S5, GN⟩
              case measure => simp [intOf]; omega
            · have d4 : ¬ A2 = [] := fun e => h4 (by rw [e]; rfl)
              have H4 := hide h4
              obtain ⟨jj, hjj⟩ : ∃ jj, jj = s2.step.step.below A2.length := ⟨_, rfl⟩
              have hjl : jj < A2.length := by rw [hjj]; exact below_lt _ _ (by omega)
              obtain ⟨r2, hr2⟩ : ∃ r2, r2 = startR ⟨id, ⟨p1, p2, p3, p4, es⟩, st, ts⟩ (pickL A2 jj) ((i : Int) + p3) := ⟨_, rfl⟩
              have STEP : rnStep s2 i ⟨id, ⟨p1, p2, p3, p4, es⟩, st, ts⟩ = (r2, s2.step.step.step) := by rw [hr2, hjj]; exact by rw [unhide STEPS, if_neg (unhide H3), if_neg (by rw [unhide HZ2]; decide), if_neg (by rw [unhide HZ4]; decide), if_neg (unhide H4)]
              have GN := hide (unhide HG2)
              rw [STEP] at GN
              have WN0 := unhide WN2
              rw [STEP] at WN0
              obtain ⟨pk1, pk2, pk3⟩ := pickAt3 (unhide HDA2) hjl
              obtain ⟨u, hu⟩ : ∃ u, u = pickL A2 jj := ⟨_, rfl⟩
              rw [← hu] at pk1 pk2 pk3 hr2
              have HU : Hid (A2[jj] = (u : Int)) := hide (by rw [← pk1, List.getD_eq_getElem?_getD, List.getElem?_eq_getElem hjl]; rfl)
              have hul : u < ts.length := pk2
              have hcc := unhide HCB u pk2
              have CF := fun (W : World) (h1 : W.ownsRow (w.heap.size + 1) 96 2 (.slice qe es.length me) es.length (edgesC es)) (h2 : W.ownsRow (w.heap.size + 1) 40 4 (.slice qt ts.length mt) ts.length (quadsC ts)) => hide (specStart_any (.slice qe es.length me) (.slice qt ts.length mt) (w.heap.size + 1) (w.heap.size + 1) u ⟨id, ⟨p1, p2, p3, p4, es⟩, st, ts⟩ (i : Int) W h1 h2 (by dsimp only; omega) (by dsimp only; omega) hul ⟨by dsimp only; omega, by dsimp only; omega⟩ ⟨by dsimp only; omega, by dsimp only; omega⟩ ⟨by omega, by omega⟩)
              have ec : startR ⟨id, ⟨p1, p2, p3, p4, es⟩, st, ts⟩ u ((i : Int) + p3) = r2 := hr2.symm
              dsimp only at CF
              rw [ec] at CF
              clear ec
              obtain ⟨yi, ⟨y1, y2, y3, y4, ye⟩, ys, yt⟩ := r2
              dsimp only [runV, runC] at CF
              have WN := hide WN0.1
              have PN := hide (WN0.2.plan.trans (unhide PL))
              have TN := hide (WN0.2.len.trans (unhide TL))
              have e1 := intC_cell (unhide OC2) rfl hjl
              rw [unhide HU] at e1
              have ST0 := hide (ls_below (unhide S5) ((Below.refl v5.heap.size v5).drew))
              have OB0 := hide (ownsRow_below (unhide OC2) ((Below.refl v5.heap.size v5).drew))
              have hj0 : (0 : Int) ≤ (jj : Int) := Int.natCast_nonneg _
              have hj1 : (jj : Int) < (A2.length : Int) := by omega
              have HJ := hide hjj
              clear STEP WN0 pk1 pk2 pk3 hu WN2 HG2 hjj S5 OC2
              go_wp2_with fail
              refine wp_region_held_drew (S := fun w' => w'.cell? ⟨gA2, jj, none⟩ = some (.int .i64 (u : Int))) (by kernel_rfl) e1 (fun hS => ?_)
              refine wpAnyH_take (i := 1) (v := .slice (some ⟨gA2, 0, none⟩) A2.length cA2) rfl (by kernel_rfl) (by kernel_rfl) (by kernel_rfl) (fun _ _ _ h => h) (Or.inl ⟨by kernel_rfl, fun w hSw => by (try dsimp only at hSw); go_split_ands; go_simp⟩) (by assumption) ?_
              simp only [Act.put, List.getElem_toArray, List.getElem_cons_zero, List.getElem_cons_succ, List.setIfInBounds_toArray, List.set_cons_zero, List.set_cons_succ]
              refine wpAnyH_take (i := 2) (v := .pointer (some ⟨g, 0, none⟩)) rfl (by kernel_rfl) (by kernel_rfl) (by kernel_rfl) (fun _ _ _ h => h) (Or.inl ⟨by kernel_rfl, fun w hSw => by (try dsimp only at hSw); go_split_ands; go_simp⟩) (by assumption) ?_
              simp only [Act.put, List.getElem_toArray, List.getElem_cons_zero, List.getElem_cons_succ, List.setIfInBounds_toArray, List.set_cons_zero, List.set_cons_succ]
              refine wpAnyH_take (i := 3) (v := .slice (some ⟨gA2, 0, none⟩) A2.length cA2) rfl (by kernel_rfl) (by kernel_rfl) (by kernel_rfl) (fun _ _ _ h => h) (Or.inl ⟨by kernel_rfl, fun w hSw => by (try dsimp only at hSw); go_split_ands; go_simp⟩) (by assumption) ?_
              simp only [Act.put, List.getElem_toArray, List.getElem_cons_zero, List.getElem_cons_succ, List.setIfInBounds_toArray, List.set_cons_zero, List.set_cons_succ]
              refine wpAnyH_take (i := 4) (v := .int .i64 (A2.length : Int)) rfl (by kernel_rfl) (by kernel_rfl) (by kernel_rfl) (fun _ _ _ h => h) (Or.inl ⟨by kernel_rfl, fun w hSw => by (try dsimp only at hSw); go_split_ands; go_simp⟩) (by assumption) ?_
              simp only [Act.put, List.getElem_toArray, List.getElem_cons_zero, List.getElem_cons_succ, List.setIfInBounds_toArray, List.set_cons_zero, List.set_cons_succ]
              refine wpAnyH_take (i := 8) (v := .int .i64 (i : Int)) rfl (by kernel_rfl) (by kernel_rfl) (by kernel_rfl) (fun _ _ _ h => h) (Or.inl ⟨by kernel_rfl, fun w hSw => by (try dsimp only at hSw); go_split_ands; go_simp⟩) (by assumption) ?_
              simp only [Act.put, List.getElem_toArray, List.getElem_cons_zero, List.getElem_cons_succ, List.setIfInBounds_toArray, List.set_cons_zero, List.set_cons_succ]
              obtain ⟨V0, hV0⟩ : ∃ V0, V0 = v5.drew := ⟨_, rfl⟩
              rw [← hV0] at ST0 OB0 hS ⊢
              clear hV0 e1
              refine wpAnyH_ready (rs := [0, 5]) (by kernel_rfl) (by simp) ?_
              refine AllReadyH.cons (i := 0) rfl (fun K hK => ?_) (AllReadyH.cons (i := 5) rfl (fun K hK => ?_) AllReadyH.nil)
              · have hk := (unhide ST0).bo
                unfold runC at hk
                dsimp only at hk
                have k0 := cellIn (i := 0) hk rfl
                have k1 := cellIn (i := 1) hk rfl
                have k2 := cellIn (i := 2) hk rfl
                have k3 := cellIn (i := 3) hk rfl
                have k4 := cellIn (i := 4) hk rfl
                have k5 := cellIn (i := 5) hk rfl
                have k6 := cellIn (i := 6) hk rfl
                have k7 := cellIn (i := 7) hk rfl
                clear hk
                go_simp
                refine hK.out _ _ hS (fun hHeld => ?_)
                clear hK hHeld k0 k1 k2 k3 k4 k5 k6 k7
                try simp only [Act.put, List.getElem_toArray, List.getElem_cons_zero, List.getElem_cons_succ, List.setIfInBounds_toArray, List.set_cons_zero, List.set_cons_succ]
                refine wpAnyH_ready (rs := [5]) (by kernel_rfl) (by simp) ?_
                refine AllReadyH.cons (i := 5) rfl (fun K hK => ?_) AllReadyH.nil
                have BC := hide (below_is B g A2.length s2.step.step V0 (unhide ST0).cur (by omega) (by omega))
                go_simp
                refine (unhide BC).mono ?_
                rintro e V1 ⟨rfl, hcu, hgr⟩
                have SB := hide (ls_cur (unhide ST0) hcu hgr)
                have OBB := hide (row_cur (unhide OB0) hgr (by have := (unhide ST0).glt; have := unhide HBA2; omega))
                have hSB : V1.cell? ⟨gA2, jj, none⟩ = some (.int .i64 (u : Int)) := by have := intC_cell (unhide OBB) rfl hjl; rw [unhide HU] at this; exact this
                clear hcu hgr BC
                go_wp2_with fail
                refine hK.out _ _ hSB (fun hHeld => ?_)
                clear hK hHeld ST0 OB0 hS
                have hS := hSB
                clear hSB
                try simp only [Act.put, List.getElem_toArray, List.getElem_cons_zero, List.getElem_cons_succ, List.setIfInBounds_toArray, List.set_cons_zero, List.set_cons_succ]
                rw [← unhide HJ]
                clear HJ
                refine wpAnyH_take (i := 6) (v := .pointer (some ⟨gA2, jj, none⟩)) rfl (by kernel_rfl) (by kernel_rfl) (by kernel_rfl) (fun _ _ _ h => h) (Or.inl ⟨by kernel_rfl, fun w hSw => by (try dsimp only at hSw); go_split_ands; go_simp⟩) (by assumption) ?_
                simp only [Act.put, List.getElem_toArray, List.getElem_cons_zero, List.getElem_cons_succ, List.setIfInBounds_toArray, List.set_cons_zero, List.set_cons_succ]
                refine wpAnyH_take (i := 7) (v := .int .i64 (u : Int)) rfl (by kernel_rfl) (by kernel_rfl) (by kernel_rfl) (fun _ _ _ h => h) (Or.inl ⟨by kernel_rfl, fun w hSw => by (try dsimp only at hSw); go_split_ands; go_simp⟩) (by assumption) ?_
                simp only [Act.put, List.getElem_toArray, List.getElem_cons_zero, List.getElem_cons_succ, List.setIfInBounds_toArray, List.set_cons_zero, List.set_cons_succ]
                refine wpAnyH_ready (rs := [9]) (by kernel_rfl) (by simp) ?_
                refine AllReadyH.cons (i := 9) rfl (fun K hK => ?_) AllReadyH.nil
                go_simp
                refine (unhide (CF _ (unhide SB).ow.edges (unhide SB).ow.tasks)).mono ?_
                rintro e w7 ⟨ge, ce, gt, ct, rfl, ow7, hb7⟩
                have S7 := hide (ls_below (unhide SB) hb7)
                have hS7 := cell_later hb7 hS
                have OW7 := hide (runOwn_base ow7 (show w.heap.size + 1 ≤ V1.heap.size by have h1 := (Array.getElem?_eq_some_iff.1 (unhide SB).res).1; omega))
                have OB7 := hide (ownsRow_below (unhide OBB) hb7)
                clear SB OBB hS ow7 hb7
                go_wp2_with fail
                refine hK.out _ _ hS7 (fun hHeld => ?_)
                clear hK hHeld
                try simp only [Act.put, List.getElem_toArray, List.getElem_cons_zero, List.getElem_cons_succ, List.setIfInBounds_toArray, List.set_cons_zero, List.set_cons_succ]
                refine wpAnyH_ready (rs := [10]) (by kernel_rfl) (by simp) ?_
                refine AllReadyH.cons (i := 10) rfl (fun K hK => ?_) AllReadyH.nil
                have hbo := (unhide S7).bo
                unfold runC at hbo
                dsimp only at hbo
                obtain ⟨hb8, G8⟩ := setMany_is [(0, .int .i64 yi), (1, .int .i64 y1), (2, .int .i64 y2), (3, .int .i64 y3), (4, .int .i64 y4), (5, .slice (some ⟨ge, 0, none⟩) es.length ce), (6, .int .i64 ys), (7, .slice (some ⟨gt, 0, none⟩) ts.length ct)] w7 _ hbo
                have hb8' : (setMany w7 o [(0, .int .i64 yi), (1, .int .i64 y1), (2, .int .i64 y2), (3, .int .i64 y3), (4, .int .i64 y4), (5, .slice (some ⟨ge, 0, none⟩) es.length ce), (6, .int .i64 ys), (7, .slice (some ⟨gt, 0, none⟩) ts.length ct)]).heap[o]? = some (.cells (runC ⟨yi, ⟨y1, y2, y3, y4, ye⟩, ys, yt⟩ (.slice (some ⟨ge, 0, none⟩) es.length ce) (.slice (some ⟨gt, 0, none⟩) ts.length ct)) 29 (0, 0)) := by rw [hb8, put8]; rfl
                have S8 := hide (ls_put (unhide S7) G8 hb8' (unhide OW7))
                have hS8 : (setMany w7 o [(0, .int .i64 yi), (1, .int .i64 y1), (2, .int .i64 y2), (3, .int .i64 y3), (4, .int .i64 y4), (5, .slice (some ⟨ge, 0, none⟩) es.length ce), (6, .int .i64 ys), (7, .slice (some ⟨gt, 0, none⟩) ts.length ct)]).cell? ⟨gA2, jj, none⟩ = some (.int .i64 (u : Int)) := cell_but hS7 G8 (fun e => by
                  have h1 := (unhide OB7).2
                  rcases h1 with ⟨q, _⟩ | ⟨g1, cap1, cur1, k1, _, hh1, _⟩
                  · simp at q
                  · simp only [Value.slice.injEq, Option.some.injEq, Addr.mk.injEq, and_true, true_and] at k1
                    rw [← k1.1, e, hbo] at hh1
                    simp at hh1)
                obtain ⟨w8, hw8⟩ : ∃ w8, w8 = setMany w7 o [(0, .int .i64 yi), (1, .int .i64 y1), (2, .int .i64 y2), (3, .int .i64 y3), (4, .int .i64 y4), (5, .slice (some ⟨ge, 0, none⟩) es.length ce), (6, .int .i64 ys), (7, .slice (some ⟨gt, 0, none⟩) ts.length ct)] := ⟨_, rfl⟩
                have eW : ((((((((w7).setCell ⟨o, 0, none⟩ (.int .i64 yi)).setCell ⟨o, 1, none⟩ (.int .i64 y1)).setCell ⟨o, 2, none⟩ (.int .i64 y2)).setCell ⟨o, 3, none⟩ (.int .i64 y3)).setCell ⟨o, 4, none⟩ (.int .i64 y4)).setCell ⟨o, 5, none⟩ (.slice (some ⟨ge, 0, none⟩) es.length ce)).setCell ⟨o, 6, none⟩ (.int .i64 ys)).setCell ⟨o, 7, none⟩ (.slice (some ⟨gt, 0, none⟩) ts.length ct) = w8 := by rw [hw8]; simp only [setMany]
                rw [← hw8] at S8 hS8
                have EW := hide eW
                have z0 := cellIn (i := 0) hbo rfl
                have x0 := softIn (i := 0) hbo
                have z1 := cellIn (i := 1) hbo rfl
                have x1 := softIn (i := 1) hbo
                have z2 := cellIn (i := 2) hbo rfl
                have x2 := softIn (i := 2) hbo
                have z3 := cellIn (i := 3) hbo rfl
                have x3 := softIn (i := 3) hbo
                have z4 := cellIn (i := 4) hbo rfl
                have x4 := softIn (i := 4) hbo
                have z5 := cellIn (i := 5) hbo rfl
                have x5 := softIn (i := 5) hbo
                have z6 := cellIn (i := 6) hbo rfl
                have x6 := softIn (i := 6) hbo
                have z7 := cellIn (i := 7) hbo rfl
                have x7 := softIn (i := 7) hbo
                clear eW hw8 hb8 G8 hb8' hbo OW7 OB7 S7
                go_simp
                rw [unhide EW]
                refine hK.out _ _ hS8 (fun hHeld => ?_)
                clear hK hHeld hS8 hS7 EW z0 x0 z1 x1 z2 x2 z3 x3 z4 x4 z5 x5 z6 x6 z7 x7
                try simp only [Act.put, List.getElem_toArray, List.getElem_cons_zero, List.getElem_cons_succ, List.setIfInBounds_toArray, List.set_cons_zero, List.set_cons_succ]
                refine wpAnyH_done (by kernel_rfl) ?_ _
                go_wp2
                go_roundw
                case rel => exact ⟨i + 1, _, ⟨yi, ⟨y1, y2, y3, y4, ye⟩, ys, yt⟩, _, _, by omega, by go_num, WN, PN, TN, S8, GN⟩
                case measure => simp [intOf]; omega
              · have BC := hide (below_is B g A2.length s2.step.step V0 (unhide ST0).cur (by omega) (by omega))
                go_simp
                refine (unhide BC).mono ?_
                rintro e V1 ⟨rfl, hcu, hgr⟩
                have SB := hide (ls_cur (unhide ST0) hcu hgr)
                have OBB := hide (row_cur (unhide OB0) hgr (by have := (unhide ST0).glt; have := unhide HBA2; omega))
                have hSB : V1.cell? ⟨gA2, jj, none⟩ = some (.int .i64 (u : Int)) := by have := intC_cell (unhide OBB) rfl hjl; rw [unhide HU] at this; exact this
                clear hcu hgr BC
                go_wp2_with fail
                refine hK.out _ _ hSB (fun hHeld => ?_)
                clear hK hHeld ST0 OB0 hS
                have hS := hSB
                clear hSB
                try simp only [Act.put, List.getElem_toArray, List.getElem_cons_zero, List.getElem_cons_succ, List.setIfInBounds_toArray, List.set_cons_zero, List.set_cons_succ]
                rw [← unhide HJ]
                clear HJ
                refine wpAnyH_take (i := 6) (v := .pointer (some ⟨gA2, jj, none⟩)) rfl (by kernel_rfl) (by kernel_rfl) (by kernel_rfl) (fun _ _ _ h => h) (Or.inl ⟨by kernel_rfl, fun w hSw => by (try dsimp only at hSw); go_split_ands; go_simp⟩) (by assumption) ?_
                simp only [Act.put, List.getElem_toArray, List.getElem_cons_zero, List.getElem_cons_succ, List.setIfInBounds_toArray, List.set_cons_zero, List.set_cons_succ]
                refine wpAnyH_take (i := 7) (v := .int .i64 (u : Int)) rfl (by kernel_rfl) (by kernel_rfl) (by kernel_rfl) (fun _ _ _ h => h) (Or.inl ⟨by kernel_rfl, fun w hSw => by (try dsimp only at hSw); go_split_ands; go_simp⟩) (by assumption) ?_
                simp only [Act.put, List.getElem_toArray, List.getElem_cons_zero, List.getElem_cons_succ, List.setIfInBounds_toArray, List.set_cons_zero, List.set_cons_succ]
                refine wpAnyH_ready (rs := [0]) (by kernel_rfl) (by simp) ?_
                refine AllReadyH.cons (i := 0) rfl (fun K hK => ?_) AllReadyH.nil
                have hk := (unhide SB).bo
                unfold runC at hk
                dsimp only at hk
                have k0 := cellIn (i := 0) hk rfl
                have k1 := cellIn (i := 1) hk rfl
                have k2 := cellIn (i := 2) hk rfl
                have k3 := cellIn (i := 3) hk rfl
                have k4 := cellIn (i := 4) hk rfl
                have k5 := cellIn (i := 5) hk rfl
                have k6 := cellIn (i := 6) hk rfl
                have k7 := cellIn (i := 7) hk rfl
                clear hk
                go_simp
                refine hK.out _ _ hS (fun hHeld => ?_)
                clear hK hHeld k0 k1 k2 k3 k4 k5 k6 k7
                try simp only [Act.put, List.getElem_toArray, List.getElem_cons_zero, List.getElem_cons_succ, List.setIfInBounds_toArray, List.set_cons_zero, List.set_cons_succ]
                refine wpAnyH_ready (rs := [9]) (by kernel_rfl) (by simp) ?_
                refine AllReadyH.cons (i := 9) rfl (fun K hK => ?_) AllReadyH.nil
                go_simp
                refine (unhide (CF _ (unhide SB).ow.edges (unhide SB).ow.tasks)).mono ?_
                rintro e w7 ⟨ge, ce, gt, ct, rfl, ow7, hb7⟩
                have S7 := hide (ls_below (unhide SB) hb7)
                have hS7 := cell_later hb7 hS
                have OW7 := hide (runOwn_base ow7 (show w.heap.size + 1 ≤ V1.heap.size by have h1 := (Array.getElem?_eq_some_iff.1 (unhide SB).res).1; omega))
                have OB7 := hide (ownsRow_below (unhide OBB) hb7)
                clear SB OBB hS ow7 hb7
                go_wp2_with fail
                refine hK.out _ _ hS7 (fun hHeld => ?_)
                clear hK hHeld
                try simp only [Act.put, List.getElem_toArray, List.getElem_cons_zero, List.getElem_cons_succ, List.setIfInBounds_toArray, List.set_cons_zero, List.set_cons_succ]
                refine wpAnyH_ready (rs := [10]) (by kernel_rfl) (by simp) ?_
                refine AllReadyH.cons (i := 10) rfl (fun K hK => ?_) AllReadyH.nil
                have hbo := (unhide S7).bo
                unfold runC at hbo
                dsimp only at hbo
                obtain ⟨hb8, G8⟩ := setMany_is [(0, .int .i64 yi), (1, .int .i64 y1), (2, .int .i64 y2), (3, .int .i64 y3), (4, .int .i64 y4), (5, .slice (some ⟨ge, 0, none⟩) es.length ce), (6, .int .i64 ys), (7, .slice (some ⟨gt, 0, none⟩) ts.length ct)] w7 _ hbo
                have hb8' : (setMany w7 o [(0, .int .i64 yi), (1, .int .i64 y1), (2, .int .i64 y2), (3, .int .i64 y3), (4, .int .i64 y4), (5, .slice (some ⟨ge, 0, none⟩) es.length ce), (6, .int .i64 ys), (7, .slice (some ⟨gt, 0, none⟩) ts.length ct)]).heap[o]? = some (.cells (runC ⟨yi, ⟨y1, y2, y3, y4, ye⟩, ys, yt⟩ (.slice (some ⟨ge, 0, none⟩) es.length ce) (.slice (some ⟨gt, 0, none⟩) ts.length ct)) 29 (0, 0)) := by rw [hb8, put8]; rfl
                have S8 := hide (ls_put (unhide S7) G8 hb8' (unhide OW7))
                have hS8 : (setMany w7 o [(0, .int .i64 yi), (1, .int .i64 y1), (2, .int .i64 y2), (3, .int .i64 y3), (4, .int .i64 y4), (5, .slice (some ⟨ge, 0, none⟩) es.length ce), (6, .int .i64 ys), (7, .slice (some ⟨gt, 0, none⟩) ts.length ct)]).cell? ⟨gA2, jj, none⟩ = some (.int .i64 (u : Int)) := cell_but hS7 G8 (fun e => by
                  have h1 := (unhide OB7).2
                  rcases h1 with ⟨q, _⟩ | ⟨g1, cap1, cur1, k1, _, hh1, _⟩
                  · simp at q
                  · simp only [Value.slice.injEq, Option.some.injEq, Addr.mk.injEq, and_true, true_and] at k1
                    rw [← k1.1, e, hbo] at hh1
                    simp at hh1)
                obtain ⟨w8, hw8⟩ : ∃ w8, w8 = setMany w7 o [(0, .int .i64 yi), (1, .int .i64 y1), (2, .int .i64 y2), (3, .int .i64 y3), (4, .int .i64 y4), (5, .slice (some ⟨ge, 0, none⟩) es.length ce), (6, .int .i64 ys), (7, .slice (some ⟨gt, 0, none⟩) ts.length ct)] := ⟨_, rfl⟩
                have eW : ((((((((w7).setCell ⟨o, 0, none⟩ (.int .i64 yi)).setCell ⟨o, 1, none⟩ (.int .i64 y1)).setCell ⟨o, 2, none⟩ (.int .i64 y2)).setCell ⟨o, 3, none⟩ (.int .i64 y3)).setCell ⟨o, 4, none⟩ (.int .i64 y4)).setCell ⟨o, 5, none⟩ (.slice (some ⟨ge, 0, none⟩) es.length ce)).setCell ⟨o, 6, none⟩ (.int .i64 ys)).setCell ⟨o, 7, none⟩ (.slice (some ⟨gt, 0, none⟩) ts.length ct) = w8 := by rw [hw8]; simp only [setMany]
                rw [← hw8] at S8 hS8
                have EW := hide eW
                have z0 := cellIn (i := 0) hbo rfl
                have x0 := softIn (i := 0) hbo
                have z1 := cellIn (i := 1) hbo rfl
                have x1 := softIn (i := 1) hbo
                have z2 := cellIn (i := 2) hbo rfl
                have x2 := softIn (i := 2) hbo
                have z3 := cellIn (i := 3) hbo rfl
                have x3 := softIn (i := 3) hbo
                have z4 := cellIn (i := 4) hbo rfl
                have x4 := softIn (i := 4) hbo
                have z5 := cellIn (i := 5) hbo rfl
                have x5 := softIn (i := 5) hbo
                have z6 := cellIn (i := 6) hbo rfl
                have x6 := softIn (i := 6) hbo
                have z7 := cellIn (i := 7) hbo rfl
                have x7 := softIn (i := 7) hbo
                clear eW hw8 hb8 G8 hb8' hbo OW7 OB7 S7
                go_simp
                rw [unhide EW]
                refine hK.out _ _ hS8 (fun hHeld => ?_)
                clear hK hHeld hS8 hS7 EW z0 x0 z1 x1 z2 x2 z3 x3 z4 x4 z5 x5 z6 x6 z7 x7
                try simp only [Act.put, List.getElem_toArray, List.getElem_cons_zero, List.getElem_cons_succ, List.setIfInBounds_toArray, List.set_cons_zero, List.set_cons_succ]
                refine wpAnyH_done (by kernel_rfl) ?_ _
                go_wp2
                go_roundw
                case rel => exact ⟨i + 1, _, ⟨yi, ⟨y1, y2, y3, y4, ye⟩, ys, yt⟩, _, _, by omega, by go_num, WN, PN, TN, S8, GN⟩
                case measure => simp [intOf]; omega
    · have HGX : Hid (RES = (⟨id, ⟨p1, p2, p3, p4, es⟩, st, ts⟩, s2)) := hide (by rw [← unhide HG, rnGo_out s1 i _ hi (by rw [← unhide HM]; exact h1), ← unhide HS2])
      clear HG HM
      by_cases h2 : i < m
      · have d1 : decide ((i : Int) < (m : Int)) = true := by simp; exact h2
        have hs1 : ¬ st = 1 := fun e => h1 ⟨h2, e⟩
        have d2 : (st == 1) = false := by simp [hs1]
        clear h1
        have OC := hide (once_is B g 10 s2 v1 (unhide S1).cur (by omega) (by omega))
        go_wp2_with fail
        refine (unhide OC).mono ?_
        rintro e v2 ⟨rfl, hc2, hg2⟩
        have S2 := hide (ls_cur (unhide S1) hc2 hg2)
        clear OC hc2 hg2 S1 c6
        cases hz : (s2.below 10 == 0) with
        | false =>
          have FINX : Hid (runDrawn s = (⟨id, ⟨p1, p2, p3, p4, es⟩, st, ts⟩, s2.step)) := hide (by rw [unhide FIN, unhide HGX]; dsimp only; rw [if_neg (by rw [hz]; decide)])
          clear hz
          have hr := (unhide S2).res
          unfold zeroR at hr
          obtain ⟨hr5, G5⟩ := setMany_is [(0, .int .i64 id), (1, .int .i64 p1), (2, .int .i64 p2), (3, .int .i64 p3), (4, .int .i64 p4), (5, .slice qe es.length me), (6, .int .i64 st), (7, .slice qt ts.length mt)] v2 _ hr
          have hr5' : (setMany v2 w.heap.size [(0, .int .i64 id), (1, .int .i64 p1), (2, .int .i64 p2), (3, .int .i64 p3), (4, .int .i64 p4), (5, .slice qe es.length me), (6, .int .i64 st), (7, .slice qt ts.length mt)]).heap[w.heap.size]? = some (.cells #[.int .i64 id, .int .i64 p1, .int .i64 p2, .int .i64 p3, .int .i64 p4, .slice qe es.length me, .int .i64 st, .slice qt ts.length mt] 29 (0, 0)) := by rw [hr5, put8]
          have EE := ls_end (unhide S2) G5
          have ER := hide (And.intro EE hr5')
          have z0 := cellIn (i := 0) hr rfl
          have x0 := softIn (i := 0) hr
          have z1 := cellIn (i := 1) hr rfl
          have x1 := softIn (i := 1) hr
          have z2 := cellIn (i := 2) hr rfl
          have x2 := softIn (i := 2) hr
          have z3 := cellIn (i := 3) hr rfl
          have x3 := softIn (i := 3) hr
          have z4 := cellIn (i := 4) hr rfl
          have x4 := softIn (i := 4) hr
          have z5 := cellIn (i := 5) hr rfl
          have x5 := softIn (i := 5) hr
          have z6 := cellIn (i := 6) hr rfl
          have x6 := softIn (i := 6) hr
          have z7 := cellIn (i := 7) hr rfl
          have x7 := softIn (i := 7) hr
          have hk := (unhide S2).bo
          unfold runC at hk
          dsimp only at hk
          have k0 := cellIn (i := 0) hk rfl
          have k1 := cellIn (i := 1) hk rfl
          have k2 := cellIn (i := 2) hk rfl
          have k3 := cellIn (i := 3) hk rfl
          have k4 := cellIn (i := 4) hk rfl
          have k5 := cellIn (i := 5) hk rfl
          have k6 := cellIn (i := 6) hk rfl
          have k7 := cellIn (i := 7) hk rfl
          clear hk
          obtain ⟨W5, hW5⟩ : ∃ W5, W5 = setMany v2 w.heap.size [(0, .int .i64 id), (1, .int .i64 p1), (2, .int .i64 p2), (3, .int .i64 p3), (4, .int .i64 p4), (5, .slice qe es.length me), (6, .int .i64 st), (7, .slice qt ts.length mt)] := ⟨_, rfl⟩
          rw [← hW5] at ER
          have eW : ((((((((v2).setCell ⟨w.heap.size, 0, none⟩ (.int .i64 id)).setCell ⟨w.heap.size, 1, none⟩ (.int .i64 p1)).setCell ⟨w.heap.size, 2, none⟩ (.int .i64 p2)).setCell ⟨w.heap.size, 3, none⟩ (.int .i64 p3)).setCell ⟨w.heap.size, 4, none⟩ (.int .i64 p4)).setCell ⟨w.heap.size, 5, none⟩ (.slice qe es.length me)).setCell ⟨w.heap.size, 6, none⟩ (.int .i64 st)).setCell ⟨w.heap.size, 7, none⟩ (.slice qt ts.length mt) = W5 := by rw [hW5]; simp only [setMany]
          have EW := hide eW
          clear eW hW5 hr5 G5 hr5' EE hr S2
          go_wp2
          rw [unhide EW]
          obtain ⟨⟨Q1, Q2, Q4⟩, Q3⟩ := unhide ER
          have r0 := cellIn (i := 0) Q3 rfl
          have r1 := cellIn (i := 1) Q3 rfl
          have r2 := cellIn (i := 2) Q3 rfl
          have r3 := cellIn (i := 3) Q3 rfl
          have r4 := cellIn (i := 4) Q3 rfl
          have r5 := cellIn (i := 5) Q3 rfl
          have r6 := cellIn (i := 6) Q3 rfl
          have r7 := cellIn (i := 7) Q3 rfl
          refine bodyPost_ret (v := .agg #[.int .i64 id, .int .i64 p1, .int .i64 p2, .int .i64 p3, .int .i64 p4, .slice qe es.length me, .int .i64 st, .slice qt ts.length mt]) (by simp [results, Try.results38, go_sem, r0, r1, r2, r3, r4, r5, r6, r7]) rfl ?_
          exact ⟨.slice qe es.length me, .slice qt ts.length mt, by rw [unhide FINX]; rfl, by rw [unhide FINX]; exact Q1, by rw [unhide FINX]; exact Q2, Q4⟩
        | true =>
          obtain ⟨r2, HL⟩ := left_ex ⟨id, ⟨p1, p2, p3, p4, es⟩, st, ts⟩
          have hr2 := leftR_is (unhide WL).ok HL
          have FINX : Hid (runDrawn s = (r2, s2.step)) := hide (by rw [unhide FIN, unhide HGX]; dsimp only; rw [if_pos hz, hr2])
          have LC := fun (W : World) (h1 : W.ownsRow (w.heap.size + 1) 96 2 (.slice qe es.length me) es.length (edgesC es)) (h2 : W.ownsRow (w.heap.size + 1) 40 4 (.slice qt ts.length mt) ts.length (quadsC ts)) => hide (specRunLeft_any (.slice qe es.length me) (.slice qt ts.length mt) (w.heap.size + 1) (w.heap.size + 1) ⟨id, ⟨p1, p2, p3, p4, es⟩, st, ts⟩ r2 HL W h1 h2 (by dsimp only; omega) (by dsimp only; omega))
          clear HL hr2 hz
          obtain ⟨yi, ⟨y1, y2, y3, y4, ye⟩, ys, yt⟩ := r2
          dsimp only [runV, runC] at LC
          have hk := (unhide S2).bo
          unfold runC at hk
          dsimp only at hk
          have k0 := cellIn (i := 0) hk rfl
          have k1 := cellIn (i := 1) hk rfl
          have k2 := cellIn (i := 2) hk rfl
          have k3 := cellIn (i := 3) hk rfl
          have k4 := cellIn (i := 4) hk rfl
          have k5 := cellIn (i := 5) hk rfl
          have k6 := cellIn (i := 6) hk rfl
          have k7 := cellIn (i := 7) hk rfl
          clear hk
          go_wp2_with fail
          refine (unhide (LC _ (unhide S2).ow.edges (unhide S2).ow.tasks)).mono ?_
          rintro e v3 ⟨ge, ce, gt, ct, rfl, ow3, hb3⟩
          have S3 := hide (ls_below (unhide S2) hb3)
          have OW3 := hide (runOwn_base ow3 (show w.heap.size + 1 ≤ v2.heap.size by have h1 := (Array.getElem?_eq_some_iff.1 (unhide S2).res).1; omega))
          clear k0 k1 k2 k3 k4 k5 k6 k7 S2 ow3 hb3 LC
          have hbo := (unhide S3).bo
          unfold runC at hbo
          dsimp only at hbo
          obtain ⟨hb8, G8⟩ := setMany_is [(0, .int .i64 yi), (1, .int .i64 y1), (2, .int .i64 y2), (3, .int .i64 y3), (4, .int .i64 y4), (5, .slice (some ⟨ge, 0, none⟩) es.length ce), (6, .int .i64 ys), (7, .slice (some ⟨gt, 0, none⟩) ts.length ct)] v3 _ hbo
          have hb8' : (setMany v3 o [(0, .int .i64 yi), (1, .int .i64 y1), (2, .int .i64 y2), (3, .int .i64 y3), (4, .int .i64 y4), (5, .slice (some ⟨ge, 0, none⟩) es.length ce), (6, .int .i64 ys), (7, .slice (some ⟨gt, 0, none⟩) ts.length ct)]).heap[o]? = some (.cells (runC ⟨yi, ⟨y1, y2, y3, y4, ye⟩, ys, yt⟩ (.slice (some ⟨ge, 0, none⟩) es.length ce) (.slice (some ⟨gt, 0, none⟩) ts.length ct)) 29 (0, 0)) := by rw [hb8, put8]; rfl
          have S8 := hide (ls_put (unhide S3) G8 hb8' (unhide OW3))
          obtain ⟨v8, hw8⟩ : ∃ v8, v8 = setMany v3 o [(0, .int .i64 yi), (1, .int .i64 y1), (2, .int .i64 y2), (3, .int .i64 y3), (4, .int .i64 y4), (5, .slice (some ⟨ge, 0, none⟩) es.length ce), (6, .int .i64 ys), (7, .slice (some ⟨gt, 0, none⟩) ts.length ct)] := ⟨_, rfl⟩
          have eW : ((((((((v3).setCell ⟨o, 0, none⟩ (.int .i64 yi)).setCell ⟨o, 1, none⟩ (.int .i64 y1)).setCell ⟨o, 2, none⟩ (.int .i64 y2)).setCell ⟨o, 3, none⟩ (.int .i64 y3)).setCell ⟨o, 4, none⟩ (.int .i64 y4)).setCell ⟨o, 5, none⟩ (.slice (some ⟨ge, 0, none⟩) es.length ce)).setCell ⟨o, 6, none⟩ (.int .i64 ys)).setCell ⟨o, 7, none⟩ (.slice (some ⟨gt, 0, none⟩) ts.length ct) = v8 := by rw [hw8]; simp only [setMany]
          rw [← hw8] at S8
          have EW := hide eW
          have z0 := cellIn (i := 0) hbo rfl
          have x0 := softIn (i := 0) hbo
          have z1 := cellIn (i := 1) hbo rfl
          have x1 := softIn (i := 1) hbo
          have z2 := cellIn (i := 2) hbo rfl
          have x2 := softIn (i := 2) hbo
          have z3 := cellIn (i := 3) hbo rfl
          have x3 := softIn (i := 3) hbo
          have z4 := cellIn (i := 4) hbo rfl
          have x4 := softIn (i := 4) hbo
          have z5 := cellIn (i := 5) hbo rfl
          have x5 := softIn (i := 5) hbo
          have z6 := cellIn (i := 6) hbo rfl
          have x6 := softIn (i := 6) hbo
          have z7 := cellIn (i := 7) hbo rfl
          have x7 := softIn (i := 7) hbo
          clear eW hw8 hb8 G8 hb8' hbo OW3 S3
          go_upto_region 15 with fail
          rw [unhide EW]
          clear EW z0 x0 z1 x1 z2 x2 z3 x3 z4 x4 z5 x5 z6 x6 z7 x7
          have hr := (unhide S8).res
          unfold zeroR at hr
          obtain ⟨hr5, G5⟩ := setMany_is [(0, .int .i64 yi), (1, .int .i64 y1), (2, .int .i64 y2), (3, .int .i64 y3), (4, .int .i64 y4), (5, .slice (some ⟨ge, 0, none⟩) es.length ce), (6, .int .i64 ys), (7, .slice (some ⟨gt, 0, none⟩) ts.length ct)] v8 _ hr
          have hr5' : (setMany v8 w.heap.size [(0, .int .i64 yi), (1, .int .i64 y1), (2, .int .i64 y2), (3, .int .i64 y3), (4, .int .i64 y4), (5, .slice (some ⟨ge, 0, none⟩) es.length ce), (6, .int .i64 ys), (7, .slice (some ⟨gt, 0, none⟩) ts.length ct)]).heap[w.heap.size]? = some (.cells #[.int .i64 yi, .int .i64 y1, .int .i64 y2, .int .i64 y3, .int .i64 y4, .slice (some ⟨ge, 0, none⟩) es.length ce, .int .i64 ys, .slice (some ⟨gt, 0, none⟩) ts.length ct] 29 (0, 0)) := by rw [hr5, put8]
          have EE := ls_end (unhide S8) G5
          have ER := hide (And.intro EE hr5')
          have z0 := cellIn (i := 0) hr rfl
          have x0 := softIn (i := 0) hr
          have z1 := cellIn (i := 1) hr rfl
          have x1 := softIn (i := 1) hr
          have z2 := cellIn (i := 2) hr rfl
          have x2 := softIn (i := 2) hr
          have z3 := cellIn (i := 3) hr rfl
          have x3 := softIn (i := 3) hr
          have z4 := cellIn (i := 4) hr rfl
          have x4 := softIn (i := 4) hr
          have z5 := cellIn (i := 5) hr rfl
          have x5 := softIn (i := 5) hr
          have z6 := cellIn (i := 6) hr rfl
          have x6 := softIn (i := 6) hr
          have z7 := cellIn (i := 7) hr rfl
          have x7 := softIn (i := 7) hr
          have hk := (unhide S8).bo
          unfold runC at hk
          dsimp only at hk
          have k0 := cellIn (i := 0) hk rfl
          have k1 := cellIn (i := 1) hk rfl
          have k2 := cellIn (i := 2) hk rfl
          have k3 := cellIn (i := 3) hk rfl
          have k4 := cellIn (i := 4) hk rfl
          have k5 := cellIn (i := 5) hk rfl
          have k6 := cellIn (i := 6) hk rfl
          have k7 := cellIn (i := 7) hk rfl
          clear hk
          obtain ⟨W5, hW5⟩ : ∃ W5, W5 = setMany v8 w.heap.size [(0, .int .i64 yi), (1, .int .i64 y1), (2, .int .i64 y2), (3, .int .i64 y3), (4, .int .i64 y4), (5, .slice (some ⟨ge, 0, none⟩) es.length ce), (6, .int .i64 ys), (7, .slice (some ⟨gt, 0, none⟩) ts.length ct)] := ⟨_, rfl⟩
          rw [← hW5] at ER
          have eW : ((((((((v8).setCell ⟨w.heap.size, 0, none⟩ (.int .i64 yi)).setCell ⟨w.heap.size, 1, none⟩ (.int .i64 y1)).setCell ⟨w.heap.size, 2, none⟩ (.int .i64 y2)).setCell ⟨w.heap.size, 3, none⟩ (.int .i64 y3)).setCell ⟨w.heap.size, 4, none⟩ (.int .i64 y4)).setCell ⟨w.heap.size, 5, none⟩ (.slice (some ⟨ge, 0, none⟩) es.length ce)).setCell ⟨w.heap.size, 6, none⟩ (.int .i64 ys)).setCell ⟨w.heap.size, 7, none⟩ (.slice (some ⟨gt, 0, none⟩) ts.length ct) = W5 := by rw [hW5]; simp only [setMany]
          have EW := hide eW
          clear eW hW5 hr5 G5 hr5' EE hr S8
          go_wp2
          rw [unhide EW]
          obtain ⟨⟨Q1, Q2, Q4⟩, Q3⟩ := unhide ER
          have r0 := cellIn (i := 0) Q3 rfl
          have r1 := cellIn (i := 1) Q3 rfl
          have r2 := cellIn (i := 2) Q3 rfl
          have r3 := cellIn (i := 3) Q3 rfl
          have r4 := cellIn (i := 4) Q3 rfl
          have r5 := cellIn (i := 5) Q3 rfl
          have r6 := cellIn (i := 6) Q3 rfl
          have r7 := cellIn (i := 7) Q3 rfl
          refine bodyPost_ret (v := .agg #[.int .i64 yi, .int .i64 y1, .int .i64 y2, .int .i64 y3, .int .i64 y4, .slice (some ⟨ge, 0, none⟩) es.length ce, .int .i64 ys, .slice (some ⟨gt, 0, none⟩) ts.length ct]) (by simp [results, Try.results38, go_sem, r0, r1, r2, r3, r4, r5, r6, r7]) rfl ?_
          exact ⟨.slice (some ⟨ge, 0, none⟩) es.length ce, .slice (some ⟨gt, 0, none⟩) ts.length ct, by rw [unhide FINX]; rfl, by rw [unhide FINX]; exact Q1, by rw [unhide FINX]; exact Q2, Q4⟩
      · have d1 : decide ((i : Int) < (m : Int)) = false := by simp; omega
        clear h1
        have OC := hide (once_is B g 10 s2 v1 (unhide S1).cur (by omega) (by omega))
        go_wp2_with fail
        refine (unhide OC).mono ?_
        rintro e v2 ⟨rfl, hc2, hg2⟩
        have S2 := hide (ls_cur (unhide S1) hc2 hg2)
        clear OC hc2 hg2 S1 c6
        cases hz : (s2.below 10 == 0) with
        | false =>
          have FINX : Hid (runDrawn s = (⟨id, ⟨p1, p2, p3, p4, es⟩, st, ts⟩, s2.step)) := hide (by rw [unhide FIN, unhide HGX]; dsimp only; rw [if_neg (by rw [hz]; decide)])
          clear hz
          have hr := (unhide S2).res
          unfold zeroR at hr
          obtain ⟨hr5, G5⟩ := setMany_is [(0, .int .i64 id), (1, .int .i64 p1), (2, .int .i64 p2), (3, .int .i64 p3), (4, .int .i64 p4), (5, .slice qe es.length me), (6, .int .i64 st), (7, .slice qt ts.length mt)] v2 _ hr
          have hr5' : (setMany v2 w.heap.size [(0, .int .i64 id), (1, .int .i64 p1), (2, .int .i64 p2), (3, .int .i64 p3), (4, .int .i64 p4), (5, .slice qe es.length me), (6, .int .i64 st), (7, .slice qt ts.length mt)]).heap[w.heap.size]? = some (.cells #[.int .i64 id, .int .i64 p1, .int .i64 p2, .int .i64 p3, .int .i64 p4, .slice qe es.length me, .int .i64 st, .slice qt ts.length mt] 29 (0, 0)) := by rw [hr5, put8]
          have EE := ls_end (unhide S2) G5
          have ER := hide (And.intro EE hr5')
          have z0 := cellIn (i := 0) hr rfl
          have x0 := softIn (i := 0) hr
          have z1 := cellIn (i := 1) hr rfl
          have x1 := softIn (i := 1) hr
          have z2 := cellIn (i := 2) hr rfl
          have x2 := softIn (i := 2) hr
          have z3 := cellIn (i := 3) hr rfl
          have x3 := softIn (i := 3) hr
          have z4 := cellIn (i := 4) hr rfl
          have x4 := softIn (i := 4) hr
          have z5 := cellIn (i := 5) hr rfl
          have x5 := softIn (i := 5) hr
          have z6 := cellIn (i := 6) hr rfl
          have x6 := softIn (i := 6) hr
          have z7 := cellIn (i := 7) hr rfl
          have x7 := softIn (i := 7) hr
          have hk := (unhide S2).bo
          unfold runC at hk
          dsimp only at hk
          have k0 := cellIn (i := 0) hk rfl
          have k1 := cellIn (i := 1) hk rfl
          have k2 := cellIn (i := 2) hk rfl
          have k3 := cellIn (i := 3) hk rfl
          have k4 := cellIn (i := 4) hk rfl
          have k5 := cellIn (i := 5) hk rfl
          have k6 := cellIn (i := 6) hk rfl
          have k7 := cellIn (i := 7) hk rfl
          clear hk
          obtain ⟨W5, hW5⟩ : ∃ W5, W5 = setMany v2 w.heap.size [(0, .int .i64 id), (1, .int .i64 p1), (2, .int .i64 p2), (3, .int .i64 p3), (4, .int .i64 p4), (5, .slice qe es.length me), (6, .int .i64 st), (7, .slice qt ts.length mt)] := ⟨_, rfl⟩
          rw [← hW5] at ER
          have eW : ((((((((v2).setCell ⟨w.heap.size, 0, none⟩ (.int .i64 id)).setCell ⟨w.heap.size, 1, none⟩ (.int .i64 p1)).setCell ⟨w.heap.size, 2, none⟩ (.int .i64 p2)).setCell ⟨w.heap.size, 3, none⟩ (.int .i64 p3)).setCell ⟨w.heap.size, 4, none⟩ (.int .i64 p4)).setCell ⟨w.heap.size, 5, none⟩ (.slice qe es.length me)).setCell ⟨w.heap.size, 6, none⟩ (.int .i64 st)).setCell ⟨w.heap.size, 7, none⟩ (.slice qt ts.length mt) = W5 := by rw [hW5]; simp only [setMany]
          have EW := hide eW
          clear eW hW5 hr5 G5 hr5' EE hr S2
          go_wp2
          rw [unhide EW]
          obtain ⟨⟨Q1, Q2, Q4⟩, Q3⟩ := unhide ER
          have r0 := cellIn (i := 0) Q3 rfl
          have r1 := cellIn (i := 1) Q3 rfl
          have r2 := cellIn (i := 2) Q3 rfl
          have r3 := cellIn (i := 3) Q3 rfl
          have r4 := cellIn (i := 4) Q3 rfl
          have r5 := cellIn (i := 5) Q3 rfl
          have r6 := cellIn (i := 6) Q3 rfl
          have r7 := cellIn (i := 7) Q3 rfl
          refine bodyPost_ret (v := .agg #[.int .i64 id, .int .i64 p1, .int .i64 p2, .int .i64 p3, .int .i64 p4, .slice qe es.length me, .int .i64 st, .slice qt ts.length mt]) (by simp [results, Try.results38, go_sem, r0, r1, r2, r3, r4, r5, r6, r7]) rfl ?_
          exact ⟨.slice qe es.length me, .slice qt ts.length mt, by rw [unhide FINX]; rfl, by rw [unhide FINX]; exact Q1, by rw [unhide FINX]; exact Q2, Q4⟩
        | true =>
          obtain ⟨r2, HL⟩ := left_ex ⟨id, ⟨p1, p2, p3, p4, es⟩, st, ts⟩
          have hr2 := leftR_is (unhide WL).ok HL
          have FINX : Hid (runDrawn s = (r2, s2.step)) := hide (by rw [unhide FIN, unhide HGX]; dsimp only; rw [if_pos hz, hr2])
          have LC := fun (W : World) (h1 : W.ownsRow (w.heap.size + 1) 96 2 (.slice qe es.length me) es.length (edgesC es)) (h2 : W.ownsRow (w.heap.size + 1) 40 4 (.slice qt ts.length mt) ts.length (quadsC ts)) => hide (specRunLeft_any (.slice qe es.length me) (.slice qt ts.length mt) (w.heap.size + 1) (w.heap.size + 1) ⟨id, ⟨p1, p2, p3, p4, es⟩, st, ts⟩ r2 HL W h1 h2 (by dsimp only; omega) (by dsimp only; omega))
          clear HL hr2 hz
          obtain ⟨yi, ⟨y1, y2, y3, y4, ye⟩, ys, yt⟩ := r2
          dsimp only [runV, runC] at LC
          have hk := (unhide S2).bo
          unfold runC at hk
          dsimp only at hk
          have k0 := cellIn (i := 0) hk rfl
          have k1 := cellIn (i := 1) hk rfl
          have k2 := cellIn (i := 2) hk rfl
          have k3 := cellIn (i := 3) hk rfl
          have k4 := cellIn (i := 4) hk rfl
          have k5 := cellIn (i := 5) hk rfl
          have k6 := cellIn (i := 6) hk rfl
          have k7 := cellIn (i := 7) hk rfl
          clear hk
          go_wp2_with fail
          refine (unhide (LC _ (unhide S2).ow.edges (unhide S2).ow.tasks)).mono ?_
          rintro e v3 ⟨ge, ce, gt, ct, rfl, ow3, hb3⟩
          have S3 := hide (ls_below (unhide S2) hb3)
          have OW3 := hide (runOwn_base ow3 (show w.heap.size + 1 ≤ v2.heap.size by have h1 := (Array.getElem?_eq_some_iff.1 (unhide S2).res).1; omega))
          clear k0 k1 k2 k3 k4 k5 k6 k7 S2 ow3 hb3 LC
          have hbo := (unhide S3).bo
          unfold runC at hbo
          dsimp only at hbo
          obtain ⟨hb8, G8⟩ := setMany_is [(0, .int .i64 yi), (1, .int .i64 y1), (2, .int .i64 y2), (3, .int .i64 y3), (4, .int .i64 y4), (5, .slice (some ⟨ge, 0, none⟩) es.length ce), (6, .int .i64 ys), (7, .slice (some ⟨gt, 0, none⟩) ts.length ct)] v3 _ hbo
          have hb8' : (setMany v3 o [(0, .int .i64 yi), (1, .int .i64 y1), (2, .int .i64 y2), (3, .int .i64 y3), (4, .int .i64 y4), (5, .slice (some ⟨ge, 0, none⟩) es.length ce), (6, .int .i64 ys), (7, .slice (some ⟨gt, 0, none⟩) ts.length ct)]).heap[o]? = some (.cells (runC ⟨yi, ⟨y1, y2, y3, y4, ye⟩, ys, yt⟩ (.slice (some ⟨ge, 0, none⟩) es.length ce) (.slice (some ⟨gt, 0, none⟩) ts.length ct)) 29 (0, 0)) := by rw [hb8, put8]; rfl
          have S8 := hide (ls_put (unhide S3) G8 hb8' (unhide OW3))
          obtain ⟨v8, hw8⟩ : ∃ v8, v8 = setMany v3 o [(0, .int .i64 yi), (1, .int .i64 y1), (2, .int .i64 y2), (3, .int .i64 y3), (4, .int .i64 y4), (5, .slice (some ⟨ge, 0, none⟩) es.length ce), (6, .int .i64 ys), (7, .slice (some ⟨gt, 0, none⟩) ts.length ct)] := ⟨_, rfl⟩
          have eW : ((((((((v3).setCell ⟨o, 0, none⟩ (.int .i64 yi)).setCell ⟨o, 1, none⟩ (.int .i64 y1)).setCell ⟨o, 2, none⟩ (.int .i64 y2)).setCell ⟨o, 3, none⟩ (.int .i64 y3)).setCell ⟨o, 4, none⟩ (.int .i64 y4)).setCell ⟨o, 5, none⟩ (.slice (some ⟨ge, 0, none⟩) es.length ce)).setCell ⟨o, 6, none⟩ (.int .i64 ys)).setCell ⟨o, 7, none⟩ (.slice (some ⟨gt, 0, none⟩) ts.length ct) = v8 := by rw [hw8]; simp only [setMany]
          rw [← hw8] at S8
          have EW := hide eW
          have z0 := cellIn (i := 0) hbo rfl
          have x0 := softIn (i := 0) hbo
          have z1 := cellIn (i := 1) hbo rfl
          have x1 := softIn (i := 1) hbo
          have z2 := cellIn (i := 2) hbo rfl
          have x2 := softIn (i := 2) hbo
          have z3 := cellIn (i := 3) hbo rfl
          have x3 := softIn (i := 3) hbo
          have z4 := cellIn (i := 4) hbo rfl
          have x4 := softIn (i := 4) hbo
          have z5 := cellIn (i := 5) hbo rfl
          have x5 := softIn (i := 5) hbo
          have z6 := cellIn (i := 6) hbo rfl
          have x6 := softIn (i := 6) hbo
          have z7 := cellIn (i := 7) hbo rfl
          have x7 := softIn (i := 7) hbo
          clear eW hw8 hb8 G8 hb8' hbo OW3 S3
          go_upto_region 15 with fail
          rw [unhide EW]
          clear EW z0 x0 z1 x1 z2 x2 z3 x3 z4 x4 z5 x5 z6 x6 z7 x7
          have hr := (unhide S8).res
          unfold zeroR at hr
          obtain ⟨hr5, G5⟩ := setMany_is [(0, .int .i64 yi), (1, .int .i64 y1), (2, .int .i64 y2), (3, .int .i64 y3), (4, .int .i64 y4), (5, .slice (some ⟨ge, 0, none⟩) es.length ce), (6, .int .i64 ys), (7, .slice (some ⟨gt, 0, none⟩) ts.length ct)] v8 _ hr
          have hr5' : (setMany v8 w.heap.size [(0, .int .i64 yi), (1, .int .i64 y1), (2, .int .i64 y2), (3, .int .i64 y3), (4, .int .i64 y4), (5, .slice (some ⟨ge, 0, none⟩) es.length ce), (6, .int .i64 ys), (7, .slice (some ⟨gt, 0, none⟩) ts.length ct)]).heap[w.heap.size]? = some (.cells #[.int .i64 yi, .int .i64 y1, .int .i64 y2, .int .i64 y3, .int .i64 y4, .slice (some ⟨ge, 0, none⟩) es.length ce, .int .i64 ys, .slice (some ⟨gt, 0, none⟩) ts.length ct] 29 (0, 0)) := by rw [hr5, put8]
          have EE := ls_end (unhide S8) G5
          have ER := hide (And.intro EE hr5')
          have z0 := cellIn (i := 0) hr rfl
          have x0 := softIn (i := 0) hr
          have z1 := cellIn (i := 1) hr rfl
          have x1 := softIn (i := 1) hr
          have z2 := cellIn (i := 2) hr rfl
          have x2 := softIn (i := 2) hr
          have z3 := cellIn (i := 3) hr rfl
          have x3 := softIn (i := 3) hr
          have z4 := cellIn (i := 4) hr rfl
          have x4 := softIn (i := 4) hr
          have z5 := cellIn (i := 5) hr rfl
          have x5 := softIn (i := 5) hr
          have z6 := cellIn (i := 6) hr rfl
          have x6 := softIn (i := 6) hr
          have z7 := cellIn (i := 7) hr rfl
          have x7 := softIn (i := 7) hr
          have hk := (unhide S8).bo
          unfold runC at hk
          dsimp only at hk
          have k0 := cellIn (i := 0) hk rfl
          have k1 := cellIn (i := 1) hk rfl
          have k2 := cellIn (i := 2) hk rfl
          have k3 := cellIn (i := 3) hk rfl
          have k4 := cellIn (i := 4) hk rfl
          have k5 := cellIn (i := 5) hk rfl
          have k6 := cellIn (i := 6) hk rfl
          have k7 := cellIn (i := 7) hk rfl
          clear hk
          obtain ⟨W5, hW5⟩ : ∃ W5, W5 = setMany v8 w.heap.size [(0, .int .i64 yi), (1, .int .i64 y1), (2, .int .i64 y2), (3, .int .i64 y3), (4, .int .i64 y4), (5, .slice (some ⟨ge, 0, none⟩) es.length ce), (6, .int .i64 ys), (7, .slice (some ⟨gt, 0, none⟩) ts.length ct)] := ⟨_, rfl⟩
          rw [← hW5] at ER
          have eW : ((((((((v8).setCell ⟨w.heap.size, 0, none⟩ (.int .i64 yi)).setCell ⟨w.heap.size, 1, none⟩ (.int .i64 y1)).setCell ⟨w.heap.size, 2, none⟩ (.int .i64 y2)).setCell ⟨w.heap.size, 3, none⟩ (.int .i64 y3)).setCell ⟨w.heap.size, 4, none⟩ (.int .i64 y4)).setCell ⟨w.heap.size, 5, none⟩ (.slice (some ⟨ge, 0, none⟩) es.length ce)).setCell ⟨w.heap.size, 6, none⟩ (.int .i64 ys)).setCell ⟨w.heap.size, 7, none⟩ (.slice (some ⟨gt, 0, none⟩) ts.length ct) = W5 := by rw [hW5]; simp only [setMany]
          have EW := hide eW
          clear eW hW5 hr5 G5 hr5' EE hr S8
          go_wp2
          rw [unhide EW]
          obtain ⟨⟨Q1, Q2, Q4⟩, Q3⟩ := unhide ER
          have r0 := cellIn (i := 0) Q3 rfl
          have r1 := cellIn (i := 1) Q3 rfl
          have r2 := cellIn (i := 2) Q3 rfl
          have r3 := cellIn (i := 3) Q3 rfl
          have r4 := cellIn (i := 4) Q3 rfl
          have r5 := cellIn (i := 5) Q3 rfl
          have r6 := cellIn (i := 6) Q3 rfl
          have r7 := cellIn (i := 7) Q3 rfl
          refine bodyPost_ret (v := .agg #[.int .i64 yi, .int .i64 y1, .int .i64 y2, .int .i64 y3, .int .i64 y4, .slice (some ⟨ge, 0, none⟩) es.length ce, .int .i64 ys, .slice (some ⟨gt, 0, none⟩) ts.length ct]) (by simp [results, Try.results38, go_sem, r0, r1, r2, r3, r4, r5, r6, r7]) rfl ?_
          exact ⟨.slice (some ⟨ge, 0, none⟩) es.length ce, .slice (some ⟨gt, 0, none⟩) ts.length ct, by rw [unhide FINX]; rfl, by rw [unhide FINX]; exact Q1, by rw [unhide FINX]; exact Q2, Q4⟩
end Go.Proofs.Ytnpfboligmnhpaa
