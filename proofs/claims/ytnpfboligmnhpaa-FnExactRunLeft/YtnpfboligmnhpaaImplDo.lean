/- The walks of the program's finish and fail. -/
import Derived.Test.YtnpfboligmnhpaaImplTold
import Derived.Deep.RegionHeld3
import Derived.Deep.DeepCutAuto
import Derived.Deep.QuietTactic
import Derived.BigQuiet
namespace Go.Proofs.Ytnpfboligmnhpaa
open Go.RowKit
open scoped Classical
set_option linter.unusedVariables false
set_option linter.unusedSimpArgs false
attribute [local go_sem ↓] Go.wp_at_zero Go.wp_at_succ

set_option maxRecDepth 100000 in
set_option maxHeartbeats 3200000 in
theorem fail_any (B b : Nat) (vE vT : Value) (q : RunL) (t : Int) (W : World) (h : RB W B b vE vT q) (hr : RunsA q t) :
    Calls Try.prog 51 #[.pointer (some ⟨b, 0, none⟩), .int .i64 t] W fun e w' => e = .returned (.tuple #[]) ∧ RB w' B b vE vT (failR q t.toNat) ∧ Below B W w' := by
  obtain ⟨n, k, rfl, hk, hlen, h12, hgone⟩ := fail_facts hr
  clear hr
  obtain ⟨QF, hQF⟩ : ∃ QF : RunL, QF = failR q k := ⟨_, rfl⟩
  rw [Int.toNat_natCast, ← hQF]
  obtain ⟨at_, ct, rfl, sgt⟩ := ownsRow_shape h.ow.tasks
  have hkt : k < q.tasks.length := by omega
  obtain ⟨gt, rfl⟩ := sgt (by omega)
  have hk0 : (0 : Int) ≤ (k : Int) := Int.natCast_nonneg _
  have hk1 : (k : Int) < (q.tasks.length : Int) := by omega
  have d7 : W.cell? ⟨b, 7, none⟩ = some (.slice (some ⟨gt, 0, none⟩) q.tasks.length ct) := cellIn (i := 7) h.bo rfl
  have d2 : W.cell? ⟨b, 2, none⟩ = some (.int .i64 q.plan.most) := cellIn (i := 2) h.bo rfl
  obtain ⟨c1, c2, c3, c4⟩ := quadsC_cell h.ow.tasks hkt
  have HG := hide (getD_at hkt)
  have H0 := hide h
  have HQF : Hid (QF = if (q.tasks.getD k quad0).c < q.plan.most then ⟨q.id, q.plan, q.state, q.tasks.set k ⟨2, (q.tasks.getD k quad0).b, (q.tasks.getD k quad0).c, 0⟩⟩ else ⟨q.id, q.plan, 3, (q.tasks.set k ⟨5, (q.tasks.getD k quad0).b, (q.tasks.getD k quad0).c, 0⟩).map leaveQ⟩) := hide (by rw [hQF]; rfl)
  have HGO := hide hgone
  have TB := fun (q' : RunL) (s : Int) (W' : World) (h' : RB W' B b vE (.slice (some ⟨gt, 0, none⟩) q.tasks.length ct) q') (hk' : k < q'.tasks.length) => hide (tbecome_any B b gt q.tasks.length ct k vE q' s W' h' hk')
  have LV := fun (W' : World) (h' : RB W' B b vE (.slice (some ⟨gt, 0, none⟩) q.tasks.length ct) q) => hide (leave_any B b vE _ q W' h' (by omega))
  have RS := fun (q' : RunL) (W' : World) (h' : RB W' B b vE (.slice (some ⟨gt, 0, none⟩) q.tasks.length ct) q') => hide (rbecome_any B b vE _ q' 3 W' h')
  clear hlen
  have HC : Hid ((q.tasks.getD k quad0).c = q.tasks[k].c) := hide (by rw [unhide HG])
  generalize q.tasks[k].c = xc at c3 HC
  generalize q.plan.most = mo at d2 HQF
  clear hQF hgone h c1 c2 c4 sgt
  go_enter Try.func51, Try.ntmps51
  go_upto_region 1 with fail
  clear d7
  by_cases hlt : xc < mo
  · have HF := unhide HQF
    rw [unhide HC, if_pos hlt] at HF
    have HFF := hide HF
    have dl : decide (xc < mo) = true := decide_eq_true hlt
    clear HF LV RS HQF HGO HG hlt
    go_quiet (fail)
    have H1 := hide (rb_below (unhide H0) (show Below W.heap.size W (W.drewN nq) from ⟨rfl, rfl, rfl, Nat.le_refl _, fun _ _ => rfl⟩))
    have HB1 := hide (show Below B W (W.drewN nq) from ⟨rfl, rfl, rfl, Nat.le_refl _, fun _ _ => rfl⟩)
    generalize W.drewN nq = W1 at H1 HB1 ⊢
    clear H0 c3 d2
    have T1 := TB _ 2 W1 (unhide H1) hkt
    clear TB
    go_wp2_with fail
    refine (unhide T1).mono ?_
    rintro e w2 ⟨rfl, hR2, hb2, -⟩
    rw [unhide HC] at hR2
    rw [← unhide HFF] at hR2
    have HR := hide (And.intro hR2 ((unhide HB1).trans hb2))
    clear hR2 hb2 T1 H1 HB1
    go_wp2
    refine bodyPost_ret (results_none rfl _ _ _) rfl ?_
    exact ⟨rfl, (unhide HR).1, (unhide HR).2⟩
  · have HF := unhide HQF
    rw [if_neg (by rw [unhide HC]; exact hlt), ← unhide HGO] at HF
    have HFF := hide HF
    have dl : decide (xc < mo) = false := decide_eq_false hlt
    clear HF HQF HGO HG HC hlt
    go_quiet (fail)
    have H1 := hide (rb_below (unhide H0) (show Below W.heap.size W (W.drewN nq) from ⟨rfl, rfl, rfl, Nat.le_refl _, fun _ _ => rfl⟩))
    have HB1 := hide (show Below B W (W.drewN nq) from ⟨rfl, rfl, rfl, Nat.le_refl _, fun _ _ => rfl⟩)
    generalize W.drewN nq = W1 at H1 HB1 ⊢
    clear H0 c3 d2
    have L1 := LV W1 (unhide H1)
    clear LV
    go_wp2_with fail
    refine (unhide L1).mono ?_
    rintro e w2 ⟨rfl, hR2, hb2⟩
    have T2 := TB _ 5 w2 hR2 (by rw [List.length_map]; exact hkt)
    have HB2 := hide ((unhide HB1).trans hb2)
    clear hR2 hb2 L1 H1 HB1 TB
    go_wp2_with fail
    refine (unhide T2).mono ?_
    rintro e w3 ⟨rfl, hR3, hb3, -⟩
    have S3 := RS _ w3 hR3
    have HB3 := hide ((unhide HB2).trans hb3)
    clear hR3 hb3 T2 HB2 RS
    go_wp2_with fail
    refine (unhide S3).mono ?_
    rintro e w4 ⟨rfl, hR4, hb4⟩
    try dsimp only at hR4
    rw [← unhide HFF] at hR4
    have HR := hide (And.intro hR4 ((unhide HB3).trans hb4))
    clear hR4 hb4 S3 HB3
    go_wp2
    go_end0
    exact ⟨rfl, (unhide HR).1, (unhide HR).2⟩
set_option maxRecDepth 100000 in
set_option maxHeartbeats 3200000 in
theorem finish_any (B b : Nat) (vE vT : Value) (q : RunL) (t : Int) (W : World) (h : RB W B b vE vT q) (hr : RunsA q t) :
    Calls Try.prog 50 #[.pointer (some ⟨b, 0, none⟩), .int .i64 t] W fun e w' => e = .returned (.tuple #[]) ∧ RB w' B b vE vT (doneR q t.toNat) ∧ Below B W w' := by
  obtain ⟨n, k, rfl, hk, hpt, hlen, h12, hel, hbeh, hst, hs1, hf1, hf2, hft⟩ := fin_facts hr
  clear hr
  obtain ⟨QF, hQF⟩ : ∃ QF : RunL, QF = doneR q k := ⟨_, rfl⟩
  rw [Int.toNat_natCast, ← hQF]
  obtain ⟨ae, ce, rfl, sge⟩ := ownsRow_shape h.ow.edges
  obtain ⟨at_, ct, rfl, sgt⟩ := ownsRow_shape h.ow.tasks
  have hkt : k < q.tasks.length := by omega
  obtain ⟨gt, rfl⟩ := sgt (by omega)
  have hk0 : (0 : Int) ≤ (k : Int) := Int.natCast_nonneg _
  have hk1 : (k : Int) < (q.tasks.length : Int) := by omega
  have hel2 : q.plan.edges.length ≤ 2000000 := by omega
  have d7 : W.cell? ⟨b, 7, none⟩ = some (.slice (some ⟨gt, 0, none⟩) q.tasks.length ct) := cellIn (i := 7) h.bo rfl
  have T1 := hide (tbecome_any B b gt q.tasks.length ct k (.slice ae q.plan.edges.length ce) q 4 W h hkt)
  have BH := fun (W' : World) (h' : W'.ownsRow B 96 2 (.slice ae q.plan.edges.length ce) q.plan.edges.length (edgesC q.plan.edges)) => hide (implBehindOf_any (.slice ae q.plan.edges.length ce) B q.plan 0 (k : Int) W' h' hel2 hft (by decide) (by decide))
  have TW := fun (q' : RunL) (m : Nat) (nd : Int) (W' : World) (h' : RB W' B b (.slice ae q.plan.edges.length ce) (.slice (some ⟨gt, 0, none⟩) q.tasks.length ct) q') (hk' : m < q'.tasks.length) => hide (twait_any B b gt q.tasks.length ct m (.slice ae q.plan.edges.length ce) q' nd W' h' hk')
  have FS2 := fun (ts' : List QuadL) (W' : World) (h' : W'.ownsRow B 40 4 (.slice (some ⟨gt, 0, none⟩) q.tasks.length ct) ts'.length (quadsC ts')) (hm : ts'.length ≤ 2000000) (hin : ∀ x ∈ ts', 1 ≤ x.a ∧ x.a ≤ 6) => hide (implFits_any 2 _ B ts' W' h' hm hin)
  have RS := fun (q' : RunL) (W' : World) (h' : RB W' B b (.slice ae q.plan.edges.length ce) (.slice (some ⟨gt, 0, none⟩) q.tasks.length ct) q') => hide (rbecome_any B b _ _ q' 2 W' h')
  obtain ⟨LL, hLL⟩ : ∃ LL, LL = behA q.plan 0 (k : Int) := ⟨_, rfl⟩
  rw [← hLL] at BH
  have hL2 : LL = risen (fun t => hasE q.plan.edges (k : Int) t) n := by rw [hLL]; unfold behA; rw [if_pos rfl, hpt, Int.toNat_natCast]
  rw [← hL2] at hbeh
  have hnd : LL.Nodup := by rw [hL2]; exact risen_nd _ _
  have hll : LL.length ≤ 12 := by rw [hL2]; have := risen_len (fun t => hasE q.plan.edges (k : Int) t) n; omega
  have hall : doneTo q.tasks k LL = mapT q.tasks (doneF q.plan k) := by rw [hL2]; exact doneTo_all q.plan q.tasks k n hlen
  have HQF : Hid (QF = ⟨q.id, q.plan, stateA (doneTo q.tasks k LL), doneTo q.tasks k LL⟩) := hide (by rw [hQF, hall]; rfl)
  rw [← hall] at hst hf1 hf2
  have HBEH := hide hbeh
  have HND := hide hnd
  have HST := hide (And.intro hst (And.intro hs1 (And.intro hf1 hf2)))
  have HNIL := hide (doneTo_nil q.tasks k)
  clear hQF hLL hL2 hbeh hnd hall hst hs1 hf1 hf2 hft hpt sgt sge
  go_enter Try.func50, Try.ntmps50
  go_wp2_with fail
  refine (unhide T1).mono ?_
  rintro e w1 ⟨rfl, hR1, hb1, -⟩
  rw [← unhide HNIL] at hR1
  have HR1 := hide (And.intro hR1 hb1)
  have e1 : w1.cell? ⟨b, 1, none⟩ = some (.int .i64 q.plan.prio) := cellIn (i := 1) hR1.bo rfl
  have e2 : w1.cell? ⟨b, 2, none⟩ = some (.int .i64 q.plan.most) := cellIn (i := 2) hR1.bo rfl
  have e3 : w1.cell? ⟨b, 3, none⟩ = some (.int .i64 q.plan.wait) := cellIn (i := 3) hR1.bo rfl
  have e4 : w1.cell? ⟨b, 4, none⟩ = some (.int .i64 q.plan.tasks) := cellIn (i := 4) hR1.bo rfl
  have e5 : w1.cell? ⟨b, 5, none⟩ = some (.slice ae q.plan.edges.length ce) := cellIn (i := 5) hR1.bo rfl
  have BH1 := BH w1 hR1.ow.edges
  unfold planV at BH1
  have HLN := hide hlen
  clear hlen
  clear d7 T1 hR1 hb1 h BH HNIL
  go_wp2_with fail
  refine (unhide BH1).mono ?_
  rintro e w2 ⟨v, rfl, oL, hb2⟩
  obtain ⟨al, cl, rfl, sgl⟩ := ownsRow_shape oL
  have HR2 := hide (show RB w2 B b _ _ _ ∧ Below B W w2 from ⟨rb_below (unhide HR1).1 hb2, (unhide HR1).2.trans (hb2.mono (unhide HR1).1.sz)⟩)
  have HOL := hide oL
  have hs12 := hide (show B ≤ w1.heap.size from (unhide HR1).1.sz)
  clear e1 e2 e3 e4 e5 BH1 oL hb2 HR1
  go_wp2
  go_loopw [21] (fun v wr => ∃ i : Nat, i ≤ LL.length ∧ v = .int .i64 i ∧ Hid (RB wr B b (.slice ae q.plan.edges.length ce) (.slice (some ⟨gt, 0, none⟩) q.tasks.length ct) ⟨q.id, q.plan, q.state, doneTo q.tasks k (LL.take i)⟩ ∧ Below B W wr ∧ wr.ownsRow w1.heap.size 3 1 (.slice al LL.length cl) LL.length (intC LL)))
    (fun v _ => LL.length - (intOf v).toNat)
  case atStart => exact ⟨0, Nat.zero_le _, rfl, hide ⟨by rw [List.take_zero]; exact (unhide HR2).1, (unhide HR2).2, unhide HOL⟩⟩
  case round =>
    clear HR2 HOL
    obtain ⟨i, hi, rfl, HH⟩ := hrel
    by_cases hlt : i < LL.length
    · obtain ⟨gl, rfl⟩ := sgl (by omega)
      have hi0 : (0 : Int) ≤ (i : Int) := Int.natCast_nonneg _
      have hi1 : (i : Int) < (LL.length : Int) := by omega
      obtain ⟨m, hm1, hmn, hmk, hw, hb0, hb12⟩ := unhide HBEH LL[i] (List.getElem_mem hlt)
      have cL := intC_cell (unhide HH).2.2 rfl hlt
      have HT := hide (List.take_succ_eq_append_getElem hlt)
      have HNI : Hid ((m : Int) ∉ LL.take i) := hide (fun hm2 => by
        obtain ⟨j, hj, he⟩ := List.mem_take_iff_getElem.1 hm2
        rw [← hm1] at he
        exact (List.pairwise_iff_getElem.1 (List.nodup_iff_pairwise_ne.1 (unhide HND)) j i (by omega) hlt (by omega)) he)
      rw [hm1] at cL HT
      have hmt2 : m < q.tasks.length := by have := unhide HLN; omega
      have hmt : m < (doneTo q.tasks k (LL.take i)).length := by rw [doneTo_len]; exact hmt2
      have hat := doneTo_at q.tasks k m (LL.take i) hmt2 hmk (unhide HNI)
      have HSN := hide (doneTo_snoc q.tasks k m (LL.take i) hmk (unhide HNI))
      have d7 : wr.cell? ⟨b, 7, none⟩ = some (.slice (some ⟨gt, 0, none⟩) q.tasks.length ct) := cellIn (i := 7) (unhide HH).1.bo rfl
      have ow := (unhide HH).1.ow.tasks
      dsimp only at ow
      rw [doneTo_len] at ow
      obtain ⟨c1, c2, c3, c4⟩ := quadsC_cell ow hmt
      have HOW := hide ow
      have hg := getD_at hmt
      rw [hat] at hg
      rw [← hg] at c2
      have D := TW _ m ((q.tasks.getD m quad0).b - 1) wr (unhide HH).1 hmt
      dsimp only at D
      rw [hat, hw, unhide HSN, ← unhide HT] at D
      obtain ⟨xb, hxb⟩ : ∃ xb : Int, xb = (q.tasks.getD m quad0).b := ⟨_, rfl⟩
      rw [← hxb] at c2 hb0 hb12 D
      have hm0 : (0 : Int) ≤ (m : Int) := Int.natCast_nonneg _
      have hm1b : (m : Int) < (q.tasks.length : Int) := by omega
      have D2 := D
      clear D ow hg hat hw hxb HSN HT HNI c1 c3 c4 hm1
      go_wp2_with fail
      refine (unhide D2).mono ?_
      rintro e w3 ⟨rfl, hR3, hb3, hg3⟩
      have HH2 := hide (And.intro hR3 (And.intro ((unhide HH).2.1.trans hb3) (rowFar (v := .slice (some ⟨gt, 0, none⟩) q.tasks.length ct) hg3 (unhide HOW) (unhide HH).2.2 (by decide))))
      clear hR3 hb3 hg3 HOW D2 d7 c2 cL HH
      go_wp2
      go_roundw
      case rel => exact ⟨i + 1, by omega, by go_num, HH2⟩
      case measure => simp [intOf]; omega
    · have hke : LL.take i = LL := List.take_of_length_le (by omega)
      rw [hke] at HH
      clear hke
      have d7 : wr.cell? ⟨b, 7, none⟩ = some (.slice (some ⟨gt, 0, none⟩) q.tasks.length ct) := cellIn (i := 7) (unhide HH).1.bo rfl
      have ow := (unhide HH).1.ow.tasks
      dsimp only at ow
      have hdl := doneTo_len q.tasks k LL
      have F1 := FS2 (doneTo q.tasks k LL) wr (by exact ow) (by have := unhide HLN; omega) (unhide HST).1
      clear ow hdl FS2 TW
      cases hff : fitsS 2 (doneTo q.tasks k LL)
      · have hQ := unhide HQF
        rw [(unhide HST).2.2.2 hff, ← (unhide HST).2.1] at hQ
        rw [hff] at F1
        have HQ := hide hQ
        clear hff hQ
        go_wp2_with fail
        refine (unhide F1).mono ?_
        rintro e w3 ⟨rfl, hb3⟩
        have R3 := rb_below (unhide HH).1 hb3
        rw [← unhide HQ] at R3
        have HR := hide (And.intro R3 ((unhide HH).2.1.trans (hb3.mono (unhide HH).1.sz)))
        clear R3 hb3 F1 HH d7
        go_wp2
        go_end0
        exact ⟨rfl, (unhide HR).1, (unhide HR).2⟩
      · have hQ := unhide HQF
        rw [(unhide HST).2.2.1 hff] at hQ
        rw [hff] at F1
        have HQ := hide hQ
        clear hff hQ
        go_wp2_with fail
        refine (unhide F1).mono ?_
        rintro e w3 ⟨rfl, hb3⟩
        have S3 := RS _ w3 (rb_below (unhide HH).1 hb3)
        have HB3 := hide ((unhide HH).2.1.trans (hb3.mono (unhide HH).1.sz))
        clear hb3 F1 HH d7 RS
        go_wp2_with fail
        refine (unhide S3).mono ?_
        rintro e w4 ⟨rfl, R4, hb4⟩
        try dsimp only at R4
        rw [← unhide HQ] at R4
        have HR := hide (And.intro R4 ((unhide HB3).trans hb4))
        clear R4 hb4 S3 HB3
        go_wp2
        go_end0
        exact ⟨rfl, (unhide HR).1, (unhide HR).2⟩
end Go.Proofs.Ytnpfboligmnhpaa
