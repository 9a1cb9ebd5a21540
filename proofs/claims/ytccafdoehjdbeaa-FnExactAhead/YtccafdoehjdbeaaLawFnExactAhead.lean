/- For every two entries handed in, spec.Ahead and impl.Ahead of the given code answer the same, and nothing that was handed in is written: the statement FnExactAhead holds at every argument. -/
import Derived.Test.YtccafdoehjdbeaaRows
import Derived.WalkKit
import Derived.ProofKit
import Derived.OpenShut
import Derived.ShutString
import Derived.Test.YtccafdoehjdbeaaSpecMerged
import Derived.Test.YtccafdoehjdbeaaRowBase
import Derived.Test.YtccafdoehjdbeaaImplShelf
import Derived.Test.YtccafdoehjdbeaaEntryOpen
namespace Go.Proofs.Ytccafdoehjdbeaa.fnExactAhead
open Go.ChangeShapes Go.WideShapes Go.ChangeAt Go.RowKit
open Go.ChangeMaps (open_string shut_string)
open scoped Classical
set_option linter.unusedVariables false

theorem own : ownKnob Try.prog.godebug = none := by kernel_rfl
theorem laidOut : laidOutB Try.prog = true := by kernel_rfl

set_option maxRecDepth 100000 in
set_option maxHeartbeats 1600000 in
theorem walk (w : World) (f0 : QuadL) (f1 : QuadL)   :
    Calls Try.prog 4 #[quadV f0, quadV f1] w fun e w' => e = .returned (.bool true) ∧ Below w.heap.size w w' := by
  obtain ⟨qa0, qb0, qc0, qd0⟩ := f0
  obtain ⟨qa1, qb1, qc1, qd1⟩ := f1
  dsimp only [quadV]
  go_enter Try.func4, Try.ntmps4
  go_wp2_with fail
  obtain ⟨W0, hW0⟩ : ∃ W0, W0 = (w.alloc (Obj.cells #[.int .i64 qa0, .int .i64 qb0, .int .i64 qc0, .int .i64 qd0] 39)).alloc (Obj.cells #[.int .i64 qa1, .int .i64 qb1, .int .i64 qc1, .int .i64 qd1] 39) := ⟨_, rfl⟩
  have Y0 : Hid (W0.heap[w.heap.size]? = some (.cells #[.int .i64 qa0, .int .i64 qb0, .int .i64 qc0, .int .i64 qd0] 39 (0, 0))) := by rw [hW0]; exact hide (by rw [Below.heap_alloc _ _ _ (by simp)]; exact allocAt _ _ _ (by simp))
  have Y1 : Hid (W0.heap[w.heap.size + 1]? = some (.cells #[.int .i64 qa1, .int .i64 qb1, .int .i64 qc1, .int .i64 qd1] 39 (0, 0))) := by rw [hW0]; exact hide (by exact allocAt _ _ _ (by simp))
  have z0 : Below w.heap.size w W0 := by rw [hW0]; exact ((Below.refl _ _).alloc (by simp) _).alloc (by simp) _
  have zW : w.heap.size + 2 ≤ W0.heap.size := by rw [hW0]; simp
  rw [← hW0]
  clear hW0
  have u0 : Below W0.heap.size W0 W0 := Below.refl _ _
  have y0_0_0 := cell_later u0 (cellIn (i := 0) (unhide Y0) rfl)
  have y0_0_1 := cell_later u0 (cellIn (i := 1) (unhide Y0) rfl)
  have y0_0_2 := cell_later u0 (cellIn (i := 2) (unhide Y0) rfl)
  have y0_0_3 := cell_later u0 (cellIn (i := 3) (unhide Y0) rfl)
  have y1_0_0 := cell_later u0 (cellIn (i := 0) (unhide Y1) rfl)
  have y1_0_1 := cell_later u0 (cellIn (i := 1) (unhide Y1) rfl)
  have y1_0_2 := cell_later u0 (cellIn (i := 2) (unhide Y1) rfl)
  have y1_0_3 := cell_later u0 (cellIn (i := 3) (unhide Y1) rfl)
  obtain ⟨bb, hbb⟩ : ∃ b, aheadB (⟨qa0, qb0, qc0, qd0⟩ : QuadL) (⟨qa1, qb1, qc1, qd1⟩ : QuadL) = b := ⟨_, rfl⟩
  have bne : (bb != bb) = false := by simp
  have SP := fun W => hide (specAhead_any (⟨qa0, qb0, qc0, qd0⟩ : QuadL) (⟨qa1, qb1, qc1, qd1⟩ : QuadL) W)
  rw [hbb] at SP
  dsimp only [quadV] at SP
  refine wp_region_held_drew (S := fun w' => w'.cell? ⟨w.heap.size, 0, none⟩ = some (.int .i64 qa0) ∧ w'.cell? ⟨w.heap.size, 1, none⟩ = some (.int .i64 qb0) ∧ w'.cell? ⟨w.heap.size, 2, none⟩ = some (.int .i64 qc0) ∧ w'.cell? ⟨w.heap.size, 3, none⟩ = some (.int .i64 qd0) ∧ w'.cell? ⟨w.heap.size + 1, 0, none⟩ = some (.int .i64 qa1) ∧ w'.cell? ⟨w.heap.size + 1, 1, none⟩ = some (.int .i64 qb1) ∧ w'.cell? ⟨w.heap.size + 1, 2, none⟩ = some (.int .i64 qc1) ∧ w'.cell? ⟨w.heap.size + 1, 3, none⟩ = some (.int .i64 qd1)) (by kernel_rfl) ⟨y0_0_0, y0_0_1, y0_0_2, y0_0_3, y1_0_0, y1_0_1, y1_0_2, y1_0_3⟩ (fun hS => ?_)
  obtain ⟨V0, hV0⟩ : ∃ V0, V0 = W0.drew := ⟨_, rfl⟩
  have hB0 : Below W0.heap.size W0 V0 := by rw [hV0]; exact (Below.refl _ _).drew
  rw [← hV0] at hS ⊢
  clear hV0
  refine wpAnyH_take (i := 0) (v := .agg #[.int .i64 qa0, .int .i64 qb0, .int .i64 qc0, .int .i64 qd0]) rfl (by kernel_rfl) (by kernel_rfl) (by kernel_rfl) (fun _ _ _ h => h) (Or.inl ⟨by kernel_rfl, fun w hSw => by (try dsimp only at hSw); go_split_ands; go_simp⟩) (by assumption) ?_
  simp only [Act.put, List.getElem_toArray, List.getElem_cons_zero, List.setIfInBounds_toArray, List.set_cons_zero, List.set_cons_succ]
  refine wpAnyH_take (i := 2) (v := .agg #[.int .i64 qa1, .int .i64 qb1, .int .i64 qc1, .int .i64 qd1]) rfl (by kernel_rfl) (by kernel_rfl) (by kernel_rfl) (fun _ _ _ h => h) (Or.inl ⟨by kernel_rfl, fun w hSw => by (try dsimp only at hSw); go_split_ands; go_simp⟩) (by assumption) ?_
  simp only [Act.put, List.getElem_toArray, List.getElem_cons_zero, List.getElem_cons_succ, List.setIfInBounds_toArray, List.set_cons_zero, List.set_cons_succ]
  refine wpAnyH_ready (rs := [1]) (by kernel_rfl) (by simp) ?_
  refine AllReadyH.cons (i := 1) rfl (fun K hK => ?_) AllReadyH.nil
  go_simp
  refine (toEntry_any (⟨qa0, qb0, qc0, qd0⟩ : QuadL) _).mono ?_
  rintro e V1 ⟨rfl, hb_⟩
  try dsimp only [quadV]
  have hB1 := hB0.trans (hb_.mono hB0.size)
  go_wp2_with fail
  refine hK.out _ _ ⟨cell_later hB1 y0_0_0, cell_later hB1 y0_0_1, cell_later hB1 y0_0_2, cell_later hB1 y0_0_3, cell_later hB1 y1_0_0, cell_later hB1 y1_0_1, cell_later hB1 y1_0_2, cell_later hB1 y1_0_3⟩ (fun hH0 => ?_)
  clear hK hb_ hS hB0
  try simp only [Act.put, List.getElem_toArray, List.getElem_cons_zero, List.getElem_cons_succ, List.setIfInBounds_toArray, List.set_cons_zero, List.set_cons_succ]
  refine wpAnyH_ready (rs := [3]) (by kernel_rfl) (by simp) ?_
  refine AllReadyH.cons (i := 3) rfl (fun K hK => ?_) AllReadyH.nil
  go_simp
  refine (toEntry_any (⟨qa1, qb1, qc1, qd1⟩ : QuadL) _).mono ?_
  rintro e V2 ⟨rfl, hb_⟩
  try dsimp only [quadV]
  have hB2 := hB1.trans (hb_.mono hB1.size)
  go_wp2_with fail
  refine hK.out _ _ ⟨cell_later hB2 y0_0_0, cell_later hB2 y0_0_1, cell_later hB2 y0_0_2, cell_later hB2 y0_0_3, cell_later hB2 y1_0_0, cell_later hB2 y1_0_1, cell_later hB2 y1_0_2, cell_later hB2 y1_0_3⟩ (fun hH1 => ?_)
  clear hK hb_ hH0 hB1
  try simp only [Act.put, List.getElem_toArray, List.getElem_cons_zero, List.getElem_cons_succ, List.setIfInBounds_toArray, List.set_cons_zero, List.set_cons_succ]
  refine wpAnyH_ready (rs := [4]) (by kernel_rfl) (by simp) ?_
  refine AllReadyH.cons (i := 4) rfl (fun K hK => ?_) AllReadyH.nil
  go_simp
  refine (unhide (SP _)).mono ?_
  rintro e V3 ⟨rfl, hb_⟩
  try dsimp only [quadV]
  have hB3 := hB2.trans (hb_.mono hB2.size)
  go_wp2_with fail
  refine hK.out _ _ ⟨cell_later hB3 y0_0_0, cell_later hB3 y0_0_1, cell_later hB3 y0_0_2, cell_later hB3 y0_0_3, cell_later hB3 y1_0_0, cell_later hB3 y1_0_1, cell_later hB3 y1_0_2, cell_later hB3 y1_0_3⟩ (fun hH2 => ?_)
  clear hK hb_ hH1 hB2
  try simp only [Act.put, List.getElem_toArray, List.getElem_cons_zero, List.getElem_cons_succ, List.setIfInBounds_toArray, List.set_cons_zero, List.set_cons_succ]
  refine wpAnyH_take (i := 5) (v := .bool bb) rfl (by kernel_rfl) (by kernel_rfl) (by kernel_rfl) (fun _ _ _ h => h) (Or.inl ⟨by kernel_rfl, fun w hSw => by (try dsimp only at hSw); go_split_ands; go_simp⟩) (by assumption) ?_
  simp only [Act.put, List.getElem_toArray, List.getElem_cons_zero, List.getElem_cons_succ, List.setIfInBounds_toArray, List.set_cons_zero, List.set_cons_succ]
  refine wpAnyH_done (by kernel_rfl) ?_ _
  clear hH2
  have hb := hB3
  clear hB3
  obtain ⟨w1, hwe⟩ : ∃ W, W = V3 := ⟨_, rfl⟩
  rw [← hwe] at hb ⊢
  clear hwe
  have u1 := u0.trans (hb.mono u0.size)
  have y0_1_0 := cell_later u1 (cellIn (i := 0) (unhide Y0) rfl)
  have y0_1_1 := cell_later u1 (cellIn (i := 1) (unhide Y0) rfl)
  have y0_1_2 := cell_later u1 (cellIn (i := 2) (unhide Y0) rfl)
  have y0_1_3 := cell_later u1 (cellIn (i := 3) (unhide Y0) rfl)
  have y1_1_0 := cell_later u1 (cellIn (i := 0) (unhide Y1) rfl)
  have y1_1_1 := cell_later u1 (cellIn (i := 1) (unhide Y1) rfl)
  have y1_1_2 := cell_later u1 (cellIn (i := 2) (unhide Y1) rfl)
  have y1_1_3 := cell_later u1 (cellIn (i := 3) (unhide Y1) rfl)
  clear hb y0_0_0 y0_0_1 y0_0_2 y0_0_3 y1_0_0 y1_0_1 y1_0_2 y1_0_3 u0
  clear SP
  have SP := fun W => hide (implAhead_any (⟨qa0, qb0, qc0, qd0⟩ : QuadL) (⟨qa1, qb1, qc1, qd1⟩ : QuadL) W)
  rw [hbb] at SP
  dsimp only [quadV] at SP
  go_wp2_with fail
  refine wp_region_held_drew (S := fun w' => w'.cell? ⟨w.heap.size, 0, none⟩ = some (.int .i64 qa0) ∧ w'.cell? ⟨w.heap.size, 1, none⟩ = some (.int .i64 qb0) ∧ w'.cell? ⟨w.heap.size, 2, none⟩ = some (.int .i64 qc0) ∧ w'.cell? ⟨w.heap.size, 3, none⟩ = some (.int .i64 qd0) ∧ w'.cell? ⟨w.heap.size + 1, 0, none⟩ = some (.int .i64 qa1) ∧ w'.cell? ⟨w.heap.size + 1, 1, none⟩ = some (.int .i64 qb1) ∧ w'.cell? ⟨w.heap.size + 1, 2, none⟩ = some (.int .i64 qc1) ∧ w'.cell? ⟨w.heap.size + 1, 3, none⟩ = some (.int .i64 qd1)) (by kernel_rfl) ⟨y0_1_0, y0_1_1, y0_1_2, y0_1_3, y1_1_0, y1_1_1, y1_1_2, y1_1_3⟩ (fun hS => ?_)
  obtain ⟨V0, hV0⟩ : ∃ V0, V0 = w1.drew := ⟨_, rfl⟩
  have hB0 : Below w1.heap.size w1 V0 := by rw [hV0]; exact (Below.refl _ _).drew
  rw [← hV0] at hS ⊢
  clear hV0
  refine wpAnyH_take (i := 0) (v := .agg #[.int .i64 qa0, .int .i64 qb0, .int .i64 qc0, .int .i64 qd0]) rfl (by kernel_rfl) (by kernel_rfl) (by kernel_rfl) (fun _ _ _ h => h) (Or.inl ⟨by kernel_rfl, fun w hSw => by (try dsimp only at hSw); go_split_ands; go_simp⟩) (by assumption) ?_
  simp only [Act.put, List.getElem_toArray, List.getElem_cons_zero, List.setIfInBounds_toArray, List.set_cons_zero, List.set_cons_succ]
  refine wpAnyH_take (i := 2) (v := .agg #[.int .i64 qa1, .int .i64 qb1, .int .i64 qc1, .int .i64 qd1]) rfl (by kernel_rfl) (by kernel_rfl) (by kernel_rfl) (fun _ _ _ h => h) (Or.inl ⟨by kernel_rfl, fun w hSw => by (try dsimp only at hSw); go_split_ands; go_simp⟩) (by assumption) ?_
  simp only [Act.put, List.getElem_toArray, List.getElem_cons_zero, List.getElem_cons_succ, List.setIfInBounds_toArray, List.set_cons_zero, List.set_cons_succ]
  refine wpAnyH_ready (rs := [1]) (by kernel_rfl) (by simp) ?_
  refine AllReadyH.cons (i := 1) rfl (fun K hK => ?_) AllReadyH.nil
  go_simp
  refine (toEntry_any (⟨qa0, qb0, qc0, qd0⟩ : QuadL) _).mono ?_
  rintro e V1 ⟨rfl, hb_⟩
  try dsimp only [quadV]
  have hB1 := hB0.trans (hb_.mono hB0.size)
  go_wp2_with fail
  refine hK.out _ _ ⟨cell_later hB1 y0_1_0, cell_later hB1 y0_1_1, cell_later hB1 y0_1_2, cell_later hB1 y0_1_3, cell_later hB1 y1_1_0, cell_later hB1 y1_1_1, cell_later hB1 y1_1_2, cell_later hB1 y1_1_3⟩ (fun hH0 => ?_)
  clear hK hb_ hS hB0
  try simp only [Act.put, List.getElem_toArray, List.getElem_cons_zero, List.getElem_cons_succ, List.setIfInBounds_toArray, List.set_cons_zero, List.set_cons_succ]
  refine wpAnyH_ready (rs := [3]) (by kernel_rfl) (by simp) ?_
  refine AllReadyH.cons (i := 3) rfl (fun K hK => ?_) AllReadyH.nil
  go_simp
  refine (toEntry_any (⟨qa1, qb1, qc1, qd1⟩ : QuadL) _).mono ?_
  rintro e V2 ⟨rfl, hb_⟩
  try dsimp only [quadV]
  have hB2 := hB1.trans (hb_.mono hB1.size)
  go_wp2_with fail
  refine hK.out _ _ ⟨cell_later hB2 y0_1_0, cell_later hB2 y0_1_1, cell_later hB2 y0_1_2, cell_later hB2 y0_1_3, cell_later hB2 y1_1_0, cell_later hB2 y1_1_1, cell_later hB2 y1_1_2, cell_later hB2 y1_1_3⟩ (fun hH1 => ?_)
  clear hK hb_ hH0 hB1
  try simp only [Act.put, List.getElem_toArray, List.getElem_cons_zero, List.getElem_cons_succ, List.setIfInBounds_toArray, List.set_cons_zero, List.set_cons_succ]
  refine wpAnyH_ready (rs := [4]) (by kernel_rfl) (by simp) ?_
  refine AllReadyH.cons (i := 4) rfl (fun K hK => ?_) AllReadyH.nil
  go_simp
  refine (unhide (SP _)).mono ?_
  rintro e V3 ⟨rfl, hb_⟩
  try dsimp only [quadV]
  have hB3 := hB2.trans (hb_.mono hB2.size)
  go_wp2_with fail
  refine hK.out _ _ ⟨cell_later hB3 y0_1_0, cell_later hB3 y0_1_1, cell_later hB3 y0_1_2, cell_later hB3 y0_1_3, cell_later hB3 y1_1_0, cell_later hB3 y1_1_1, cell_later hB3 y1_1_2, cell_later hB3 y1_1_3⟩ (fun hH2 => ?_)
  clear hK hb_ hH1 hB2
  try simp only [Act.put, List.getElem_toArray, List.getElem_cons_zero, List.getElem_cons_succ, List.setIfInBounds_toArray, List.set_cons_zero, List.set_cons_succ]
  refine wpAnyH_take (i := 5) (v := .bool bb) rfl (by kernel_rfl) (by kernel_rfl) (by kernel_rfl) (fun _ _ _ h => h) (Or.inl ⟨by kernel_rfl, fun w hSw => by (try dsimp only at hSw); go_split_ands; go_simp⟩) (by assumption) ?_
  simp only [Act.put, List.getElem_toArray, List.getElem_cons_zero, List.getElem_cons_succ, List.setIfInBounds_toArray, List.set_cons_zero, List.set_cons_succ]
  refine wpAnyH_done (by kernel_rfl) ?_ _
  clear hH2
  have hb := hB3
  clear hB3
  obtain ⟨w2, hwe⟩ : ∃ W, W = V3 := ⟨_, rfl⟩
  rw [← hwe] at hb ⊢
  clear hwe
  have u2 := u1.trans (hb.mono u1.size)
  have y0_2_0 := cell_later u2 (cellIn (i := 0) (unhide Y0) rfl)
  have y0_2_1 := cell_later u2 (cellIn (i := 1) (unhide Y0) rfl)
  have y0_2_2 := cell_later u2 (cellIn (i := 2) (unhide Y0) rfl)
  have y0_2_3 := cell_later u2 (cellIn (i := 3) (unhide Y0) rfl)
  have y1_2_0 := cell_later u2 (cellIn (i := 0) (unhide Y1) rfl)
  have y1_2_1 := cell_later u2 (cellIn (i := 1) (unhide Y1) rfl)
  have y1_2_2 := cell_later u2 (cellIn (i := 2) (unhide Y1) rfl)
  have y1_2_3 := cell_later u2 (cellIn (i := 3) (unhide Y1) rfl)
  clear hb y0_1_0 y0_1_1 y0_1_2 y0_1_3 y1_1_0 y1_1_1 y1_1_2 y1_1_3 u1
  clear SP
  have t := z0.trans (u2.mono z0.size)
  clear  u2 y0_2_0 y0_2_1 y0_2_2 y0_2_3 y1_2_0 y1_2_1 y1_2_2 y1_2_3 
  go_wp2
  go_ret
  exact ⟨rfl, t⟩

set_option maxRecDepth 100000 in
theorem lifted (os : Os) (started : os.Started) (H : Type) (enc : TypeId × Value → H) :
    ReturnsInHanded {} Try.checked os 4 .any (Rows.fnExactAheadSpec.pre6 enc Try.prog Try.f4 Rows.fnExactAheadRow.domain false) (Rows.fnExactAheadSpec.post enc Try.prog Try.f4 false true false false) := by
  refine returnsInHanded_of_change (C := Try.checked) own started (by kernel_rfl) Try.func4
    (ChangeSpec.witness6 (enc := enc) (C := Try.checked) false ⟨#[], #[.agg #[.int .i64 0, .int .i64 0, .int .i64 0, .int .i64 0], .agg #[.int .i64 0, .int .i64 0, .int .i64 0, .int .i64 0]], []⟩ 8 (by kernel_rfl) (by kernel_rfl) (by kernel_rfl) (by kernel_rfl)) ?_
  intro W base args ds gs before hval0 hW hcnd _
  have hval : ∀ (j : Nat) t v, Try.f4.params[j]? = some t → args[j]? = some v → Value.okWide Try.prog W .any base t v := hval0
  have hW' := hW
  obtain ⟨p, q, hA0, hV, rfl, hfz, hnd⟩ := hW
  have hA : DataW.TrodAll enc Try.prog W 0 (fun _ => true) true Try.f4.params.toList args.toList ds p := hA0
  rw [Try.params4] at hA hval
  obtain ⟨v0, vs0, d0, ds0, p0, q0, hargs, rfl, rfl, h0, r0⟩ := trodAll_cons hA
  obtain ⟨v1, vs1, d1, ds1, p1, q1, rfl, rfl, rfl, h1, r1⟩ := trodAll_cons r0
  obtain ⟨rfl, rfl, rfl⟩ := trodAll_nil r1
  obtain rfl : args = #[v0, v1] := by cases args; simp_all
  obtain ⟨rfl, rfl⟩ := trodVars_none hV
  have lt0 : ∀ x ∈ p0, x.block < W.heap.size := by obtain ⟨m, hm⟩ := h0; exact DataW.trod_lt m _ _ _ hm
  obtain ⟨f0, rfl⟩ := open_Entry (hval 0 39 v0 rfl rfl) h0
  have lt1 : ∀ x ∈ p1, x.block < W.heap.size := by obtain ⟨m, hm⟩ := h1; exact DataW.trod_lt m _ _ _ hm
  obtain ⟨f1, rfl⟩ := open_Entry (hval 1 39 v1 rfl rfl) h1
  clear hA0 hval0
  refine (walk W f0 f1  ).mono fun e W' ⟨he, bel⟩ => ?_
  subst he
  exact ⟨_, rfl, _, _, _, [], _, [], hW', trodAll_mk1 (shut_bool Try.underlying4 _), (trodAll_cons_mk (Below.trod laidOut (by kernel_rfl) (of_decide_eq_true (by kernel_rfl)) h0 bel lt0) (trodAll_cons_mk (Below.trod laidOut (by kernel_rfl) (of_decide_eq_true (by kernel_rfl)) h1 bel lt1) trodAll_mk0)), rfl, bel.frame _, fun h => by cases h⟩

theorem over : Rows.fnExactAheadRow.holds Try.pinned (OpenSpec.ofChange Rows.fnExactAheadSpec) :=
  OpenClaim.holds_of_wide 4 Try.f4 rfl rfl rfl rfl rfl rfl rfl ⟨rfl, rfl, rfl, rfl, rfl⟩ rfl rfl rfl rfl rfl (by kernel_rfl) Try.func4 (by kernel_rfl)
    (of_decide_eq_true (by kernel_rfl)) (by unfold Func.isWrapper; first | (rw [if_pos (by decide +kernel)]; kernel_rfl) | (rw [if_neg (by decide +kernel)]; exact ⟨rfl, rfl⟩))
    (fun os started H enc _ => lifted os started H enc)

end Go.Proofs.Ytccafdoehjdbeaa.fnExactAhead
namespace Go.Proofs.Ytccafdoehjdbeaa
theorem fnExactAhead_holds : Rows.FnExactAheadSaid := fnExactAhead.over
#print axioms fnExactAhead_holds
end Go.Proofs.Ytccafdoehjdbeaa
