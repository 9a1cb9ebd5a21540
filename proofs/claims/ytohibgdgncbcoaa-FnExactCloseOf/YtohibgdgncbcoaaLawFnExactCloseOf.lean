/- At every argument the law FnExactCloseOf answers true: the program CloseOf answers as the one of the specification does, its answer is its own memory, and nothing that was there is written. -/
import Derived.Test.YtohibgdgncbcoaaRows
import Derived.WalkKit
import Derived.ProofKit
import Derived.OpenShut
import Derived.ShutString
import Derived.Test.YtohibgdgncbcoaaSpecClose
import Derived.Test.YtohibgdgncbcoaaRowBase
import Derived.Test.YtohibgdgncbcoaaImplOrder
import Derived.Test.YtohibgdgncbcoaaOpenPlan
namespace Go.Proofs.Ytohibgdgncbcoaa.fnExactCloseOf
open Go.ChangeShapes Go.WideShapes Go.ChangeAt Go.RowKit
open Go.ChangeMaps (open_string shut_string)
open scoped Classical
set_option linter.unusedVariables false

theorem own : ownKnob Try.prog.godebug = none := by kernel_rfl
theorem laidOut : laidOutB Try.prog = true := by kernel_rfl

set_option maxRecDepth 100000 in
set_option maxHeartbeats 1600000 in
theorem walk (w : World) (a0 : Option Addr) (c0 : Nat) (f0 : PlanL) (a1 : Int) (w0 : f0.edges.length ≤ 9223372036854775807) (k0 : EdgesIn w w.heap.size a0 f0.edges) (w1 : (Lit.int .i64 a1).wf = true) :
    Calls Try.prog 8 #[planV f0 (.slice a0 f0.edges.length c0), .int .i64 a1] w fun e w' => e = .returned (.bool true) ∧ Below w.heap.size w w' := by
  obtain ⟨pr0, mo0, wa0, ta0, f0⟩ := f0
  dsimp only at w0 k0
  dsimp only [planV]
  have C0 := fun W (left : Int) (h0 : 0 ≤ left) (h1 : left ≤ 1048576) => hide (szPlan_any a0 c0 (⟨pr0, mo0, wa0, ta0, f0⟩ : PlanL) left W h0 h1 w0)
  dsimp only [planV] at C0
  have HK0 := hide k0
  clear k0
  go_enter Try.func8, Try.ntmps8
  go_wp2_with fail
  obtain ⟨W0, hW0⟩ : ∃ W0, W0 = w.alloc (Obj.cells #[.int .i64 pr0, .int .i64 mo0, .int .i64 wa0, .int .i64 ta0, .slice a0 f0.length c0] 38) := ⟨_, rfl⟩
  have Y0 : Hid (W0.heap[w.heap.size]? = some (.cells #[.int .i64 pr0, .int .i64 mo0, .int .i64 wa0, .int .i64 ta0, .slice a0 f0.length c0] 38 (0, 0))) := by rw [hW0]; exact hide (by exact allocAt _ _ _ (by simp))
  have z0 : Below w.heap.size w W0 := by rw [hW0]; exact (Below.refl _ _).alloc (by simp) _
  have zW : w.heap.size + 1 ≤ W0.heap.size := by rw [hW0]; simp
  rw [← hW0]
  clear hW0
  have HF0 := hide (edgesIn_on (unhide HK0) z0)
  clear HK0
  refine (unhide (C0 _ 1048576 (by omega) (by omega))).mono ?_
  rintro e w1 ⟨r0_, rfl, hr0, hcase, hb⟩
  have u1 : Below W0.heap.size W0 w1 := hb
  clear hb C0
  rcases hcase with hr1 | ⟨hr00, hn0⟩
  · subst hr1
    clear HF0 
    go_wp2
    go_ret
    exact ⟨rfl, z0.trans (u1.mono z0.size)⟩
  · skip
    have TD0 := fun W (h : Below W0.heap.size W0 W) => hide (toPlan_any a0 c0 (⟨pr0, mo0, wa0, ta0, f0⟩ : PlanL) W hn0 (edgesIn_on (unhide HF0) h))
    dsimp only [planV] at TD0
    have y0_1_0 := cell_later u1 (cellIn (i := 0) (unhide Y0) rfl)
    have y0_1_1 := cell_later u1 (cellIn (i := 1) (unhide Y0) rfl)
    have y0_1_2 := cell_later u1 (cellIn (i := 2) (unhide Y0) rfl)
    have y0_1_3 := cell_later u1 (cellIn (i := 3) (unhide Y0) rfl)
    have y0_1_4 := cell_later u1 (cellIn (i := 4) (unhide Y0) rfl)
    obtain ⟨rr, FR, rr0, rr4⟩ := fault_ex (⟨pr0, mo0, wa0, ta0, f0⟩ : PlanL)
    obtain ⟨X, HX, XL⟩ := closeAns_ex a1 FR
    have SP := fun (W : World) (va : Value) (B : Nat) (h : W.ownsRow B 69 2 va f0.length (edgesC f0)) => hide (specClose_any va B (⟨pr0, mo0, wa0, ta0, f0⟩ : PlanL) rr a1 X W h (by dsimp only; omega) FR rr0 rr4 HX)
    dsimp only [planV] at SP
    have IM := fun (W : World) (va : Value) (B : Nat) (h : W.ownsRow B 69 2 va f0.length (edgesC f0)) => hide (implClose_any va B (⟨pr0, mo0, wa0, ta0, f0⟩ : PlanL) rr a1 X W h (by dsimp only; omega) FR rr0 rr4 HX)
    dsimp only [planV] at IM
    clear FR HX
    go_wp2_with fail
    refine (unhide (TD0 _ u1)).mono ?_
    rintro e w2 ⟨ga, rfl, oa, hb⟩
    have bsa : W0.heap.size ≤ w1.heap.size := u1.size
    have u2 := u1.trans (hb.mono u1.size)
    have y0_2_0 := cell_later u2 (cellIn (i := 0) (unhide Y0) rfl)
    have y0_2_1 := cell_later u2 (cellIn (i := 1) (unhide Y0) rfl)
    have y0_2_2 := cell_later u2 (cellIn (i := 2) (unhide Y0) rfl)
    have y0_2_3 := cell_later u2 (cellIn (i := 3) (unhide Y0) rfl)
    have y0_2_4 := cell_later u2 (cellIn (i := 4) (unhide Y0) rfl)
    clear hb y0_1_0 y0_1_1 y0_1_2 y0_1_3 y0_1_4 u1
    go_wp2_with fail
    refine (unhide (SP _ _ _ oa)).mono ?_
    rintro e w3 ⟨vs, rfl, os, hb⟩
    try simp only at os
    obtain ⟨qs, ms_, rfl, -⟩ := ownsRow_shape os
    clear oa
    have bss : W0.heap.size ≤ w2.heap.size := u2.size
    have u3 := u2.trans (hb.mono u2.size)
    have y0_3_0 := cell_later u3 (cellIn (i := 0) (unhide Y0) rfl)
    have y0_3_1 := cell_later u3 (cellIn (i := 1) (unhide Y0) rfl)
    have y0_3_2 := cell_later u3 (cellIn (i := 2) (unhide Y0) rfl)
    have y0_3_3 := cell_later u3 (cellIn (i := 3) (unhide Y0) rfl)
    have y0_3_4 := cell_later u3 (cellIn (i := 4) (unhide Y0) rfl)
    clear hb y0_2_0 y0_2_1 y0_2_2 y0_2_3 y0_2_4 u2
    clear SP
    go_wp2_with fail
    refine (unhide (TD0 _ u3)).mono ?_
    rintro e w4 ⟨gx, rfl, ox, hb⟩
    have bsx : W0.heap.size ≤ w3.heap.size := u3.size
    have apsx := rowsApart os ox
    have u4 := u3.trans (hb.mono u3.size)
    have y0_4_0 := cell_later u4 (cellIn (i := 0) (unhide Y0) rfl)
    have y0_4_1 := cell_later u4 (cellIn (i := 1) (unhide Y0) rfl)
    have y0_4_2 := cell_later u4 (cellIn (i := 2) (unhide Y0) rfl)
    have y0_4_3 := cell_later u4 (cellIn (i := 3) (unhide Y0) rfl)
    have y0_4_4 := cell_later u4 (cellIn (i := 4) (unhide Y0) rfl)
    have rs_4 := ownsRow_below os hb
    clear hb y0_3_0 y0_3_1 y0_3_2 y0_3_3 y0_3_4 u3 os
    have hws0 : w.heap.size < w4.heap.size := by have := u4.size; omega
    go_wp2_with fail
    clear hws0 
    obtain ⟨w5, hV⟩ : ∃ V, V = w4.alloc (Obj.cells #[.int .i64 pr0, .int .i64 mo0, .int .i64 wa0, .int .i64 ta0, .slice (some ⟨gx, 0, none⟩) f0.length f0.length] 26) := ⟨_, rfl⟩
    have hb : Below w4.heap.size w4 w5 := by rw [hV]; exact (Below.refl _ _).alloc (Nat.le_refl _) _
    have nh : w5.heap[w4.heap.size]? = some (.cells #[.int .i64 pr0, .int .i64 mo0, .int .i64 wa0, .int .i64 ta0, .slice (some ⟨gx, 0, none⟩) f0.length f0.length] 26 (0, 0)) := by rw [hV]; exact heap_alloc_new w4 _
    obtain ⟨bx, hBx⟩ : ∃ b, b = w4.heap.size := ⟨_, rfl⟩
    rw [← hBx] at nh
    rw [← hV, ← hBx]
    clear hV hBx
    have u5 := u4.trans (hb.mono u4.size)
    have y0_5_0 := cell_later u5 (cellIn (i := 0) (unhide Y0) rfl)
    have y0_5_1 := cell_later u5 (cellIn (i := 1) (unhide Y0) rfl)
    have y0_5_2 := cell_later u5 (cellIn (i := 2) (unhide Y0) rfl)
    have y0_5_3 := cell_later u5 (cellIn (i := 3) (unhide Y0) rfl)
    have y0_5_4 := cell_later u5 (cellIn (i := 4) (unhide Y0) rfl)
    have rs_5 := ownsRow_below rs_4 hb
    have rx_5 := ownsRow_below ox hb
    clear hb y0_4_0 y0_4_1 y0_4_2 y0_4_3 y0_4_4 u4 rs_4 ox
    have hx_5 := nh
    have cx_5_0 := cellIn (i := 0) hx_5 rfl
    have cx_5_1 := cellIn (i := 1) hx_5 rfl
    have cx_5_2 := cellIn (i := 2) hx_5 rfl
    have cx_5_3 := cellIn (i := 3) hx_5 rfl
    have cx_5_4 := cellIn (i := 4) hx_5 rfl
    clear nh
    refine (unhide (IM _ _ _ rx_5)).mono ?_
    rintro e w6 ⟨vg, rfl, og, hb⟩
    try simp only at og
    obtain ⟨qg, mg_, rfl, -⟩ := ownsRow_shape og
    have bsg : W0.heap.size ≤ w5.heap.size := u5.size
    have apsg := rowsApart rs_5 og
    have apxg := rowsApart rx_5 og
    have u6 := u5.trans (hb.mono u5.size)
    have y0_6_0 := cell_later u6 (cellIn (i := 0) (unhide Y0) rfl)
    have y0_6_1 := cell_later u6 (cellIn (i := 1) (unhide Y0) rfl)
    have y0_6_2 := cell_later u6 (cellIn (i := 2) (unhide Y0) rfl)
    have y0_6_3 := cell_later u6 (cellIn (i := 3) (unhide Y0) rfl)
    have y0_6_4 := cell_later u6 (cellIn (i := 4) (unhide Y0) rfl)
    have rs_6 := ownsRow_below rs_5 hb
    have rx_6 := ownsRow_below rx_5 hb
    have hx_6 := heapLater hb hx_5
    have cx_6_0 := cellIn (i := 0) hx_6 rfl
    have cx_6_1 := cellIn (i := 1) hx_6 rfl
    have cx_6_2 := cellIn (i := 2) hx_6 rfl
    have cx_6_3 := cellIn (i := 3) hx_6 rfl
    have cx_6_4 := cellIn (i := 4) hx_6 rfl
    clear hb y0_5_0 y0_5_1 y0_5_2 y0_5_3 y0_5_4 cx_5_0 cx_5_1 cx_5_2 cx_5_3 cx_5_4 u5 rs_5 rx_5 hx_5
    go_wp2_with fail
    refine (eqInts_any _ _ _ _ X _ og rs_6 (by omega)).mono ?_
    rintro e w7 ⟨rfl, hb⟩
    have u7 := u6.trans (hb.mono u6.size)
    have y0_7_0 := cell_later u7 (cellIn (i := 0) (unhide Y0) rfl)
    have y0_7_1 := cell_later u7 (cellIn (i := 1) (unhide Y0) rfl)
    have y0_7_2 := cell_later u7 (cellIn (i := 2) (unhide Y0) rfl)
    have y0_7_3 := cell_later u7 (cellIn (i := 3) (unhide Y0) rfl)
    have y0_7_4 := cell_later u7 (cellIn (i := 4) (unhide Y0) rfl)
    have rs_7 := ownsRow_below rs_6 hb
    have rx_7 := ownsRow_below rx_6 hb
    have rg_7 := ownsRow_below og hb
    have hx_7 := heapLater hb hx_6
    have cx_7_0 := cellIn (i := 0) hx_7 rfl
    have cx_7_1 := cellIn (i := 1) hx_7 rfl
    have cx_7_2 := cellIn (i := 2) hx_7 rfl
    have cx_7_3 := cellIn (i := 3) hx_7 rfl
    have cx_7_4 := cellIn (i := 4) hx_7 rfl
    clear hb y0_6_0 y0_6_1 y0_6_2 y0_6_3 y0_6_4 cx_6_0 cx_6_1 cx_6_2 cx_6_3 cx_6_4 u6 rs_6 rx_6 og hx_6
    go_wp2_with fail
    go_region_held3 (fun w' => w'.cell? ⟨w.heap.size, 0, none⟩ = some (.int .i64 pr0) ∧ w'.cell? ⟨w.heap.size, 1, none⟩ = some (.int .i64 mo0) ∧ w'.cell? ⟨w.heap.size, 2, none⟩ = some (.int .i64 wa0) ∧ w'.cell? ⟨w.heap.size, 3, none⟩ = some (.int .i64 ta0) ∧ w'.cell? ⟨w.heap.size, 4, none⟩ = some (.slice a0 f0.length c0) ∧ w'.cell? ⟨bx, 0, none⟩ = some (.int .i64 pr0) ∧ w'.cell? ⟨bx, 1, none⟩ = some (.int .i64 mo0) ∧ w'.cell? ⟨bx, 2, none⟩ = some (.int .i64 wa0) ∧ w'.cell? ⟨bx, 3, none⟩ = some (.int .i64 ta0) ∧ w'.cell? ⟨bx, 4, none⟩ = some (.slice (some ⟨gx, 0, none⟩) f0.length f0.length))
      (refine ⟨?_, ?_, ?_, ?_, ?_, ?_, ?_, ?_, ?_, ?_⟩ <;> first | go_keep | exact cell_later hbA (y0_7_0) | exact cell_later hbB (cell_later hbA (y0_7_0)) | exact cell_later hbA (y0_7_1) | exact cell_later hbB (cell_later hbA (y0_7_1)) | exact cell_later hbA (y0_7_2) | exact cell_later hbB (cell_later hbA (y0_7_2)) | exact cell_later hbA (y0_7_3) | exact cell_later hbB (cell_later hbA (y0_7_3)) | exact cell_later hbA (y0_7_4) | exact cell_later hbB (cell_later hbA (y0_7_4)) | exact cell_later hbA (cx_7_0) | exact cell_later hbB (cell_later hbA (cx_7_0)) | exact cell_later hbA (cx_7_1) | exact cell_later hbB (cell_later hbA (cx_7_1)) | exact cell_later hbA (cx_7_2) | exact cell_later hbB (cell_later hbA (cx_7_2)) | exact cell_later hbA (cx_7_3) | exact cell_later hbB (cell_later hbA (cx_7_3)) | exact cell_later hbA (cx_7_4) | exact cell_later hbB (cell_later hbA (cx_7_4)))
      (first
        | (go_at_call 21; refine (unhide (TD0 _ u7.drew)).mono ?_; rintro e wA8 ⟨gc, rfl, oc, hbA⟩)
        | (go_at_call 23; refine (eqPlan_any _ _ _ _ (⟨pr0, mo0, wa0, ta0, f0⟩ : PlanL) _ (ownsRow_below (World.ownsRow.drew rx_7) hbA) oc (by dsimp only; omega)).mono ?_; rintro e wB8 ⟨rfl, hbB⟩))
    have hb : Below w7.heap.size w7 wB8 := (((Below.refl _ _).drew).trans hbA).trans (hbB.mono (hbA.size))
    clear hbA hbB
    have u8 := u7.trans (hb.mono u7.size)
    have y0_8_0 := cell_later u8 (cellIn (i := 0) (unhide Y0) rfl)
    have y0_8_1 := cell_later u8 (cellIn (i := 1) (unhide Y0) rfl)
    have y0_8_2 := cell_later u8 (cellIn (i := 2) (unhide Y0) rfl)
    have y0_8_3 := cell_later u8 (cellIn (i := 3) (unhide Y0) rfl)
    have y0_8_4 := cell_later u8 (cellIn (i := 4) (unhide Y0) rfl)
    have rs_8 := ownsRow_below rs_7 hb
    have rx_8 := ownsRow_below rx_7 hb
    have rg_8 := ownsRow_below rg_7 hb
    have hx_8 := heapLater hb hx_7
    have cx_8_0 := cellIn (i := 0) hx_8 rfl
    have cx_8_1 := cellIn (i := 1) hx_8 rfl
    have cx_8_2 := cellIn (i := 2) hx_8 rfl
    have cx_8_3 := cellIn (i := 3) hx_8 rfl
    have cx_8_4 := cellIn (i := 4) hx_8 rfl
    clear hb y0_7_0 y0_7_1 y0_7_2 y0_7_3 y0_7_4 cx_7_0 cx_7_1 cx_7_2 cx_7_3 cx_7_4 u7 rs_7 rx_7 rg_7 hx_7
    clear oc
    obtain ⟨mx, hm⟩ : ∃ m : Nat, m = 1 + f0.length * 2 := ⟨_, rfl⟩
    have MK := hide (markPlan_any _ _ 1 (⟨pr0, mo0, wa0, ta0, f0⟩ : PlanL) wB8 rx_8 (by dsimp only; omega) (by omega) (by omega))
    try dsimp only [planV] at MK
    rw [← hm] at MK
    have Hmx := hide hm
    have mx9 : mx ≤ 2097155 := by omega
    have mx8 : 1 ≤ mx := by omega
    clear hm
    have mx0 : decide ((mx : Int) < 0) = false := decide_eq_false (by omega)
    have mx1 : ((mx : Int) != (mx : Int)) = false := by simp
    go_wp2_with fail
    refine (unhide MK).mono ?_
    rintro e w9 ⟨rfl, nx, hg⟩
    clear MK
    have u9 := u8.grown hg u8.size (fun j hj => Nat.le_trans bsx (rx_8.lt j hj).1)
    have y0_9_0 := cell_later u9 (cellIn (i := 0) (unhide Y0) rfl)
    have y0_9_1 := cell_later u9 (cellIn (i := 1) (unhide Y0) rfl)
    have y0_9_2 := cell_later u9 (cellIn (i := 2) (unhide Y0) rfl)
    have y0_9_3 := cell_later u9 (cellIn (i := 3) (unhide Y0) rfl)
    have y0_9_4 := cell_later u9 (cellIn (i := 4) (unhide Y0) rfl)
    have rs_9 := rs_8.kept hg (apsx)
    have rg_9 := rg_8.kept hg ((apComm apxg))
    have hx_9 := heapFar hg rx_8 hx_8 (by decide)
    have cx_9_0 := cellIn (i := 0) hx_9 rfl
    have cx_9_1 := cellIn (i := 1) hx_9 rfl
    have cx_9_2 := cellIn (i := 2) hx_9 rfl
    have cx_9_3 := cellIn (i := 3) hx_9 rfl
    have cx_9_4 := cellIn (i := 4) hx_9 rfl
    clear y0_8_0 y0_8_1 y0_8_2 y0_8_3 y0_8_4 cx_8_0 cx_8_1 cx_8_2 cx_8_3 cx_8_4 u8 rs_8 rg_8 hx_8
    clear hg rx_8
    have nxx := nx
    clear nx
    go_wp2_with fail
    refine (eqInts_any _ _ _ _ X _ rg_9 rs_9 (by omega)).mono ?_
    rintro e w10 ⟨rfl, hb⟩
    have u10 := u9.trans (hb.mono u9.size)
    have y0_10_0 := cell_later u10 (cellIn (i := 0) (unhide Y0) rfl)
    have y0_10_1 := cell_later u10 (cellIn (i := 1) (unhide Y0) rfl)
    have y0_10_2 := cell_later u10 (cellIn (i := 2) (unhide Y0) rfl)
    have y0_10_3 := cell_later u10 (cellIn (i := 3) (unhide Y0) rfl)
    have y0_10_4 := cell_later u10 (cellIn (i := 4) (unhide Y0) rfl)
    have rs_10 := ownsRow_below rs_9 hb
    have rg_10 := ownsRow_below rg_9 hb
    have rx_10 := ownsRow_below nxx hb
    have hx_10 := heapLater hb hx_9
    have cx_10_0 := cellIn (i := 0) hx_10 rfl
    have cx_10_1 := cellIn (i := 1) hx_10 rfl
    have cx_10_2 := cellIn (i := 2) hx_10 rfl
    have cx_10_3 := cellIn (i := 3) hx_10 rfl
    have cx_10_4 := cellIn (i := 4) hx_10 rfl
    clear hb y0_9_0 y0_9_1 y0_9_2 y0_9_3 y0_9_4 cx_9_0 cx_9_1 cx_9_2 cx_9_3 cx_9_4 u9 rs_9 rg_9 nxx hx_9
    obtain ⟨mg, hm⟩ : ∃ m : Nat, m = 1 + X.length := ⟨_, rfl⟩
    have MK := hide (markInts_any _ _ 1 X w10 rg_10 (by omega) (by omega) (by omega))
    rw [← hm] at MK
    have Hmg := hide hm
    have mg9 : mg ≤ 1048578 := by omega
    have mg8 : 1 ≤ mg := by omega
    clear hm
    have mg0 : decide ((mg : Int) < 0) = false := decide_eq_false (by omega)
    have mg1 : ((mg : Int) != (mg : Int)) = false := by simp
    go_wp2_with fail
    refine (unhide MK).mono ?_
    rintro e w11 ⟨rfl, nx, hg⟩
    clear MK
    have u11 := u10.grown hg u10.size (fun j hj => Nat.le_trans bsg (rg_10.lt j hj).1)
    have y0_11_0 := cell_later u11 (cellIn (i := 0) (unhide Y0) rfl)
    have y0_11_1 := cell_later u11 (cellIn (i := 1) (unhide Y0) rfl)
    have y0_11_2 := cell_later u11 (cellIn (i := 2) (unhide Y0) rfl)
    have y0_11_3 := cell_later u11 (cellIn (i := 3) (unhide Y0) rfl)
    have y0_11_4 := cell_later u11 (cellIn (i := 4) (unhide Y0) rfl)
    have rs_11 := rs_10.kept hg (apsg)
    have rx_11 := rx_10.kept hg (apxg)
    have hx_11 := heapFar hg rg_10 hx_10 (by decide)
    have cx_11_0 := cellIn (i := 0) hx_11 rfl
    have cx_11_1 := cellIn (i := 1) hx_11 rfl
    have cx_11_2 := cellIn (i := 2) hx_11 rfl
    have cx_11_3 := cellIn (i := 3) hx_11 rfl
    have cx_11_4 := cellIn (i := 4) hx_11 rfl
    clear y0_10_0 y0_10_1 y0_10_2 y0_10_3 y0_10_4 cx_10_0 cx_10_1 cx_10_2 cx_10_3 cx_10_4 u10 rs_10 rx_10 hx_10
    clear hg rg_10
    have nxg := nx
    clear nx
    have HD := hide (heldInts_any _ _ 1 X.length w11 nxg (by omega) (by omega) (by omega))
    rw [← unhide Hmg] at HD
    go_wp2_with fail
    refine (unhide HD).mono ?_
    rintro e w12 ⟨rfl, hb⟩
    have u12 := u11.trans (hb.mono u11.size)
    have y0_12_0 := cell_later u12 (cellIn (i := 0) (unhide Y0) rfl)
    have y0_12_1 := cell_later u12 (cellIn (i := 1) (unhide Y0) rfl)
    have y0_12_2 := cell_later u12 (cellIn (i := 2) (unhide Y0) rfl)
    have y0_12_3 := cell_later u12 (cellIn (i := 3) (unhide Y0) rfl)
    have y0_12_4 := cell_later u12 (cellIn (i := 4) (unhide Y0) rfl)
    have rs_12 := ownsRow_below rs_11 hb
    have rx_12 := ownsRow_below rx_11 hb
    have rg_12 := ownsRow_below nxg hb
    have hx_12 := heapLater hb hx_11
    have cx_12_0 := cellIn (i := 0) hx_12 rfl
    have cx_12_1 := cellIn (i := 1) hx_12 rfl
    have cx_12_2 := cellIn (i := 2) hx_12 rfl
    have cx_12_3 := cellIn (i := 3) hx_12 rfl
    have cx_12_4 := cellIn (i := 4) hx_12 rfl
    clear hb y0_11_0 y0_11_1 y0_11_2 y0_11_3 y0_11_4 cx_11_0 cx_11_1 cx_11_2 cx_11_3 cx_11_4 u11 rs_11 rx_11 nxg hx_11
    clear HD
    go_wp2_with fail
    refine (unhide (TD0 _ u12)).mono ?_
    rintro e w13 ⟨gy, rfl, oy, hb⟩
    have bsy : W0.heap.size ≤ w12.heap.size := u12.size
    have apsy := rowsApart rs_12 oy
    have apxy := rowsApart rx_12 oy
    have apgy := rowsApart rg_12 oy
    have u13 := u12.trans (hb.mono u12.size)
    have y0_13_0 := cell_later u13 (cellIn (i := 0) (unhide Y0) rfl)
    have y0_13_1 := cell_later u13 (cellIn (i := 1) (unhide Y0) rfl)
    have y0_13_2 := cell_later u13 (cellIn (i := 2) (unhide Y0) rfl)
    have y0_13_3 := cell_later u13 (cellIn (i := 3) (unhide Y0) rfl)
    have y0_13_4 := cell_later u13 (cellIn (i := 4) (unhide Y0) rfl)
    have rs_13 := ownsRow_below rs_12 hb
    have rx_13 := ownsRow_below rx_12 hb
    have rg_13 := ownsRow_below rg_12 hb
    have hx_13 := heapLater hb hx_12
    have cx_13_0 := cellIn (i := 0) hx_13 rfl
    have cx_13_1 := cellIn (i := 1) hx_13 rfl
    have cx_13_2 := cellIn (i := 2) hx_13 rfl
    have cx_13_3 := cellIn (i := 3) hx_13 rfl
    have cx_13_4 := cellIn (i := 4) hx_13 rfl
    clear hb y0_12_0 y0_12_1 y0_12_2 y0_12_3 y0_12_4 cx_12_0 cx_12_1 cx_12_2 cx_12_3 cx_12_4 u12 rs_12 rx_12 rg_12 hx_12
    go_wp2_with fail
    refine (unhide (IM _ _ _ oy)).mono ?_
    rintro e w14 ⟨vh, rfl, oh, hb⟩
    try simp only at oh
    obtain ⟨qh, mh_, rfl, -⟩ := ownsRow_shape oh
    clear oy
    have bsh : W0.heap.size ≤ w13.heap.size := u13.size
    have apsh := rowsApart rs_13 oh
    have apxh := rowsApart rx_13 oh
    have apgh := rowsApart rg_13 oh
    have u14 := u13.trans (hb.mono u13.size)
    have y0_14_0 := cell_later u14 (cellIn (i := 0) (unhide Y0) rfl)
    have y0_14_1 := cell_later u14 (cellIn (i := 1) (unhide Y0) rfl)
    have y0_14_2 := cell_later u14 (cellIn (i := 2) (unhide Y0) rfl)
    have y0_14_3 := cell_later u14 (cellIn (i := 3) (unhide Y0) rfl)
    have y0_14_4 := cell_later u14 (cellIn (i := 4) (unhide Y0) rfl)
    have rs_14 := ownsRow_below rs_13 hb
    have rx_14 := ownsRow_below rx_13 hb
    have rg_14 := ownsRow_below rg_13 hb
    have hx_14 := heapLater hb hx_13
    have cx_14_0 := cellIn (i := 0) hx_14 rfl
    have cx_14_1 := cellIn (i := 1) hx_14 rfl
    have cx_14_2 := cellIn (i := 2) hx_14 rfl
    have cx_14_3 := cellIn (i := 3) hx_14 rfl
    have cx_14_4 := cellIn (i := 4) hx_14 rfl
    clear hb y0_13_0 y0_13_1 y0_13_2 y0_13_3 y0_13_4 cx_13_0 cx_13_1 cx_13_2 cx_13_3 cx_13_4 u13 rs_13 rx_13 rg_13 hx_13
    go_wp2_with fail
    refine (eqInts_any _ _ _ _ X _ oh rs_14 (by omega)).mono ?_
    rintro e w15 ⟨rfl, hb⟩
    have u15 := u14.trans (hb.mono u14.size)
    have y0_15_0 := cell_later u15 (cellIn (i := 0) (unhide Y0) rfl)
    have y0_15_1 := cell_later u15 (cellIn (i := 1) (unhide Y0) rfl)
    have y0_15_2 := cell_later u15 (cellIn (i := 2) (unhide Y0) rfl)
    have y0_15_3 := cell_later u15 (cellIn (i := 3) (unhide Y0) rfl)
    have y0_15_4 := cell_later u15 (cellIn (i := 4) (unhide Y0) rfl)
    have rs_15 := ownsRow_below rs_14 hb
    have rx_15 := ownsRow_below rx_14 hb
    have rg_15 := ownsRow_below rg_14 hb
    have rh_15 := ownsRow_below oh hb
    have hx_15 := heapLater hb hx_14
    have cx_15_0 := cellIn (i := 0) hx_15 rfl
    have cx_15_1 := cellIn (i := 1) hx_15 rfl
    have cx_15_2 := cellIn (i := 2) hx_15 rfl
    have cx_15_3 := cellIn (i := 3) hx_15 rfl
    have cx_15_4 := cellIn (i := 4) hx_15 rfl
    clear hb y0_14_0 y0_14_1 y0_14_2 y0_14_3 y0_14_4 cx_14_0 cx_14_1 cx_14_2 cx_14_3 cx_14_4 u14 rs_14 rx_14 rg_14 oh hx_14
    have HD := hide (heldInts_any _ _ 1 X.length w15 rg_15 (by omega) (by omega) (by omega))
    rw [← unhide Hmg] at HD
    go_wp2_with fail
    refine (unhide HD).mono ?_
    rintro e w16 ⟨rfl, hb⟩
    have u16 := u15.trans (hb.mono u15.size)
    have y0_16_0 := cell_later u16 (cellIn (i := 0) (unhide Y0) rfl)
    have y0_16_1 := cell_later u16 (cellIn (i := 1) (unhide Y0) rfl)
    have y0_16_2 := cell_later u16 (cellIn (i := 2) (unhide Y0) rfl)
    have y0_16_3 := cell_later u16 (cellIn (i := 3) (unhide Y0) rfl)
    have y0_16_4 := cell_later u16 (cellIn (i := 4) (unhide Y0) rfl)
    have rs_16 := ownsRow_below rs_15 hb
    have rx_16 := ownsRow_below rx_15 hb
    have rg_16 := ownsRow_below rg_15 hb
    have rh_16 := ownsRow_below rh_15 hb
    have hx_16 := heapLater hb hx_15
    have cx_16_0 := cellIn (i := 0) hx_16 rfl
    have cx_16_1 := cellIn (i := 1) hx_16 rfl
    have cx_16_2 := cellIn (i := 2) hx_16 rfl
    have cx_16_3 := cellIn (i := 3) hx_16 rfl
    have cx_16_4 := cellIn (i := 4) hx_16 rfl
    clear hb y0_15_0 y0_15_1 y0_15_2 y0_15_3 y0_15_4 cx_15_0 cx_15_1 cx_15_2 cx_15_3 cx_15_4 u15 rs_15 rx_15 rg_15 rh_15 hx_15
    clear HD
    have t := z0.trans (u16.mono z0.size)
    clear rs_16 rx_16 rg_16 rh_16 hx_16 cx_16_0 cx_16_1 cx_16_2 cx_16_3 cx_16_4 u16 y0_16_0 y0_16_1 y0_16_2 y0_16_3 y0_16_4 TD0 HF0
    go_wp2
    go_ret
    exact ⟨rfl, t⟩

set_option maxRecDepth 100000 in
theorem lifted (os : Os) (started : os.Started) (H : Type) (enc : TypeId × Value → H) :
    ReturnsInHanded {} Try.checked os 8 .any (Rows.fnExactCloseOfSpec.pre6 enc Try.prog Try.f8 Rows.fnExactCloseOfRow.domain false) (Rows.fnExactCloseOfSpec.post enc Try.prog Try.f8 false true false false) := by
  refine returnsInHanded_of_change (C := Try.checked) own started (by kernel_rfl) Try.func8
    (ChangeSpec.witness6 (enc := enc) (C := Try.checked) false ⟨#[], #[.agg #[.int .i64 0, .int .i64 0, .int .i64 0, .int .i64 0, .slice none 0 0], .int .i64 0], []⟩ 8 (by kernel_rfl) (by kernel_rfl) (by kernel_rfl) (by kernel_rfl)) ?_
  intro W base args ds gs before hval0 hW hcnd _
  have hval : ∀ (j : Nat) t v, Try.f8.params[j]? = some t → args[j]? = some v → Value.okWide Try.prog W .any base t v := hval0
  have hW' := hW
  obtain ⟨p, q, hA0, hV, rfl, hfz, hnd⟩ := hW
  have hA : DataW.TrodAll enc Try.prog W 0 (fun _ => true) true Try.f8.params.toList args.toList ds p := hA0
  rw [Try.params8] at hA hval
  obtain ⟨v0, vs0, d0, ds0, p0, q0, hargs, rfl, rfl, h0, r0⟩ := trodAll_cons hA
  obtain ⟨v1, vs1, d1, ds1, p1, q1, rfl, rfl, rfl, h1, r1⟩ := trodAll_cons r0
  obtain ⟨rfl, rfl, rfl⟩ := trodAll_nil r1
  obtain rfl : args = #[v0, v1] := by cases args; simp_all
  obtain ⟨rfl, rfl⟩ := trodVars_none hV
  have lt0 : ∀ x ∈ p0, x.block < W.heap.size := by obtain ⟨m, hm⟩ := h0; exact DataW.trod_lt m _ _ _ hm
  obtain ⟨a0, c0, f0, rfl, w0, y0⟩ := open_plan (hval 0 38 v0 rfl rfl) h0
  obtain ⟨a1, rfl, rfl, rfl, w1⟩ := open_int Try.underlying3 (hval 1 3 v1 rfl rfl) h1
  clear hA0 hval0
  refine (walk W a0 c0 f0 a1 w0 y0 w1).mono fun e W' ⟨he, bel⟩ => ?_
  subst he
  exact ⟨_, rfl, _, _, _, [], _, [], hW', trodAll_mk1 (shut_bool Try.underlying4 _), (trodAll_cons_mk (Below.trod laidOut (by kernel_rfl) (of_decide_eq_true (by kernel_rfl)) h0 bel lt0) (trodAll_cons_mk (shut_int Try.underlying3 w1) trodAll_mk0)), rfl, bel.frame _, fun h => by cases h⟩

theorem over : Rows.fnExactCloseOfRow.holds Try.pinned (OpenSpec.ofChange Rows.fnExactCloseOfSpec) :=
  OpenClaim.holds_of_wide 8 Try.f8 rfl rfl rfl rfl rfl rfl rfl ⟨rfl, rfl, rfl, rfl, rfl⟩ rfl rfl rfl rfl rfl (by kernel_rfl) Try.func8 (by kernel_rfl)
    (of_decide_eq_true (by kernel_rfl)) (by unfold Func.isWrapper; first | (rw [if_pos (by decide +kernel)]; kernel_rfl) | (rw [if_neg (by decide +kernel)]; exact ⟨rfl, rfl⟩))
    (fun os started H enc _ => lifted os started H enc)

end Go.Proofs.Ytohibgdgncbcoaa.fnExactCloseOf
namespace Go.Proofs.Ytohibgdgncbcoaa
theorem fnExactCloseOf_holds : Rows.FnExactCloseOfSaid := fnExactCloseOf.over
#print axioms fnExactCloseOf_holds
end Go.Proofs.Ytohibgdgncbcoaa
