/- At every argument the program's function answers as the specification, field by field; it writes into no argument, and its answer owns its memory. No condition. -/
import Derived.Test.YtodlnhmlhpadbaaRows
import Derived.WalkKit
import Derived.ProofKit
import Derived.OpenShut
import Derived.ShutString
import Derived.Test.YtodlnhmlhpadbaaS45
import Derived.Test.YtodlnhmlhpadbaaS46
namespace Go.Proofs.Ytodlnhmlhpadbaa.fnExactReadyOf
open Go.ChangeShapes Go.WideShapes Go.ChangeAt Go.RowKit
open Go.ChangeMaps (open_string shut_string)
open scoped Classical
set_option linter.unusedVariables false

theorem own : ownKnob Try.prog.godebug = none := by kernel_rfl
theorem laidOut : laidOutB Try.prog = true := by kernel_rfl

set_option maxRecDepth 100000 in
set_option maxHeartbeats 1600000 in
theorem walk (w : World) (a0 b0 : Option Addr) (c0 d0 : Nat) (yy0 : YardL) (w0 : yy0.shelf.length ≤ 9223372036854775807) (v0 : yy0.runs.length ≤ 9223372036854775807) (k0 : YardIn w w.heap.size a0 b0 yy0) :
    Calls Try.prog 9 #[yardV yy0 (.slice a0 yy0.shelf.length c0) (.slice b0 yy0.runs.length d0)] w fun e w' => e = .returned (.bool true) ∧ Below w.heap.size w w' := by
  obtain ⟨no0, se0, f0, g0⟩ := yy0
  dsimp only at w0 v0 k0
  dsimp only [yardC, yardV]
  have HK0 := hide k0
  clear k0
  go_enter Try.func9, Try.ntmps9
  go_wp2_with fail
  obtain ⟨W0, hW0⟩ : ∃ W0, W0 = w.alloc (Obj.cells #[.int .i64 no0, .int .i64 se0, .slice a0 f0.length c0, .slice b0 g0.length d0] 35) := ⟨_, rfl⟩
  have Y0 : Hid (W0.heap[w.heap.size]? = some (.cells #[.int .i64 no0, .int .i64 se0, .slice a0 f0.length c0, .slice b0 g0.length d0] 35 (0, 0))) := by rw [hW0]; exact hide (by exact allocAt _ _ _ (by simp))
  have z0 : Below w.heap.size w W0 := by rw [hW0]; exact (Below.refl _ _).alloc (by simp) _
  have zW : w.heap.size + 1 ≤ W0.heap.size := by rw [hW0]; simp
  rw [← hW0]
  clear hW0
  have HF0 := hide (yardIn_on (unhide HK0) z0)
  clear HK0
  have C0 := hide (szYard_any a0 b0 c0 d0 (⟨no0, se0, f0, g0⟩ : YardL) 1048576 _ (by omega) (by omega) w0 v0 (unhide HF0))
  dsimp only [yardC, yardV] at C0
  refine (unhide C0).mono ?_
  rintro e w1 ⟨r0_, rfl, hr0, hcase, hb⟩
  have u1 : Below W0.heap.size W0 w1 := hb
  clear hb C0
  rcases hcase with hr1 | ⟨hr00, hf0⟩
  · subst hr1
    clear HF0
    go_wp2
    go_ret
    exact ⟨rfl, z0.trans (u1.mono z0.size)⟩
  · skip
    have hfS := hf0.sh
    have hfR := hf0.rn
    dsimp only at hfS hfR
    have FW := hide hf0
    have SZ := hide (sizeY_few hf0)
    clear hf0
    have TD0 := fun W (h : Below W0.heap.size W0 W) => hide (toYard_any a0 b0 c0 d0 (⟨no0, se0, f0, g0⟩ : YardL) W (unhide FW) (yardIn_on (unhide HF0) h))
    dsimp only [yardC, yardV] at TD0
    have SU : Hid (W0.heap.size ≤ w1.heap.size) := hide u1.size
    have y0_1_0 := cell_later u1 (cellIn (i := 0) (unhide Y0) rfl)
    have y0_1_1 := cell_later u1 (cellIn (i := 1) (unhide Y0) rfl)
    have y0_1_2 := cell_later u1 (cellIn (i := 2) (unhide Y0) rfl)
    have y0_1_3 := cell_later u1 (cellIn (i := 3) (unhide Y0) rfl)
    have SP := fun (W : World) (va vb : Value) (lo hi : Nat) (us : List Value) (ps : List (Value × Value)) (h : YardX W lo hi va vb us ps (⟨no0, se0, f0, g0⟩ : YardL)) => hide (specReadyX va vb lo hi us ps (⟨no0, se0, f0, g0⟩ : YardL) W h (unhide FW))
    have IM := fun (W : World) (va vb : Value) (lo hi : Nat) (us : List Value) (ps : List (Value × Value)) (h : YardX W lo hi va vb us ps (⟨no0, se0, f0, g0⟩ : YardL)) => hide (implReadyX va vb lo hi us ps (⟨no0, se0, f0, g0⟩ : YardL) W h (unhide FW))
    have XL : (readyOf (⟨no0, se0, f0, g0⟩ : YardL)).length ≤ 1048576 := Nat.le_trans (ready_len _) (by dsimp only; omega)
    generalize readyOf (⟨no0, se0, f0, g0⟩ : YardL) = X at SP IM XL
    dsimp only [yardV, yardC] at SP IM
    go_wp2_with fail
    refine (unhide (TD0 _ u1)).mono ?_
    rintro e w2 ⟨ga, ha, usa, psa, rfl, oa, hb⟩
    have nt := id oa
    clear oa
    have u2 := u1.trans (hb.mono u1.size)
    have s1 := hide hb.size
    have y0_2_0 := cell_later u2 (cellIn (i := 0) (unhide Y0) rfl)
    have y0_2_1 := cell_later u2 (cellIn (i := 1) (unhide Y0) rfl)
    have y0_2_2 := cell_later u2 (cellIn (i := 2) (unhide Y0) rfl)
    have y0_2_3 := cell_later u2 (cellIn (i := 3) (unhide Y0) rfl)
    clear hb y0_1_0 y0_1_1 y0_1_2 y0_1_3 u1
    have ta_2 := nt
    clear nt
    go_wp2_with fail
    refine (unhide (SP _ _ _ _ _ _ _ ta_2)).mono ?_
    rintro e w3 ⟨vs, rfl, os, hb⟩
    obtain ⟨qs, ms, rfl, -⟩ := ownsRow_shape os
    clear ta_2
    have nt := rowX_new os
    clear os
    have u3 := u2.trans (hb.mono u2.size)
    have s2 := hide hb.size
    have y0_3_0 := cell_later u3 (cellIn (i := 0) (unhide Y0) rfl)
    have y0_3_1 := cell_later u3 (cellIn (i := 1) (unhide Y0) rfl)
    have y0_3_2 := cell_later u3 (cellIn (i := 2) (unhide Y0) rfl)
    have y0_3_3 := cell_later u3 (cellIn (i := 3) (unhide Y0) rfl)
    clear hb y0_2_0 y0_2_1 y0_2_2 y0_2_3 u2
    have ts_3 := nt
    clear nt
    clear SP
    go_wp2_with fail
    refine (unhide (TD0 _ u3)).mono ?_
    rintro e w4 ⟨gx, hx, usx, psx, rfl, ox, hb⟩
    have nt := id ox
    clear ox
    have u4 := u3.trans (hb.mono u3.size)
    have s3 := hide hb.size
    have y0_4_0 := cell_later u4 (cellIn (i := 0) (unhide Y0) rfl)
    have y0_4_1 := cell_later u4 (cellIn (i := 1) (unhide Y0) rfl)
    have y0_4_2 := cell_later u4 (cellIn (i := 2) (unhide Y0) rfl)
    have y0_4_3 := cell_later u4 (cellIn (i := 3) (unhide Y0) rfl)
    have ts_4 := rowX_below ts_3 hb
    clear hb y0_3_0 y0_3_1 y0_3_2 y0_3_3 u3 ts_3
    have tx_4 := nt
    clear nt
    have hws0 : w.heap.size < w4.heap.size := by have := u4.size; omega
    go_wp2_with fail
    clear hws0 
    obtain ⟨w5, hV⟩ : ∃ V, V = w4.alloc (Obj.cells #[.int .i64 no0, .int .i64 se0, .slice (some ⟨gx, 0, none⟩) f0.length f0.length, .slice (some ⟨hx, 0, none⟩) g0.length g0.length] 25) := ⟨_, rfl⟩
    have hb : Below w4.heap.size w4 w5 := by rw [hV]; exact (Below.refl _ _).alloc (Nat.le_refl _) _
    have nh : w5.heap[w4.heap.size]? = some (.cells #[.int .i64 no0, .int .i64 se0, .slice (some ⟨gx, 0, none⟩) f0.length f0.length, .slice (some ⟨hx, 0, none⟩) g0.length g0.length] 25 (0, 0)) := by rw [hV]; exact heap_alloc_new w4 _
    have nz : Hid (w5.heap.size = w4.heap.size + 1) := hide (by rw [hV]; simp)
    obtain ⟨bx, hBx⟩ : ∃ b, b = w4.heap.size := ⟨_, rfl⟩
    rw [← hBx] at nh
    rw [← hV, ← hBx]
    have Bx := hide hBx
    have Nx := nz
    clear hV hBx nz
    have u5 := u4.trans (hb.mono u4.size)
    have s4 := hide hb.size
    have y0_5_0 := cell_later u5 (cellIn (i := 0) (unhide Y0) rfl)
    have y0_5_1 := cell_later u5 (cellIn (i := 1) (unhide Y0) rfl)
    have y0_5_2 := cell_later u5 (cellIn (i := 2) (unhide Y0) rfl)
    have y0_5_3 := cell_later u5 (cellIn (i := 3) (unhide Y0) rfl)
    have ts_5 := rowX_below ts_4 hb
    have tx_5 := yardX_below tx_4 hb
    clear hb y0_4_0 y0_4_1 y0_4_2 y0_4_3 u4 ts_4 tx_4
    have hx_5 := nh
    have cx_5_0 := cellIn (i := 0) hx_5 rfl
    have cx_5_1 := cellIn (i := 1) hx_5 rfl
    have cx_5_2 := cellIn (i := 2) hx_5 rfl
    have cx_5_3 := cellIn (i := 3) hx_5 rfl
    clear nh
    refine (unhide (IM _ _ _ _ _ _ _ tx_5)).mono ?_
    rintro e w6 ⟨vg, rfl, og, hb⟩
    obtain ⟨qg, mg, rfl, -⟩ := ownsRow_shape og
    have nt := rowX_new og
    clear og
    have u6 := u5.trans (hb.mono u5.size)
    have s5 := hide hb.size
    have y0_6_0 := cell_later u6 (cellIn (i := 0) (unhide Y0) rfl)
    have y0_6_1 := cell_later u6 (cellIn (i := 1) (unhide Y0) rfl)
    have y0_6_2 := cell_later u6 (cellIn (i := 2) (unhide Y0) rfl)
    have y0_6_3 := cell_later u6 (cellIn (i := 3) (unhide Y0) rfl)
    have ts_6 := rowX_below ts_5 hb
    have tx_6 := yardX_below tx_5 hb
    have hx_6 := heapLater hb hx_5
    have cx_6_0 := cellIn (i := 0) hx_6 rfl
    have cx_6_1 := cellIn (i := 1) hx_6 rfl
    have cx_6_2 := cellIn (i := 2) hx_6 rfl
    have cx_6_3 := cellIn (i := 3) hx_6 rfl
    clear hb y0_5_0 y0_5_1 y0_5_2 y0_5_3 cx_5_0 cx_5_1 cx_5_2 cx_5_3 u5 ts_5 tx_5 hx_5
    have tg_6 := nt
    clear nt
    go_wp2_with fail
    refine (eqEntryS_any _ _ _ _ X _ tg_6.own ts_6.own (by omega)).mono ?_
    rintro e w7 ⟨rfl, hb⟩
    have u7 := u6.trans (hb.mono u6.size)
    have s6 := hide hb.size
    have y0_7_0 := cell_later u7 (cellIn (i := 0) (unhide Y0) rfl)
    have y0_7_1 := cell_later u7 (cellIn (i := 1) (unhide Y0) rfl)
    have y0_7_2 := cell_later u7 (cellIn (i := 2) (unhide Y0) rfl)
    have y0_7_3 := cell_later u7 (cellIn (i := 3) (unhide Y0) rfl)
    have ts_7 := rowX_below ts_6 hb
    have tx_7 := yardX_below tx_6 hb
    have tg_7 := rowX_below tg_6 hb
    have hx_7 := heapLater hb hx_6
    have cx_7_0 := cellIn (i := 0) hx_7 rfl
    have cx_7_1 := cellIn (i := 1) hx_7 rfl
    have cx_7_2 := cellIn (i := 2) hx_7 rfl
    have cx_7_3 := cellIn (i := 3) hx_7 rfl
    clear hb y0_6_0 y0_6_1 y0_6_2 y0_6_3 cx_6_0 cx_6_1 cx_6_2 cx_6_3 u6 ts_6 tx_6 tg_6 hx_6
    go_wp2_with fail
    go_region_held3 (fun w' => w'.cell? ⟨w.heap.size, 0, none⟩ = some (.int .i64 no0) ∧ w'.cell? ⟨w.heap.size, 1, none⟩ = some (.int .i64 se0) ∧ w'.cell? ⟨w.heap.size, 2, none⟩ = some (.slice a0 f0.length c0) ∧ w'.cell? ⟨w.heap.size, 3, none⟩ = some (.slice b0 g0.length d0) ∧ w'.cell? ⟨bx, 0, none⟩ = some (.int .i64 no0) ∧ w'.cell? ⟨bx, 1, none⟩ = some (.int .i64 se0) ∧ w'.cell? ⟨bx, 2, none⟩ = some (.slice (some ⟨gx, 0, none⟩) f0.length f0.length) ∧ w'.cell? ⟨bx, 3, none⟩ = some (.slice (some ⟨hx, 0, none⟩) g0.length g0.length))
      (refine ⟨?_, ?_, ?_, ?_, ?_, ?_, ?_, ?_⟩ <;> first | go_keep | exact cell_later hbA (y0_7_0) | exact cell_later hbB (cell_later hbA (y0_7_0)) | exact cell_later hbA (y0_7_1) | exact cell_later hbB (cell_later hbA (y0_7_1)) | exact cell_later hbA (y0_7_2) | exact cell_later hbB (cell_later hbA (y0_7_2)) | exact cell_later hbA (y0_7_3) | exact cell_later hbB (cell_later hbA (y0_7_3)) | exact cell_later hbA (cx_7_0) | exact cell_later hbB (cell_later hbA (cx_7_0)) | exact cell_later hbA (cx_7_1) | exact cell_later hbB (cell_later hbA (cx_7_1)) | exact cell_later hbA (cx_7_2) | exact cell_later hbB (cell_later hbA (cx_7_2)) | exact cell_later hbA (cx_7_3) | exact cell_later hbB (cell_later hbA (cx_7_3)))
      (first
        | (go_at_call 19; refine (unhide (TD0 _ u7.drew)).mono ?_; rintro e wA8 ⟨gc, hc, usc, psc, rfl, oc, hbA⟩)
        | (go_at_call 12; refine (eqYard_any _ _ _ _ _ _ _ _ _ _ _ _ (⟨no0, se0, f0, g0⟩ : YardL) _ (yardX_below (yardX_below tx_7 ((Below.refl _ _).drew)) hbA) oc (unhide FW)).mono ?_; rintro e wB8 ⟨rfl, hbB⟩))
    have hb : Below w7.heap.size w7 wB8 := (((Below.refl _ _).drew).trans hbA).trans (hbB.mono (hbA.size))
    clear hbA hbB
    have u8 := u7.trans (hb.mono u7.size)
    have s7 := hide hb.size
    have y0_8_0 := cell_later u8 (cellIn (i := 0) (unhide Y0) rfl)
    have y0_8_1 := cell_later u8 (cellIn (i := 1) (unhide Y0) rfl)
    have y0_8_2 := cell_later u8 (cellIn (i := 2) (unhide Y0) rfl)
    have y0_8_3 := cell_later u8 (cellIn (i := 3) (unhide Y0) rfl)
    have ts_8 := rowX_below ts_7 hb
    have tx_8 := yardX_below tx_7 hb
    have tg_8 := rowX_below tg_7 hb
    have hx_8 := heapLater hb hx_7
    have cx_8_0 := cellIn (i := 0) hx_8 rfl
    have cx_8_1 := cellIn (i := 1) hx_8 rfl
    have cx_8_2 := cellIn (i := 2) hx_8 rfl
    have cx_8_3 := cellIn (i := 3) hx_8 rfl
    clear hb y0_7_0 y0_7_1 y0_7_2 y0_7_3 cx_7_0 cx_7_1 cx_7_2 cx_7_3 u7 ts_7 tx_7 tg_7 hx_7
    clear oc
    obtain ⟨mx, hm⟩ : ∃ m : Nat, m = 1 + sizeY (⟨no0, se0, f0, g0⟩ : YardL) := ⟨_, rfl⟩
    have MK := hide (markYard_any _ _ _ _ 1 _ _ (⟨no0, se0, f0, g0⟩ : YardL) wB8 tx_8 (unhide FW) (by omega) (by have := unhide SZ; omega))
    try dsimp only [yardV, yardC, quadV] at MK
    try dsimp only at MK
    rw [← hm] at MK
    have Hmx := hide hm
    have mx9 : mx ≤ 12000000 := by rw [hm]; have := unhide SZ; omega
    have mx8 : 1 ≤ mx := by omega
    clear hm
    have mx0 : decide ((mx : Int) < 0) = false := decide_eq_false (by omega)
    have mx1 : ((mx : Int) != (mx : Int)) = false := by simp
    go_wp2_with fail
    refine (unhide MK).mono ?_
    rintro e w9 ⟨rfl, nx, hw⟩
    clear MK
    have u9 := within_below u8 hw (by have e1 := unhide s1; have e2 := unhide s2; have f := unhide SU; omega) u8.size
    have s8 := hide hw.size
    have y0_9_0 := cell_later u9 (cellIn (i := 0) (unhide Y0) rfl)
    have y0_9_1 := cell_later u9 (cellIn (i := 1) (unhide Y0) rfl)
    have y0_9_2 := cell_later u9 (cellIn (i := 2) (unhide Y0) rfl)
    have y0_9_3 := cell_later u9 (cellIn (i := 3) (unhide Y0) rfl)
    have ts_9 := rowX_frame ts_8 hw (.inl (by omega))
    have tg_9 := rowX_frame tg_8 hw (.inr (by have e4 := unhide s4; omega))
    have hx_9 := box_frame hx_8 hw (.inr (by have f := unhide Bx; omega))
    have cx_9_0 := cellIn (i := 0) hx_9 rfl
    have cx_9_1 := cellIn (i := 1) hx_9 rfl
    have cx_9_2 := cellIn (i := 2) hx_9 rfl
    have cx_9_3 := cellIn (i := 3) hx_9 rfl
    clear hw y0_8_0 y0_8_1 y0_8_2 y0_8_3 cx_8_0 cx_8_1 cx_8_2 cx_8_3 u8 ts_8 tg_8 hx_8
    clear tx_8 
    have tx_9 := nx
    clear nx
    go_wp2_with fail
    refine (eqEntryS_any _ _ _ _ X _ tg_9.own ts_9.own (by omega)).mono ?_
    rintro e w10 ⟨rfl, hb⟩
    have u10 := u9.trans (hb.mono u9.size)
    have s9 := hide hb.size
    have y0_10_0 := cell_later u10 (cellIn (i := 0) (unhide Y0) rfl)
    have y0_10_1 := cell_later u10 (cellIn (i := 1) (unhide Y0) rfl)
    have y0_10_2 := cell_later u10 (cellIn (i := 2) (unhide Y0) rfl)
    have y0_10_3 := cell_later u10 (cellIn (i := 3) (unhide Y0) rfl)
    have ts_10 := rowX_below ts_9 hb
    have tg_10 := rowX_below tg_9 hb
    have tx_10 := yardX_below tx_9 hb
    have hx_10 := heapLater hb hx_9
    have cx_10_0 := cellIn (i := 0) hx_10 rfl
    have cx_10_1 := cellIn (i := 1) hx_10 rfl
    have cx_10_2 := cellIn (i := 2) hx_10 rfl
    have cx_10_3 := cellIn (i := 3) hx_10 rfl
    clear hb y0_9_0 y0_9_1 y0_9_2 y0_9_3 cx_9_0 cx_9_1 cx_9_2 cx_9_3 u9 ts_9 tg_9 tx_9 hx_9
    obtain ⟨mg, hm⟩ : ∃ m : Nat, m = 1 + X.length * 4 := ⟨_, rfl⟩
    have MK := hide (markEntryS_any _ _ 1 X w10 tg_10.own (by omega) (by omega) (by omega))
    try dsimp only [yardV, yardC, quadV] at MK
    try dsimp only at MK
    rw [← hm] at MK
    have Hmg := hide hm
    have mg9 : mg ≤ 12000000 := by omega
    have mg8 : 1 ≤ mg := by omega
    clear hm
    have mg0 : decide ((mg : Int) < 0) = false := decide_eq_false (by omega)
    have mg1 : ((mg : Int) != (mg : Int)) = false := by simp
    go_wp2_with fail
    refine (unhide MK).mono ?_
    rintro e w11 ⟨rfl, nx, hg⟩
    have hw := within_grown hg (rowX_in tg_10)
    have nx := RowX.mk nx tg_10.lt
    clear hg
    clear MK
    have u11 := within_below u10 hw (by have e1 := unhide s1; have e2 := unhide s2; have e3 := unhide s3; have e4 := unhide s4; have f := unhide SU; omega) u10.size
    have s10 := hide hw.size
    have lbx : bx < w5.heap.size := by have f := unhide Bx; have g := unhide Nx; omega
    have y0_11_0 := cell_later u11 (cellIn (i := 0) (unhide Y0) rfl)
    have y0_11_1 := cell_later u11 (cellIn (i := 1) (unhide Y0) rfl)
    have y0_11_2 := cell_later u11 (cellIn (i := 2) (unhide Y0) rfl)
    have y0_11_3 := cell_later u11 (cellIn (i := 3) (unhide Y0) rfl)
    have ts_11 := rowX_frame ts_10 hw (.inl (by have e3 := unhide s3; have e4 := unhide s4; omega))
    have tx_11 := yardX_frame tx_10 hw (.inl (by have e4 := unhide s4; omega))
    have hx_11 := box_frame hx_10 hw (.inl (by have f := unhide Bx; have g := lbx; omega))
    have cx_11_0 := cellIn (i := 0) hx_11 rfl
    have cx_11_1 := cellIn (i := 1) hx_11 rfl
    have cx_11_2 := cellIn (i := 2) hx_11 rfl
    have cx_11_3 := cellIn (i := 3) hx_11 rfl
    clear hw y0_10_0 y0_10_1 y0_10_2 y0_10_3 cx_10_0 cx_10_1 cx_10_2 cx_10_3 u10 ts_10 tx_10 hx_10
    clear tg_10 lbx
    have tg_11 := nx
    clear nx
    have HD := hide (heldEntryS_any _ _ 1 X.length w11 tg_11.own (by omega) (by omega) (by omega))
    try dsimp only [yardV, yardC, quadV] at HD
    rw [← unhide Hmg] at HD
    go_wp2_with fail
    refine (unhide HD).mono ?_
    rintro e w12 ⟨rfl, hb⟩
    have u12 := u11.trans (hb.mono u11.size)
    have s11 := hide hb.size
    have y0_12_0 := cell_later u12 (cellIn (i := 0) (unhide Y0) rfl)
    have y0_12_1 := cell_later u12 (cellIn (i := 1) (unhide Y0) rfl)
    have y0_12_2 := cell_later u12 (cellIn (i := 2) (unhide Y0) rfl)
    have y0_12_3 := cell_later u12 (cellIn (i := 3) (unhide Y0) rfl)
    have ts_12 := rowX_below ts_11 hb
    have tx_12 := yardX_below tx_11 hb
    have tg_12 := rowX_below tg_11 hb
    have hx_12 := heapLater hb hx_11
    have cx_12_0 := cellIn (i := 0) hx_12 rfl
    have cx_12_1 := cellIn (i := 1) hx_12 rfl
    have cx_12_2 := cellIn (i := 2) hx_12 rfl
    have cx_12_3 := cellIn (i := 3) hx_12 rfl
    clear hb y0_11_0 y0_11_1 y0_11_2 y0_11_3 cx_11_0 cx_11_1 cx_11_2 cx_11_3 u11 ts_11 tx_11 tg_11 hx_11
    clear HD
    go_wp2_with fail
    refine (unhide (TD0 _ u12)).mono ?_
    rintro e w13 ⟨gy, hy, usy, psy, rfl, oy, hb⟩
    have nt := id oy
    clear oy
    have u13 := u12.trans (hb.mono u12.size)
    have s12 := hide hb.size
    have y0_13_0 := cell_later u13 (cellIn (i := 0) (unhide Y0) rfl)
    have y0_13_1 := cell_later u13 (cellIn (i := 1) (unhide Y0) rfl)
    have y0_13_2 := cell_later u13 (cellIn (i := 2) (unhide Y0) rfl)
    have y0_13_3 := cell_later u13 (cellIn (i := 3) (unhide Y0) rfl)
    have ts_13 := rowX_below ts_12 hb
    have tx_13 := yardX_below tx_12 hb
    have tg_13 := rowX_below tg_12 hb
    have hx_13 := heapLater hb hx_12
    have cx_13_0 := cellIn (i := 0) hx_13 rfl
    have cx_13_1 := cellIn (i := 1) hx_13 rfl
    have cx_13_2 := cellIn (i := 2) hx_13 rfl
    have cx_13_3 := cellIn (i := 3) hx_13 rfl
    clear hb y0_12_0 y0_12_1 y0_12_2 y0_12_3 cx_12_0 cx_12_1 cx_12_2 cx_12_3 u12 ts_12 tx_12 tg_12 hx_12
    have ty_13 := nt
    clear nt
    go_wp2_with fail
    refine (unhide (IM _ _ _ _ _ _ _ ty_13)).mono ?_
    rintro e w14 ⟨vh, rfl, oh, hb⟩
    obtain ⟨qh, mh, rfl, -⟩ := ownsRow_shape oh
    clear ty_13
    have nt := rowX_new oh
    clear oh
    have u14 := u13.trans (hb.mono u13.size)
    have s13 := hide hb.size
    have y0_14_0 := cell_later u14 (cellIn (i := 0) (unhide Y0) rfl)
    have y0_14_1 := cell_later u14 (cellIn (i := 1) (unhide Y0) rfl)
    have y0_14_2 := cell_later u14 (cellIn (i := 2) (unhide Y0) rfl)
    have y0_14_3 := cell_later u14 (cellIn (i := 3) (unhide Y0) rfl)
    have ts_14 := rowX_below ts_13 hb
    have tx_14 := yardX_below tx_13 hb
    have tg_14 := rowX_below tg_13 hb
    have hx_14 := heapLater hb hx_13
    have cx_14_0 := cellIn (i := 0) hx_14 rfl
    have cx_14_1 := cellIn (i := 1) hx_14 rfl
    have cx_14_2 := cellIn (i := 2) hx_14 rfl
    have cx_14_3 := cellIn (i := 3) hx_14 rfl
    clear hb y0_13_0 y0_13_1 y0_13_2 y0_13_3 cx_13_0 cx_13_1 cx_13_2 cx_13_3 u13 ts_13 tx_13 tg_13 hx_13
    have th_14 := nt
    clear nt
    go_wp2_with fail
    refine (eqEntryS_any _ _ _ _ X _ th_14.own ts_14.own (by omega)).mono ?_
    rintro e w15 ⟨rfl, hb⟩
    have u15 := u14.trans (hb.mono u14.size)
    have s14 := hide hb.size
    have y0_15_0 := cell_later u15 (cellIn (i := 0) (unhide Y0) rfl)
    have y0_15_1 := cell_later u15 (cellIn (i := 1) (unhide Y0) rfl)
    have y0_15_2 := cell_later u15 (cellIn (i := 2) (unhide Y0) rfl)
    have y0_15_3 := cell_later u15 (cellIn (i := 3) (unhide Y0) rfl)
    have ts_15 := rowX_below ts_14 hb
    have tx_15 := yardX_below tx_14 hb
    have tg_15 := rowX_below tg_14 hb
    have th_15 := rowX_below th_14 hb
    have hx_15 := heapLater hb hx_14
    have cx_15_0 := cellIn (i := 0) hx_15 rfl
    have cx_15_1 := cellIn (i := 1) hx_15 rfl
    have cx_15_2 := cellIn (i := 2) hx_15 rfl
    have cx_15_3 := cellIn (i := 3) hx_15 rfl
    clear hb y0_14_0 y0_14_1 y0_14_2 y0_14_3 cx_14_0 cx_14_1 cx_14_2 cx_14_3 u14 ts_14 tx_14 tg_14 th_14 hx_14
    have HD := hide (heldEntryS_any _ _ 1 X.length w15 tg_15.own (by omega) (by omega) (by omega))
    try dsimp only [yardV, yardC, quadV] at HD
    rw [← unhide Hmg] at HD
    go_wp2_with fail
    refine (unhide HD).mono ?_
    rintro e w16 ⟨rfl, hb⟩
    have u16 := u15.trans (hb.mono u15.size)
    have s15 := hide hb.size
    have y0_16_0 := cell_later u16 (cellIn (i := 0) (unhide Y0) rfl)
    have y0_16_1 := cell_later u16 (cellIn (i := 1) (unhide Y0) rfl)
    have y0_16_2 := cell_later u16 (cellIn (i := 2) (unhide Y0) rfl)
    have y0_16_3 := cell_later u16 (cellIn (i := 3) (unhide Y0) rfl)
    have ts_16 := rowX_below ts_15 hb
    have tx_16 := yardX_below tx_15 hb
    have tg_16 := rowX_below tg_15 hb
    have th_16 := rowX_below th_15 hb
    have hx_16 := heapLater hb hx_15
    have cx_16_0 := cellIn (i := 0) hx_16 rfl
    have cx_16_1 := cellIn (i := 1) hx_16 rfl
    have cx_16_2 := cellIn (i := 2) hx_16 rfl
    have cx_16_3 := cellIn (i := 3) hx_16 rfl
    clear hb y0_15_0 y0_15_1 y0_15_2 y0_15_3 cx_15_0 cx_15_1 cx_15_2 cx_15_3 u15 ts_15 tx_15 tg_15 th_15 hx_15
    clear HD
    have t := z0.trans (u16.mono z0.size)
    clear ts_16 tx_16 tg_16 th_16 hx_16 cx_16_0 cx_16_1 cx_16_2 cx_16_3 u16 y0_16_0 y0_16_1 y0_16_2 y0_16_3 TD0 HF0
    go_wp2
    go_ret
    exact ⟨rfl, t⟩

set_option maxRecDepth 100000 in
theorem lifted (os : Os) (started : os.Started) (H : Type) (enc : TypeId × Value → H) :
    ReturnsInHanded {} Try.checked os 9 .any (Rows.fnExactReadyOfSpec.pre6 enc Try.prog Try.f9 Rows.fnExactReadyOfRow.domain false) (Rows.fnExactReadyOfSpec.post enc Try.prog Try.f9 false true false false) := by
  refine returnsInHanded_of_change (C := Try.checked) own started (by kernel_rfl) Try.func9
    (ChangeSpec.witness6 (enc := enc) (C := Try.checked) false ⟨#[], #[.agg #[.int .i64 0, .int .i64 0, .slice none 0 0, .slice none 0 0]], []⟩ 8 (by kernel_rfl) (by kernel_rfl) (by kernel_rfl) (by kernel_rfl)) ?_
  intro W base args ds gs before hval0 hW hcnd _
  have hval : ∀ (j : Nat) t v, Try.f9.params[j]? = some t → args[j]? = some v → Value.okWide Try.prog W .any base t v := hval0
  have hW' := hW
  obtain ⟨p, q, hA0, hV, rfl, hfz, hnd⟩ := hW
  have hA : DataW.TrodAll enc Try.prog W 0 (fun _ => true) true Try.f9.params.toList args.toList ds p := hA0
  rw [Try.params9] at hA hval
  obtain ⟨v0, vs0, d0, ds0, p0, q0, hargs, rfl, rfl, h0, r0⟩ := trodAll_cons hA
  obtain ⟨rfl, rfl, rfl⟩ := trodAll_nil r0
  obtain rfl : args = #[v0] := by cases args; simp_all
  obtain ⟨rfl, rfl⟩ := trodVars_none hV
  have lt0 : ∀ x ∈ p0, x.block < W.heap.size := by obtain ⟨m, hm⟩ := h0; exact DataW.trod_lt m _ _ _ hm
  obtain ⟨a0, b0, c0, d0_, yy0_, rfl, w0, x0, y0⟩ := open_yard (hval 0 35 v0 rfl rfl) h0
  clear hA0 hval0
  refine (walk W a0 b0 c0 d0_ yy0_ w0 x0 y0).mono fun e W' ⟨he, bel⟩ => ?_
  subst he
  exact ⟨_, rfl, _, _, _, [], _, [], hW', trodAll_mk1 (shut_bool Try.underlying4 _), (trodAll_cons_mk (Below.trod laidOut (by kernel_rfl) (of_decide_eq_true (by kernel_rfl)) h0 bel lt0) trodAll_mk0), rfl, bel.frame _, fun h => by cases h⟩

theorem over : Rows.fnExactReadyOfRow.holds Try.pinned (OpenSpec.ofChange Rows.fnExactReadyOfSpec) :=
  OpenClaim.holds_of_wide 9 Try.f9 rfl rfl rfl rfl rfl rfl rfl ⟨rfl, rfl, rfl, rfl, rfl⟩ rfl rfl rfl rfl rfl (by kernel_rfl) Try.func9 (by kernel_rfl)
    (of_decide_eq_true (by kernel_rfl)) (by unfold Func.isWrapper; first | (rw [if_pos (by decide +kernel)]; kernel_rfl) | (rw [if_neg (by decide +kernel)]; exact ⟨rfl, rfl⟩))
    (fun os started H enc _ => lifted os started H enc)

end Go.Proofs.Ytodlnhmlhpadbaa.fnExactReadyOf
namespace Go.Proofs.Ytodlnhmlhpadbaa
theorem fnExactReadyOf_holds : Rows.FnExactReadyOfSaid := fnExactReadyOf.over
#print axioms fnExactReadyOf_holds
end Go.Proofs.Ytodlnhmlhpadbaa
