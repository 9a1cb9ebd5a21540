/- At every argument the program's function answers as the specification, field by field; it writes into no argument, and its answer owns its memory. No condition. -/
import Derived.Test.YtodlnhmlhpadbaaRows
import Derived.WalkKit
import Derived.ProofKit
import Derived.OpenShut
import Derived.ShutString
import Derived.Test.YtodlnhmlhpadbaaS45
import Derived.Test.YtodlnhmlhpadbaaS46
namespace Go.Proofs.Ytodlnhmlhpadbaa.fnExactFresh
open Go.ChangeShapes Go.WideShapes Go.ChangeAt Go.RowKit
open Go.ChangeMaps (open_string shut_string)
open scoped Classical
set_option linter.unusedVariables false

theorem own : ownKnob Try.prog.godebug = none := by kernel_rfl
theorem laidOut : laidOutB Try.prog = true := by kernel_rfl

set_option maxRecDepth 100000 in
set_option maxHeartbeats 1600000 in
theorem walk (w : World) (a0 b0 : Option Addr) (c0 d0 : Nat) (yy0 : YardL) (f1 : QuadL) (w0 : yy0.shelf.length ≤ 9223372036854775807) (v0 : yy0.runs.length ≤ 9223372036854775807) (k0 : YardIn w w.heap.size a0 b0 yy0)  :
    Calls Try.prog 6 #[yardV yy0 (.slice a0 yy0.shelf.length c0) (.slice b0 yy0.runs.length d0), quadV f1] w fun e w' => e = .returned (.bool true) ∧ Below w.heap.size w w' := by
  obtain ⟨no0, se0, f0, g0⟩ := yy0
  dsimp only at w0 v0 k0
  obtain ⟨qa1, qb1, qc1, qd1⟩ := f1
  dsimp only [quadV, yardC, yardV]
  have HK0 := hide k0
  clear k0
  go_enter Try.func6, Try.ntmps6
  go_wp2_with fail
  obtain ⟨W0, hW0⟩ : ∃ W0, W0 = (w.alloc (Obj.cells #[.int .i64 no0, .int .i64 se0, .slice a0 f0.length c0, .slice b0 g0.length d0] 35)).alloc (Obj.cells #[.int .i64 qa1, .int .i64 qb1, .int .i64 qc1, .int .i64 qd1] 40) := ⟨_, rfl⟩
  have Y0 : Hid (W0.heap[w.heap.size]? = some (.cells #[.int .i64 no0, .int .i64 se0, .slice a0 f0.length c0, .slice b0 g0.length d0] 35 (0, 0))) := by rw [hW0]; exact hide (by rw [Below.heap_alloc _ _ _ (by simp)]; exact allocAt _ _ _ (by simp))
  have Y1 : Hid (W0.heap[w.heap.size + 1]? = some (.cells #[.int .i64 qa1, .int .i64 qb1, .int .i64 qc1, .int .i64 qd1] 40 (0, 0))) := by rw [hW0]; exact hide (by exact allocAt _ _ _ (by simp))
  have z0 : Below w.heap.size w W0 := by rw [hW0]; exact ((Below.refl _ _).alloc (by simp) _).alloc (by simp) _
  have zW : w.heap.size + 2 ≤ W0.heap.size := by rw [hW0]; simp
  rw [← hW0]
  clear hW0
  have HF0 := hide (yardIn_on (unhide HK0) z0)
  clear HK0
  have C0 := hide (szYard_any a0 b0 c0 d0 (⟨no0, se0, f0, g0⟩ : YardL) 1048576 _ (by omega) (by omega) w0 v0 (unhide HF0))
  dsimp only [quadV, yardC, yardV] at C0
  refine (unhide C0).mono ?_
  rintro e w1 ⟨r0_, rfl, hr0, hcase, hb⟩
  have u1 : Below W0.heap.size W0 w1 := hb
  clear hb C0
  rcases hcase with hr1 | ⟨hr00, hf0⟩
  · subst hr1
    clear HF0
    go_wp2
    go_ret
    exact ⟨rfl, z0.trans (u1.mono z0.size)⟩
  · skip
    have hfS := hf0.sh
    have hfR := hf0.rn
    dsimp only at hfS hfR
    have FW := hide hf0
    have SZ := hide (sizeY_few hf0)
    clear hf0
    have TD0 := fun W (h : Below W0.heap.size W0 W) => hide (toYard_any a0 b0 c0 d0 (⟨no0, se0, f0, g0⟩ : YardL) W (unhide FW) (yardIn_on (unhide HF0) h))
    dsimp only [quadV, yardC, yardV] at TD0
    have SU : Hid (W0.heap.size ≤ w1.heap.size) := hide u1.size
    have y0_1_0 := cell_later u1 (cellIn (i := 0) (unhide Y0) rfl)
    have y0_1_1 := cell_later u1 (cellIn (i := 1) (unhide Y0) rfl)
    have y0_1_2 := cell_later u1 (cellIn (i := 2) (unhide Y0) rfl)
    have y0_1_3 := cell_later u1 (cellIn (i := 3) (unhide Y0) rfl)
    have y1_1_0 := cell_later u1 (cellIn (i := 0) (unhide Y1) rfl)
    have y1_1_1 := cell_later u1 (cellIn (i := 1) (unhide Y1) rfl)
    have y1_1_2 := cell_later u1 (cellIn (i := 2) (unhide Y1) rfl)
    have y1_1_3 := cell_later u1 (cellIn (i := 3) (unhide Y1) rfl)
    have SP := fun (W : World) (va vb : Value) (lo hi : Nat) (us : List Value) (ps : List (Value × Value)) (h : YardX W lo hi va vb us ps (⟨no0, se0, f0, g0⟩ : YardL)) => hide (specFreshX va vb lo hi us ps (⟨no0, se0, f0, g0⟩ : YardL) (⟨qa1, qb1, qc1, qd1⟩ : QuadL) W h (unhide FW))
    have IM := fun (W : World) (va vb : Value) (lo hi : Nat) (us : List Value) (ps : List (Value × Value)) (h : YardX W lo hi va vb us ps (⟨no0, se0, f0, g0⟩ : YardL)) => hide (implFreshX va vb lo hi us ps (⟨no0, se0, f0, g0⟩ : YardL) (⟨qa1, qb1, qc1, qd1⟩ : QuadL) W h (unhide FW))
    generalize freshB (⟨no0, se0, f0, g0⟩ : YardL).runs (⟨qa1, qb1, qc1, qd1⟩ : QuadL) = bb at SP IM
    dsimp only [yardV, yardC, quadV] at SP IM
    have bne : (bb != bb) = false := by simp
    go_wp2_with fail
    go_region_held3 (fun w' => w'.cell? ⟨w.heap.size, 0, none⟩ = some (.int .i64 no0) ∧ w'.cell? ⟨w.heap.size, 1, none⟩ = some (.int .i64 se0) ∧ w'.cell? ⟨w.heap.size, 2, none⟩ = some (.slice a0 f0.length c0) ∧ w'.cell? ⟨w.heap.size, 3, none⟩ = some (.slice b0 g0.length d0) ∧ w'.cell? ⟨w.heap.size + 1, 0, none⟩ = some (.int .i64 qa1) ∧ w'.cell? ⟨w.heap.size + 1, 1, none⟩ = some (.int .i64 qb1) ∧ w'.cell? ⟨w.heap.size + 1, 2, none⟩ = some (.int .i64 qc1) ∧ w'.cell? ⟨w.heap.size + 1, 3, none⟩ = some (.int .i64 qd1))
      (refine ⟨?_, ?_, ?_, ?_, ?_, ?_, ?_, ?_⟩ <;> first | go_keep | exact cell_later hbA (y0_1_0) | exact cell_later hbB (cell_later hbA (y0_1_0)) | exact cell_later hbC (cell_later hbB (cell_later hbA (y0_1_0))) | exact cell_later hbA (y0_1_1) | exact cell_later hbB (cell_later hbA (y0_1_1)) | exact cell_later hbC (cell_later hbB (cell_later hbA (y0_1_1))) | exact cell_later hbA (y0_1_2) | exact cell_later hbB (cell_later hbA (y0_1_2)) | exact cell_later hbC (cell_later hbB (cell_later hbA (y0_1_2))) | exact cell_later hbA (y0_1_3) | exact cell_later hbB (cell_later hbA (y0_1_3)) | exact cell_later hbC (cell_later hbB (cell_later hbA (y0_1_3))) | exact cell_later hbA (y1_1_0) | exact cell_later hbB (cell_later hbA (y1_1_0)) | exact cell_later hbC (cell_later hbB (cell_later hbA (y1_1_0))) | exact cell_later hbA (y1_1_1) | exact cell_later hbB (cell_later hbA (y1_1_1)) | exact cell_later hbC (cell_later hbB (cell_later hbA (y1_1_1))) | exact cell_later hbA (y1_1_2) | exact cell_later hbB (cell_later hbA (y1_1_2)) | exact cell_later hbC (cell_later hbB (cell_later hbA (y1_1_2))) | exact cell_later hbA (y1_1_3) | exact cell_later hbB (cell_later hbA (y1_1_3)) | exact cell_later hbC (cell_later hbB (cell_later hbA (y1_1_3))))
      (first
        | (go_at_call 19; refine (unhide (TD0 _ u1.drew)).mono ?_; rintro e wA2 ⟨ga_, ha_, usa_, psa_, rfl, oa_, hbA⟩)
        | (go_at_call 22; refine (toEntry_any (⟨qa1, qb1, qc1, qd1⟩ : QuadL) _).mono ?_; rintro e wB2 ⟨rfl, hbB⟩; try dsimp only [quadV])
        | (go_at_call 21; refine (unhide (SP _ _ _ _ _ _ _ (yardX_below oa_ hbB))).mono ?_; rintro e wC2 ⟨rfl, hbC⟩))
    have hb : Below w1.heap.size w1 wC2 := ((((Below.refl _ _).drew).trans hbA).trans (hbB.mono (hbA.size))).trans (hbC.mono (Nat.le_trans (hbA.size) hbB.size))
    clear hbA hbB hbC
    have u2 := u1.trans (hb.mono u1.size)
    have s1 := hide hb.size
    have y0_2_0 := cell_later u2 (cellIn (i := 0) (unhide Y0) rfl)
    have y0_2_1 := cell_later u2 (cellIn (i := 1) (unhide Y0) rfl)
    have y0_2_2 := cell_later u2 (cellIn (i := 2) (unhide Y0) rfl)
    have y0_2_3 := cell_later u2 (cellIn (i := 3) (unhide Y0) rfl)
    have y1_2_0 := cell_later u2 (cellIn (i := 0) (unhide Y1) rfl)
    have y1_2_1 := cell_later u2 (cellIn (i := 1) (unhide Y1) rfl)
    have y1_2_2 := cell_later u2 (cellIn (i := 2) (unhide Y1) rfl)
    have y1_2_3 := cell_later u2 (cellIn (i := 3) (unhide Y1) rfl)
    clear hb y0_1_0 y0_1_1 y0_1_2 y0_1_3 y1_1_0 y1_1_1 y1_1_2 y1_1_3 u1
    clear oa_
    clear SP
    go_wp2_with fail
    refine (unhide (TD0 _ u2)).mono ?_
    rintro e w3 ⟨gx, hx, usx, psx, rfl, ox, hb⟩
    have nt := id ox
    clear ox
    have u3 := u2.trans (hb.mono u2.size)
    have s2 := hide hb.size
    have y0_3_0 := cell_later u3 (cellIn (i := 0) (unhide Y0) rfl)
    have y0_3_1 := cell_later u3 (cellIn (i := 1) (unhide Y0) rfl)
    have y0_3_2 := cell_later u3 (cellIn (i := 2) (unhide Y0) rfl)
    have y0_3_3 := cell_later u3 (cellIn (i := 3) (unhide Y0) rfl)
    have y1_3_0 := cell_later u3 (cellIn (i := 0) (unhide Y1) rfl)
    have y1_3_1 := cell_later u3 (cellIn (i := 1) (unhide Y1) rfl)
    have y1_3_2 := cell_later u3 (cellIn (i := 2) (unhide Y1) rfl)
    have y1_3_3 := cell_later u3 (cellIn (i := 3) (unhide Y1) rfl)
    clear hb y0_2_0 y0_2_1 y0_2_2 y0_2_3 y1_2_0 y1_2_1 y1_2_2 y1_2_3 u2
    have tx_3 := nt
    clear nt
    have hws0 : w.heap.size < w3.heap.size := by have := u3.size; omega
    have hws1 : w.heap.size + 1 < w3.heap.size := by have := u3.size; omega
    go_wp2_with fail
    clear hws0 hws1 
    obtain ⟨w4, hV⟩ : ∃ V, V = w3.alloc (Obj.cells #[.int .i64 no0, .int .i64 se0, .slice (some ⟨gx, 0, none⟩) f0.length f0.length, .slice (some ⟨hx, 0, none⟩) g0.length g0.length] 25) := ⟨_, rfl⟩
    have hb : Below w3.heap.size w3 w4 := by rw [hV]; exact (Below.refl _ _).alloc (Nat.le_refl _) _
    have nh : w4.heap[w3.heap.size]? = some (.cells #[.int .i64 no0, .int .i64 se0, .slice (some ⟨gx, 0, none⟩) f0.length f0.length, .slice (some ⟨hx, 0, none⟩) g0.length g0.length] 25 (0, 0)) := by rw [hV]; exact heap_alloc_new w3 _
    have nz : Hid (w4.heap.size = w3.heap.size + 1) := hide (by rw [hV]; simp)
    obtain ⟨bx, hBx⟩ : ∃ b, b = w3.heap.size := ⟨_, rfl⟩
    rw [← hBx] at nh
    rw [← hV, ← hBx]
    have Bx := hide hBx
    have Nx := nz
    clear hV hBx nz
    have u4 := u3.trans (hb.mono u3.size)
    have s3 := hide hb.size
    have y0_4_0 := cell_later u4 (cellIn (i := 0) (unhide Y0) rfl)
    have y0_4_1 := cell_later u4 (cellIn (i := 1) (unhide Y0) rfl)
    have y0_4_2 := cell_later u4 (cellIn (i := 2) (unhide Y0) rfl)
    have y0_4_3 := cell_later u4 (cellIn (i := 3) (unhide Y0) rfl)
    have y1_4_0 := cell_later u4 (cellIn (i := 0) (unhide Y1) rfl)
    have y1_4_1 := cell_later u4 (cellIn (i := 1) (unhide Y1) rfl)
    have y1_4_2 := cell_later u4 (cellIn (i := 2) (unhide Y1) rfl)
    have y1_4_3 := cell_later u4 (cellIn (i := 3) (unhide Y1) rfl)
    have tx_4 := yardX_below tx_3 hb
    clear hb y0_3_0 y0_3_1 y0_3_2 y0_3_3 y1_3_0 y1_3_1 y1_3_2 y1_3_3 u3 tx_3
    have hx_4 := nh
    have cx_4_0 := cellIn (i := 0) hx_4 rfl
    have cx_4_1 := cellIn (i := 1) hx_4 rfl
    have cx_4_2 := cellIn (i := 2) hx_4 rfl
    have cx_4_3 := cellIn (i := 3) hx_4 rfl
    clear nh
    go_region_held3 (fun w' => w'.cell? ⟨bx, 0, none⟩ = some (.int .i64 no0) ∧ w'.cell? ⟨bx, 1, none⟩ = some (.int .i64 se0) ∧ w'.cell? ⟨bx, 2, none⟩ = some (.slice (some ⟨gx, 0, none⟩) f0.length f0.length) ∧ w'.cell? ⟨bx, 3, none⟩ = some (.slice (some ⟨hx, 0, none⟩) g0.length g0.length) ∧ w'.cell? ⟨w.heap.size + 1, 0, none⟩ = some (.int .i64 qa1) ∧ w'.cell? ⟨w.heap.size + 1, 1, none⟩ = some (.int .i64 qb1) ∧ w'.cell? ⟨w.heap.size + 1, 2, none⟩ = some (.int .i64 qc1) ∧ w'.cell? ⟨w.heap.size + 1, 3, none⟩ = some (.int .i64 qd1))
      (refine ⟨?_, ?_, ?_, ?_, ?_, ?_, ?_, ?_⟩ <;> first | go_keep | exact cell_later hbB (cx_4_0) | exact cell_later hbC (cell_later hbB (cx_4_0)) | exact cell_later hbB (cx_4_1) | exact cell_later hbC (cell_later hbB (cx_4_1)) | exact cell_later hbB (cx_4_2) | exact cell_later hbC (cell_later hbB (cx_4_2)) | exact cell_later hbB (cx_4_3) | exact cell_later hbC (cell_later hbB (cx_4_3)) | exact cell_later hbB (y1_4_0) | exact cell_later hbC (cell_later hbB (y1_4_0)) | exact cell_later hbB (y1_4_1) | exact cell_later hbC (cell_later hbB (y1_4_1)) | exact cell_later hbB (y1_4_2) | exact cell_later hbC (cell_later hbB (y1_4_2)) | exact cell_later hbB (y1_4_3) | exact cell_later hbC (cell_later hbB (y1_4_3)))
      (first
        | (go_at_call 22; refine (toEntry_any (⟨qa1, qb1, qc1, qd1⟩ : QuadL) _).mono ?_; rintro e wB5 ⟨rfl, hbB⟩; try dsimp only [quadV])
        | (go_at_call 23; refine (unhide (IM _ _ _ _ _ _ _ (yardX_below (yardX_below tx_4 ((Below.refl _ _).drew)) hbB))).mono ?_; rintro e wC5 ⟨rfl, hbC⟩))
    have hb : Below w4.heap.size w4 wC5 := (((Below.refl _ _).drew).trans hbB).trans (hbC.mono (hbB.size))
    clear hbB hbC
    have u5 := u4.trans (hb.mono u4.size)
    have s4 := hide hb.size
    have y0_5_0 := cell_later u5 (cellIn (i := 0) (unhide Y0) rfl)
    have y0_5_1 := cell_later u5 (cellIn (i := 1) (unhide Y0) rfl)
    have y0_5_2 := cell_later u5 (cellIn (i := 2) (unhide Y0) rfl)
    have y0_5_3 := cell_later u5 (cellIn (i := 3) (unhide Y0) rfl)
    have y1_5_0 := cell_later u5 (cellIn (i := 0) (unhide Y1) rfl)
    have y1_5_1 := cell_later u5 (cellIn (i := 1) (unhide Y1) rfl)
    have y1_5_2 := cell_later u5 (cellIn (i := 2) (unhide Y1) rfl)
    have y1_5_3 := cell_later u5 (cellIn (i := 3) (unhide Y1) rfl)
    have tx_5 := yardX_below tx_4 hb
    have hx_5 := heapLater hb hx_4
    have cx_5_0 := cellIn (i := 0) hx_5 rfl
    have cx_5_1 := cellIn (i := 1) hx_5 rfl
    have cx_5_2 := cellIn (i := 2) hx_5 rfl
    have cx_5_3 := cellIn (i := 3) hx_5 rfl
    clear hb y0_4_0 y0_4_1 y0_4_2 y0_4_3 y1_4_0 y1_4_1 y1_4_2 y1_4_3 cx_4_0 cx_4_1 cx_4_2 cx_4_3 u4 tx_4 hx_4
    go_wp2_with fail
    go_region_held3 (fun w' => w'.cell? ⟨w.heap.size, 0, none⟩ = some (.int .i64 no0) ∧ w'.cell? ⟨w.heap.size, 1, none⟩ = some (.int .i64 se0) ∧ w'.cell? ⟨w.heap.size, 2, none⟩ = some (.slice a0 f0.length c0) ∧ w'.cell? ⟨w.heap.size, 3, none⟩ = some (.slice b0 g0.length d0) ∧ w'.cell? ⟨bx, 0, none⟩ = some (.int .i64 no0) ∧ w'.cell? ⟨bx, 1, none⟩ = some (.int .i64 se0) ∧ w'.cell? ⟨bx, 2, none⟩ = some (.slice (some ⟨gx, 0, none⟩) f0.length f0.length) ∧ w'.cell? ⟨bx, 3, none⟩ = some (.slice (some ⟨hx, 0, none⟩) g0.length g0.length))
      (refine ⟨?_, ?_, ?_, ?_, ?_, ?_, ?_, ?_⟩ <;> first | go_keep | exact cell_later hbA (y0_5_0) | exact cell_later hbB (cell_later hbA (y0_5_0)) | exact cell_later hbA (y0_5_1) | exact cell_later hbB (cell_later hbA (y0_5_1)) | exact cell_later hbA (y0_5_2) | exact cell_later hbB (cell_later hbA (y0_5_2)) | exact cell_later hbA (y0_5_3) | exact cell_later hbB (cell_later hbA (y0_5_3)) | exact cell_later hbA (cx_5_0) | exact cell_later hbB (cell_later hbA (cx_5_0)) | exact cell_later hbA (cx_5_1) | exact cell_later hbB (cell_later hbA (cx_5_1)) | exact cell_later hbA (cx_5_2) | exact cell_later hbB (cell_later hbA (cx_5_2)) | exact cell_later hbA (cx_5_3) | exact cell_later hbB (cell_later hbA (cx_5_3)))
      (first
        | (go_at_call 19; refine (unhide (TD0 _ u5.drew)).mono ?_; rintro e wA6 ⟨gc, hc, usc, psc, rfl, oc, hbA⟩)
        | (go_at_call 12; refine (eqYard_any _ _ _ _ _ _ _ _ _ _ _ _ (⟨no0, se0, f0, g0⟩ : YardL) _ (yardX_below (yardX_below tx_5 ((Below.refl _ _).drew)) hbA) oc (unhide FW)).mono ?_; rintro e wB6 ⟨rfl, hbB⟩))
    have hb : Below wC5.heap.size wC5 wB6 := (((Below.refl _ _).drew).trans hbA).trans (hbB.mono (hbA.size))
    clear hbA hbB
    have u6 := u5.trans (hb.mono u5.size)
    have s5 := hide hb.size
    have y0_6_0 := cell_later u6 (cellIn (i := 0) (unhide Y0) rfl)
    have y0_6_1 := cell_later u6 (cellIn (i := 1) (unhide Y0) rfl)
    have y0_6_2 := cell_later u6 (cellIn (i := 2) (unhide Y0) rfl)
    have y0_6_3 := cell_later u6 (cellIn (i := 3) (unhide Y0) rfl)
    have y1_6_0 := cell_later u6 (cellIn (i := 0) (unhide Y1) rfl)
    have y1_6_1 := cell_later u6 (cellIn (i := 1) (unhide Y1) rfl)
    have y1_6_2 := cell_later u6 (cellIn (i := 2) (unhide Y1) rfl)
    have y1_6_3 := cell_later u6 (cellIn (i := 3) (unhide Y1) rfl)
    have tx_6 := yardX_below tx_5 hb
    have hx_6 := heapLater hb hx_5
    have cx_6_0 := cellIn (i := 0) hx_6 rfl
    have cx_6_1 := cellIn (i := 1) hx_6 rfl
    have cx_6_2 := cellIn (i := 2) hx_6 rfl
    have cx_6_3 := cellIn (i := 3) hx_6 rfl
    clear hb y0_5_0 y0_5_1 y0_5_2 y0_5_3 y1_5_0 y1_5_1 y1_5_2 y1_5_3 cx_5_0 cx_5_1 cx_5_2 cx_5_3 u5 tx_5 hx_5
    clear oc
    have t := z0.trans (u6.mono z0.size)
    clear tx_6 hx_6 cx_6_0 cx_6_1 cx_6_2 cx_6_3 u6 y0_6_0 y0_6_1 y0_6_2 y0_6_3 y1_6_0 y1_6_1 y1_6_2 y1_6_3 TD0 HF0
    go_wp2
    go_ret
    exact ⟨rfl, t⟩

set_option maxRecDepth 100000 in
theorem lifted (os : Os) (started : os.Started) (H : Type) (enc : TypeId × Value → H) :
    ReturnsInHanded {} Try.checked os 6 .any (Rows.fnExactFreshSpec.pre6 enc Try.prog Try.f6 Rows.fnExactFreshRow.domain false) (Rows.fnExactFreshSpec.post enc Try.prog Try.f6 false true false false) := by
  refine returnsInHanded_of_change (C := Try.checked) own started (by kernel_rfl) Try.func6
    (ChangeSpec.witness6 (enc := enc) (C := Try.checked) false ⟨#[], #[.agg #[.int .i64 0, .int .i64 0, .slice none 0 0, .slice none 0 0], .agg #[.int .i64 0, .int .i64 0, .int .i64 0, .int .i64 0]], []⟩ 8 (by kernel_rfl) (by kernel_rfl) (by kernel_rfl) (by kernel_rfl)) ?_
  intro W base args ds gs before hval0 hW hcnd _
  have hval : ∀ (j : Nat) t v, Try.f6.params[j]? = some t → args[j]? = some v → Value.okWide Try.prog W .any base t v := hval0
  have hW' := hW
  obtain ⟨p, q, hA0, hV, rfl, hfz, hnd⟩ := hW
  have hA : DataW.TrodAll enc Try.prog W 0 (fun _ => true) true Try.f6.params.toList args.toList ds p := hA0
  rw [Try.params6] at hA hval
  obtain ⟨v0, vs0, d0, ds0, p0, q0, hargs, rfl, rfl, h0, r0⟩ := trodAll_cons hA
  obtain ⟨v1, vs1, d1, ds1, p1, q1, rfl, rfl, rfl, h1, r1⟩ := trodAll_cons r0
  obtain ⟨rfl, rfl, rfl⟩ := trodAll_nil r1
  obtain rfl : args = #[v0, v1] := by cases args; simp_all
  obtain ⟨rfl, rfl⟩ := trodVars_none hV
  have lt0 : ∀ x ∈ p0, x.block < W.heap.size := by obtain ⟨m, hm⟩ := h0; exact DataW.trod_lt m _ _ _ hm
  obtain ⟨a0, b0, c0, d0_, yy0_, rfl, w0, x0, y0⟩ := open_yard (hval 0 35 v0 rfl rfl) h0
  have lt1 : ∀ x ∈ p1, x.block < W.heap.size := by obtain ⟨m, hm⟩ := h1; exact DataW.trod_lt m _ _ _ hm
  obtain ⟨f1, rfl⟩ := open_Entry (hval 1 40 v1 rfl rfl) h1
  clear hA0 hval0
  refine (walk W a0 b0 c0 d0_ yy0_ f1 w0 x0 y0 ).mono fun e W' ⟨he, bel⟩ => ?_
  subst he
  exact ⟨_, rfl, _, _, _, [], _, [], hW', trodAll_mk1 (shut_bool Try.underlying4 _), (trodAll_cons_mk (Below.trod laidOut (by kernel_rfl) (of_decide_eq_true (by kernel_rfl)) h0 bel lt0) (trodAll_cons_mk (Below.trod laidOut (by kernel_rfl) (of_decide_eq_true (by kernel_rfl)) h1 bel lt1) trodAll_mk0)), rfl, bel.frame _, fun h => by cases h⟩

theorem over : Rows.fnExactFreshRow.holds Try.pinned (OpenSpec.ofChange Rows.fnExactFreshSpec) :=
  OpenClaim.holds_of_wide 6 Try.f6 rfl rfl rfl rfl rfl rfl rfl ⟨rfl, rfl, rfl, rfl, rfl⟩ rfl rfl rfl rfl rfl (by kernel_rfl) Try.func6 (by kernel_rfl)
    (of_decide_eq_true (by kernel_rfl)) (by unfold Func.isWrapper; first | (rw [if_pos (by decide +kernel)]; kernel_rfl) | (rw [if_neg (by decide +kernel)]; exact ⟨rfl, rfl⟩))
    (fun os started H enc _ => lifted os started H enc)

end Go.Proofs.Ytodlnhmlhpadbaa.fnExactFresh
namespace Go.Proofs.Ytodlnhmlhpadbaa
theorem fnExactFresh_holds : Rows.FnExactFreshSaid := fnExactFresh.over
#print axioms fnExactFresh_holds
end Go.Proofs.Ytodlnhmlhpadbaa
