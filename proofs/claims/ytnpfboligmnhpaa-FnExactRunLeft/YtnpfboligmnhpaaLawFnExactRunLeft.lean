/- For every run handed in, spec.RunLeft and impl.RunLeft of the given code answer the same run, in memory of its own, and nothing that was handed in is written: the statement FnExactRunLeft holds at every argument. -/
import Derived.Test.YtnpfboligmnhpaaRows
import Derived.WalkKit
import Derived.ProofKit
import Derived.OpenShut
import Derived.ShutString
import Derived.Test.YtnpfboligmnhpaaRowBase
import Derived.Test.YtnpfboligmnhpaaRunTo
import Derived.Test.YtnpfboligmnhpaaImplTells
import Derived.Test.YtnpfboligmnhpaaOpenRun
namespace Go.Proofs.Ytnpfboligmnhpaa.fnExactRunLeft
open Go.ChangeShapes Go.WideShapes Go.ChangeAt Go.RowKit
open Go.ChangeMaps (open_string shut_string)
open scoped Classical
set_option linter.unusedVariables false

theorem own : ownKnob Try.prog.godebug = none := by kernel_rfl
theorem laidOut : laidOutB Try.prog = true := by kernel_rfl

set_option maxRecDepth 100000 in
set_option maxHeartbeats 1600000 in
theorem walk (w : World) (a0 b0 : Option Addr) (c0 d0 : Nat) (r0 : RunL) (w0 : r0.plan.edges.length ≤ 9223372036854775807) (v0 : r0.tasks.length ≤ 9223372036854775807) (k0 : RunIn w w.heap.size a0 b0 r0) :
    Calls Try.prog 9 #[runV r0 (.slice a0 r0.plan.edges.length c0) (.slice b0 r0.tasks.length d0)] w fun e w' => e = .returned (.bool true) ∧ Below w.heap.size w w' := by
  obtain ⟨id0, ⟨pr0, mo0, wa0, ta0, f0⟩, st0, g0⟩ := r0
  dsimp only at w0 v0 k0
  dsimp only [runC, runV]
  have C0 := fun W (left : Int) (h0 : 0 ≤ left) (h1 : left ≤ 1048576) => hide (szRun_any a0 b0 c0 d0 (⟨id0, ⟨pr0, mo0, wa0, ta0, f0⟩, st0, g0⟩ : RunL) left W h0 h1 w0 v0)
  dsimp only [runC, runV] at C0
  have HK0 := hide k0
  clear k0
  go_enter Try.func9, Try.ntmps9
  go_wp2_with fail
  obtain ⟨W0, hW0⟩ : ∃ W0, W0 = w.alloc (Obj.cells #[.int .i64 id0, .int .i64 pr0, .int .i64 mo0, .int .i64 wa0, .int .i64 ta0, .slice a0 f0.length c0, .int .i64 st0, .slice b0 g0.length d0] 53) := ⟨_, rfl⟩
  have Y0 : Hid (W0.heap[w.heap.size]? = some (.cells #[.int .i64 id0, .int .i64 pr0, .int .i64 mo0, .int .i64 wa0, .int .i64 ta0, .slice a0 f0.length c0, .int .i64 st0, .slice b0 g0.length d0] 53 (0, 0))) := by rw [hW0]; exact hide (by exact allocAt _ _ _ (by simp))
  have z0 : Below w.heap.size w W0 := by rw [hW0]; exact (Below.refl _ _).alloc (by simp) _
  have zW : w.heap.size + 1 ≤ W0.heap.size := by rw [hW0]; simp
  rw [← hW0]
  clear hW0
  have HF0 := hide (runIn_on (unhide HK0) z0)
  clear HK0
  refine (unhide (C0 _ 1048576 (by omega) (by omega))).mono ?_
  rintro e w1 ⟨r0_, rfl, hr0, hcase, hb⟩
  have u1 : Below W0.heap.size W0 w1 := hb
  clear hb C0
  rcases hcase with hr1 | ⟨hr00, hn0, hm0⟩
  · subst hr1
    clear HF0 
    go_wp2
    go_ret
    exact ⟨rfl, z0.trans (u1.mono z0.size)⟩
  · skip
    have TD0 := fun W (h : Below W0.heap.size W0 W) => hide (toRun_any a0 b0 c0 d0 (⟨id0, ⟨pr0, mo0, wa0, ta0, f0⟩, st0, g0⟩ : RunL) W hn0 hm0 (runIn_on (unhide HF0) h))
    dsimp only [runC, runV] at TD0
    have SU : Hid (W0.heap.size ≤ w1.heap.size) := hide u1.size
    have y0_1_0 := cell_later u1 (cellIn (i := 0) (unhide Y0) rfl)
    have y0_1_1 := cell_later u1 (cellIn (i := 1) (unhide Y0) rfl)
    have y0_1_2 := cell_later u1 (cellIn (i := 2) (unhide Y0) rfl)
    have y0_1_3 := cell_later u1 (cellIn (i := 3) (unhide Y0) rfl)
    have y0_1_4 := cell_later u1 (cellIn (i := 4) (unhide Y0) rfl)
    have y0_1_5 := cell_later u1 (cellIn (i := 5) (unhide Y0) rfl)
    have y0_1_6 := cell_later u1 (cellIn (i := 6) (unhide Y0) rfl)
    have y0_1_7 := cell_later u1 (cellIn (i := 7) (unhide Y0) rfl)
    obtain ⟨r2, HR⟩ := left_ex (⟨id0, ⟨pr0, mo0, wa0, ta0, f0⟩, st0, g0⟩ : RunL)
    have XL := left_len HR
    have SP := fun (W : World) (ve vt : Value) (lo hi : Nat) (h : RunX W lo hi ve vt (⟨id0, ⟨pr0, mo0, wa0, ta0, f0⟩, st0, g0⟩ : RunL)) => hide (specLeftX ve vt lo hi (⟨id0, ⟨pr0, mo0, wa0, ta0, f0⟩, st0, g0⟩ : RunL) r2 HR W h (by dsimp only; omega) (by dsimp only; omega))
    have IM := fun (W : World) (ve vt : Value) (lo hi : Nat) (h : RunX W lo hi ve vt (⟨id0, ⟨pr0, mo0, wa0, ta0, f0⟩, st0, g0⟩ : RunL)) => hide (implLeftX ve vt lo hi (⟨id0, ⟨pr0, mo0, wa0, ta0, f0⟩, st0, g0⟩ : RunL) r2 HR W h (by dsimp only; omega) (by dsimp only; omega))
    clear HR
    obtain ⟨xi, ⟨x1, x2, x3, x4, xe⟩, xs, xt⟩ := r2
    dsimp only at XL
    obtain ⟨XE, XT⟩ := XL
    have LE : xe.length ≤ 1048576 := by rw [XE]; exact hn0
    have LT : xt.length ≤ 1048576 := by rw [XT]; exact hm0
    clear XE XT
    dsimp only [runV, runC] at SP IM
    go_wp2_with fail
    refine (unhide (TD0 _ u1)).mono ?_
    rintro e w2 ⟨ga, ha, rfl, oa, hb⟩
    have nt := runX_new oa
    clear oa
    have u2 := u1.trans (hb.mono u1.size)
    have s1 := hide hb.size
    have y0_2_0 := cell_later u2 (cellIn (i := 0) (unhide Y0) rfl)
    have y0_2_1 := cell_later u2 (cellIn (i := 1) (unhide Y0) rfl)
    have y0_2_2 := cell_later u2 (cellIn (i := 2) (unhide Y0) rfl)
    have y0_2_3 := cell_later u2 (cellIn (i := 3) (unhide Y0) rfl)
    have y0_2_4 := cell_later u2 (cellIn (i := 4) (unhide Y0) rfl)
    have y0_2_5 := cell_later u2 (cellIn (i := 5) (unhide Y0) rfl)
    have y0_2_6 := cell_later u2 (cellIn (i := 6) (unhide Y0) rfl)
    have y0_2_7 := cell_later u2 (cellIn (i := 7) (unhide Y0) rfl)
    clear hb y0_1_0 y0_1_1 y0_1_2 y0_1_3 y0_1_4 y0_1_5 y0_1_6 y0_1_7 u1
    have ta_2 := nt
    clear nt
    go_wp2_with fail
    refine (unhide (SP _ _ _ _ _ ta_2)).mono ?_
    rintro e w3 ⟨ves, vts, rfl, os, hb⟩
    have oa := os.edges
    have ob := os.tasks
    dsimp only at oa ob
    obtain ⟨qs, ms, rfl, -⟩ := ownsRow_shape oa
    obtain ⟨ps, ns, rfl, -⟩ := ownsRow_shape ob
    clear oa ob
    clear ta_2
    have nt := runX_new os
    clear os
    have u3 := u2.trans (hb.mono u2.size)
    have s2 := hide hb.size
    have y0_3_0 := cell_later u3 (cellIn (i := 0) (unhide Y0) rfl)
    have y0_3_1 := cell_later u3 (cellIn (i := 1) (unhide Y0) rfl)
    have y0_3_2 := cell_later u3 (cellIn (i := 2) (unhide Y0) rfl)
    have y0_3_3 := cell_later u3 (cellIn (i := 3) (unhide Y0) rfl)
    have y0_3_4 := cell_later u3 (cellIn (i := 4) (unhide Y0) rfl)
    have y0_3_5 := cell_later u3 (cellIn (i := 5) (unhide Y0) rfl)
    have y0_3_6 := cell_later u3 (cellIn (i := 6) (unhide Y0) rfl)
    have y0_3_7 := cell_later u3 (cellIn (i := 7) (unhide Y0) rfl)
    clear hb y0_2_0 y0_2_1 y0_2_2 y0_2_3 y0_2_4 y0_2_5 y0_2_6 y0_2_7 u2
    have ts_3 := nt
    clear nt
    clear SP
    have hws0 : w.heap.size < w3.heap.size := by have := u3.size; omega
    go_wp2_with fail
    clear hws0 
    obtain ⟨w4, hV⟩ : ∃ V, V = w3.alloc (Obj.cells #[.int .i64 xi, .int .i64 x1, .int .i64 x2, .int .i64 x3, .int .i64 x4, .slice qs xe.length ms, .int .i64 xs, .slice ps xt.length ns] 29) := ⟨_, rfl⟩
    have hb : Below w3.heap.size w3 w4 := by rw [hV]; exact (Below.refl _ _).alloc (Nat.le_refl _) _
    have nh : w4.heap[w3.heap.size]? = some (.cells #[.int .i64 xi, .int .i64 x1, .int .i64 x2, .int .i64 x3, .int .i64 x4, .slice qs xe.length ms, .int .i64 xs, .slice ps xt.length ns] 29 (0, 0)) := by rw [hV]; exact heap_alloc_new w3 _
    have nz : Hid (w4.heap.size = w3.heap.size + 1) := hide (by rw [hV]; simp)
    obtain ⟨bs, hBs⟩ : ∃ b, b = w3.heap.size := ⟨_, rfl⟩
    rw [← hBs] at nh
    rw [← hV, ← hBs]
    have Bs := hide hBs
    have Ns := nz
    clear hV hBs nz
    have u4 := u3.trans (hb.mono u3.size)
    have s3 := hide hb.size
    have y0_4_0 := cell_later u4 (cellIn (i := 0) (unhide Y0) rfl)
    have y0_4_1 := cell_later u4 (cellIn (i := 1) (unhide Y0) rfl)
    have y0_4_2 := cell_later u4 (cellIn (i := 2) (unhide Y0) rfl)
    have y0_4_3 := cell_later u4 (cellIn (i := 3) (unhide Y0) rfl)
    have y0_4_4 := cell_later u4 (cellIn (i := 4) (unhide Y0) rfl)
    have y0_4_5 := cell_later u4 (cellIn (i := 5) (unhide Y0) rfl)
    have y0_4_6 := cell_later u4 (cellIn (i := 6) (unhide Y0) rfl)
    have y0_4_7 := cell_later u4 (cellIn (i := 7) (unhide Y0) rfl)
    have ts_4 := runX_below ts_3 hb
    clear hb y0_3_0 y0_3_1 y0_3_2 y0_3_3 y0_3_4 y0_3_5 y0_3_6 y0_3_7 u3 ts_3
    have hs_4 := nh
    have cs_4_0 := cellIn (i := 0) hs_4 rfl
    have cs_4_1 := cellIn (i := 1) hs_4 rfl
    have cs_4_2 := cellIn (i := 2) hs_4 rfl
    have cs_4_3 := cellIn (i := 3) hs_4 rfl
    have cs_4_4 := cellIn (i := 4) hs_4 rfl
    have cs_4_5 := cellIn (i := 5) hs_4 rfl
    have cs_4_6 := cellIn (i := 6) hs_4 rfl
    have cs_4_7 := cellIn (i := 7) hs_4 rfl
    clear nh
    refine (unhide (TD0 _ u4)).mono ?_
    rintro e w5 ⟨gx, hx, rfl, ox, hb⟩
    have nt := runX_new ox
    clear ox
    have u5 := u4.trans (hb.mono u4.size)
    have s4 := hide hb.size
    have y0_5_0 := cell_later u5 (cellIn (i := 0) (unhide Y0) rfl)
    have y0_5_1 := cell_later u5 (cellIn (i := 1) (unhide Y0) rfl)
    have y0_5_2 := cell_later u5 (cellIn (i := 2) (unhide Y0) rfl)
    have y0_5_3 := cell_later u5 (cellIn (i := 3) (unhide Y0) rfl)
    have y0_5_4 := cell_later u5 (cellIn (i := 4) (unhide Y0) rfl)
    have y0_5_5 := cell_later u5 (cellIn (i := 5) (unhide Y0) rfl)
    have y0_5_6 := cell_later u5 (cellIn (i := 6) (unhide Y0) rfl)
    have y0_5_7 := cell_later u5 (cellIn (i := 7) (unhide Y0) rfl)
    have ts_5 := runX_below ts_4 hb
    have hs_5 := heapLater hb hs_4
    have cs_5_0 := cellIn (i := 0) hs_5 rfl
    have cs_5_1 := cellIn (i := 1) hs_5 rfl
    have cs_5_2 := cellIn (i := 2) hs_5 rfl
    have cs_5_3 := cellIn (i := 3) hs_5 rfl
    have cs_5_4 := cellIn (i := 4) hs_5 rfl
    have cs_5_5 := cellIn (i := 5) hs_5 rfl
    have cs_5_6 := cellIn (i := 6) hs_5 rfl
    have cs_5_7 := cellIn (i := 7) hs_5 rfl
    clear hb y0_4_0 y0_4_1 y0_4_2 y0_4_3 y0_4_4 y0_4_5 y0_4_6 y0_4_7 cs_4_0 cs_4_1 cs_4_2 cs_4_3 cs_4_4 cs_4_5 cs_4_6 cs_4_7 u4 ts_4 hs_4
    have tx_5 := nt
    clear nt
    have lts : bs < w5.heap.size := (Array.getElem?_eq_some_iff.1 hs_5).1
    have hws0 : w.heap.size < w5.heap.size := by have := u5.size; omega
    go_wp2_with fail
    clear hws0 lts
    obtain ⟨w6, hV⟩ : ∃ V, V = w5.alloc (Obj.cells #[.int .i64 id0, .int .i64 pr0, .int .i64 mo0, .int .i64 wa0, .int .i64 ta0, .slice (some ⟨gx, 0, none⟩) f0.length f0.length, .int .i64 st0, .slice (some ⟨hx, 0, none⟩) g0.length g0.length] 29) := ⟨_, rfl⟩
    have hb : Below w5.heap.size w5 w6 := by rw [hV]; exact (Below.refl _ _).alloc (Nat.le_refl _) _
    have nh : w6.heap[w5.heap.size]? = some (.cells #[.int .i64 id0, .int .i64 pr0, .int .i64 mo0, .int .i64 wa0, .int .i64 ta0, .slice (some ⟨gx, 0, none⟩) f0.length f0.length, .int .i64 st0, .slice (some ⟨hx, 0, none⟩) g0.length g0.length] 29 (0, 0)) := by rw [hV]; exact heap_alloc_new w5 _
    have nz : Hid (w6.heap.size = w5.heap.size + 1) := hide (by rw [hV]; simp)
    obtain ⟨bx, hBx⟩ : ∃ b, b = w5.heap.size := ⟨_, rfl⟩
    rw [← hBx] at nh
    rw [← hV, ← hBx]
    have Bx := hide hBx
    have Nx := nz
    clear hV hBx nz
    have u6 := u5.trans (hb.mono u5.size)
    have s5 := hide hb.size
    have y0_6_0 := cell_later u6 (cellIn (i := 0) (unhide Y0) rfl)
    have y0_6_1 := cell_later u6 (cellIn (i := 1) (unhide Y0) rfl)
    have y0_6_2 := cell_later u6 (cellIn (i := 2) (unhide Y0) rfl)
    have y0_6_3 := cell_later u6 (cellIn (i := 3) (unhide Y0) rfl)
    have y0_6_4 := cell_later u6 (cellIn (i := 4) (unhide Y0) rfl)
    have y0_6_5 := cell_later u6 (cellIn (i := 5) (unhide Y0) rfl)
    have y0_6_6 := cell_later u6 (cellIn (i := 6) (unhide Y0) rfl)
    have y0_6_7 := cell_later u6 (cellIn (i := 7) (unhide Y0) rfl)
    have ts_6 := runX_below ts_5 hb
    have tx_6 := runX_below tx_5 hb
    have hs_6 := heapLater hb hs_5
    have cs_6_0 := cellIn (i := 0) hs_6 rfl
    have cs_6_1 := cellIn (i := 1) hs_6 rfl
    have cs_6_2 := cellIn (i := 2) hs_6 rfl
    have cs_6_3 := cellIn (i := 3) hs_6 rfl
    have cs_6_4 := cellIn (i := 4) hs_6 rfl
    have cs_6_5 := cellIn (i := 5) hs_6 rfl
    have cs_6_6 := cellIn (i := 6) hs_6 rfl
    have cs_6_7 := cellIn (i := 7) hs_6 rfl
    clear hb y0_5_0 y0_5_1 y0_5_2 y0_5_3 y0_5_4 y0_5_5 y0_5_6 y0_5_7 cs_5_0 cs_5_1 cs_5_2 cs_5_3 cs_5_4 cs_5_5 cs_5_6 cs_5_7 u5 ts_5 tx_5 hs_5
    have hx_6 := nh
    have cx_6_0 := cellIn (i := 0) hx_6 rfl
    have cx_6_1 := cellIn (i := 1) hx_6 rfl
    have cx_6_2 := cellIn (i := 2) hx_6 rfl
    have cx_6_3 := cellIn (i := 3) hx_6 rfl
    have cx_6_4 := cellIn (i := 4) hx_6 rfl
    have cx_6_5 := cellIn (i := 5) hx_6 rfl
    have cx_6_6 := cellIn (i := 6) hx_6 rfl
    have cx_6_7 := cellIn (i := 7) hx_6 rfl
    clear nh
    refine (unhide (IM _ _ _ _ _ tx_6)).mono ?_
    rintro e w7 ⟨veg, vtg, rfl, og, hb⟩
    have oa := og.edges
    have ob := og.tasks
    dsimp only at oa ob
    obtain ⟨qg, mg, rfl, -⟩ := ownsRow_shape oa
    obtain ⟨pg, ng, rfl, -⟩ := ownsRow_shape ob
    clear oa ob
    have nt := runX_new og
    clear og
    have u7 := u6.trans (hb.mono u6.size)
    have s6 := hide hb.size
    have y0_7_0 := cell_later u7 (cellIn (i := 0) (unhide Y0) rfl)
    have y0_7_1 := cell_later u7 (cellIn (i := 1) (unhide Y0) rfl)
    have y0_7_2 := cell_later u7 (cellIn (i := 2) (unhide Y0) rfl)
    have y0_7_3 := cell_later u7 (cellIn (i := 3) (unhide Y0) rfl)
    have y0_7_4 := cell_later u7 (cellIn (i := 4) (unhide Y0) rfl)
    have y0_7_5 := cell_later u7 (cellIn (i := 5) (unhide Y0) rfl)
    have y0_7_6 := cell_later u7 (cellIn (i := 6) (unhide Y0) rfl)
    have y0_7_7 := cell_later u7 (cellIn (i := 7) (unhide Y0) rfl)
    have ts_7 := runX_below ts_6 hb
    have tx_7 := runX_below tx_6 hb
    have hs_7 := heapLater hb hs_6
    have cs_7_0 := cellIn (i := 0) hs_7 rfl
    have cs_7_1 := cellIn (i := 1) hs_7 rfl
    have cs_7_2 := cellIn (i := 2) hs_7 rfl
    have cs_7_3 := cellIn (i := 3) hs_7 rfl
    have cs_7_4 := cellIn (i := 4) hs_7 rfl
    have cs_7_5 := cellIn (i := 5) hs_7 rfl
    have cs_7_6 := cellIn (i := 6) hs_7 rfl
    have cs_7_7 := cellIn (i := 7) hs_7 rfl
    have hx_7 := heapLater hb hx_6
    have cx_7_0 := cellIn (i := 0) hx_7 rfl
    have cx_7_1 := cellIn (i := 1) hx_7 rfl
    have cx_7_2 := cellIn (i := 2) hx_7 rfl
    have cx_7_3 := cellIn (i := 3) hx_7 rfl
    have cx_7_4 := cellIn (i := 4) hx_7 rfl
    have cx_7_5 := cellIn (i := 5) hx_7 rfl
    have cx_7_6 := cellIn (i := 6) hx_7 rfl
    have cx_7_7 := cellIn (i := 7) hx_7 rfl
    clear hb y0_6_0 y0_6_1 y0_6_2 y0_6_3 y0_6_4 y0_6_5 y0_6_6 y0_6_7 cs_6_0 cs_6_1 cs_6_2 cs_6_3 cs_6_4 cs_6_5 cs_6_6 cs_6_7 cx_6_0 cx_6_1 cx_6_2 cx_6_3 cx_6_4 cx_6_5 cx_6_6 cx_6_7 u6 ts_6 tx_6 hs_6 hx_6
    have tg_7 := nt
    clear nt
    have lts : bs < w7.heap.size := (Array.getElem?_eq_some_iff.1 hs_7).1
    have ltx : bx < w7.heap.size := (Array.getElem?_eq_some_iff.1 hx_7).1
    have hws0 : w.heap.size < w7.heap.size := by have := u7.size; omega
    go_wp2_with fail
    clear hws0 lts ltx
    obtain ⟨w8, hV⟩ : ∃ V, V = w7.alloc (Obj.cells #[.int .i64 xi, .int .i64 x1, .int .i64 x2, .int .i64 x3, .int .i64 x4, .slice qg xe.length mg, .int .i64 xs, .slice pg xt.length ng] 29) := ⟨_, rfl⟩
    have hb : Below w7.heap.size w7 w8 := by rw [hV]; exact (Below.refl _ _).alloc (Nat.le_refl _) _
    have nh : w8.heap[w7.heap.size]? = some (.cells #[.int .i64 xi, .int .i64 x1, .int .i64 x2, .int .i64 x3, .int .i64 x4, .slice qg xe.length mg, .int .i64 xs, .slice pg xt.length ng] 29 (0, 0)) := by rw [hV]; exact heap_alloc_new w7 _
    have nz : Hid (w8.heap.size = w7.heap.size + 1) := hide (by rw [hV]; simp)
    obtain ⟨bg, hBg⟩ : ∃ b, b = w7.heap.size := ⟨_, rfl⟩
    rw [← hBg] at nh
    rw [← hV, ← hBg]
    have Bg := hide hBg
    have Ng := nz
    clear hV hBg nz
    have u8 := u7.trans (hb.mono u7.size)
    have s7 := hide hb.size
    have y0_8_0 := cell_later u8 (cellIn (i := 0) (unhide Y0) rfl)
    have y0_8_1 := cell_later u8 (cellIn (i := 1) (unhide Y0) rfl)
    have y0_8_2 := cell_later u8 (cellIn (i := 2) (unhide Y0) rfl)
    have y0_8_3 := cell_later u8 (cellIn (i := 3) (unhide Y0) rfl)
    have y0_8_4 := cell_later u8 (cellIn (i := 4) (unhide Y0) rfl)
    have y0_8_5 := cell_later u8 (cellIn (i := 5) (unhide Y0) rfl)
    have y0_8_6 := cell_later u8 (cellIn (i := 6) (unhide Y0) rfl)
    have y0_8_7 := cell_later u8 (cellIn (i := 7) (unhide Y0) rfl)
    have ts_8 := runX_below ts_7 hb
    have tx_8 := runX_below tx_7 hb
    have tg_8 := runX_below tg_7 hb
    have hs_8 := heapLater hb hs_7
    have cs_8_0 := cellIn (i := 0) hs_8 rfl
    have cs_8_1 := cellIn (i := 1) hs_8 rfl
    have cs_8_2 := cellIn (i := 2) hs_8 rfl
    have cs_8_3 := cellIn (i := 3) hs_8 rfl
    have cs_8_4 := cellIn (i := 4) hs_8 rfl
    have cs_8_5 := cellIn (i := 5) hs_8 rfl
    have cs_8_6 := cellIn (i := 6) hs_8 rfl
    have cs_8_7 := cellIn (i := 7) hs_8 rfl
    have hx_8 := heapLater hb hx_7
    have cx_8_0 := cellIn (i := 0) hx_8 rfl
    have cx_8_1 := cellIn (i := 1) hx_8 rfl
    have cx_8_2 := cellIn (i := 2) hx_8 rfl
    have cx_8_3 := cellIn (i := 3) hx_8 rfl
    have cx_8_4 := cellIn (i := 4) hx_8 rfl
    have cx_8_5 := cellIn (i := 5) hx_8 rfl
    have cx_8_6 := cellIn (i := 6) hx_8 rfl
    have cx_8_7 := cellIn (i := 7) hx_8 rfl
    clear hb y0_7_0 y0_7_1 y0_7_2 y0_7_3 y0_7_4 y0_7_5 y0_7_6 y0_7_7 cs_7_0 cs_7_1 cs_7_2 cs_7_3 cs_7_4 cs_7_5 cs_7_6 cs_7_7 cx_7_0 cx_7_1 cx_7_2 cx_7_3 cx_7_4 cx_7_5 cx_7_6 cx_7_7 u7 ts_7 tx_7 tg_7 hs_7 hx_7
    have hg_8 := nh
    have cg_8_0 := cellIn (i := 0) hg_8 rfl
    have cg_8_1 := cellIn (i := 1) hg_8 rfl
    have cg_8_2 := cellIn (i := 2) hg_8 rfl
    have cg_8_3 := cellIn (i := 3) hg_8 rfl
    have cg_8_4 := cellIn (i := 4) hg_8 rfl
    have cg_8_5 := cellIn (i := 5) hg_8 rfl
    have cg_8_6 := cellIn (i := 6) hg_8 rfl
    have cg_8_7 := cellIn (i := 7) hg_8 rfl
    clear nh
    refine (eqRun_any _ _ _ _ _ _ (⟨xi, ⟨x1, x2, x3, x4, xe⟩, xs, xt⟩ : RunL) _ (runX_own tg_8) (runX_own ts_8) (by dsimp only; omega) (by dsimp only; omega)).mono ?_
    rintro e w9 ⟨rfl, hb⟩
    have u9 := u8.trans (hb.mono u8.size)
    have s8 := hide hb.size
    have y0_9_0 := cell_later u9 (cellIn (i := 0) (unhide Y0) rfl)
    have y0_9_1 := cell_later u9 (cellIn (i := 1) (unhide Y0) rfl)
    have y0_9_2 := cell_later u9 (cellIn (i := 2) (unhide Y0) rfl)
    have y0_9_3 := cell_later u9 (cellIn (i := 3) (unhide Y0) rfl)
    have y0_9_4 := cell_later u9 (cellIn (i := 4) (unhide Y0) rfl)
    have y0_9_5 := cell_later u9 (cellIn (i := 5) (unhide Y0) rfl)
    have y0_9_6 := cell_later u9 (cellIn (i := 6) (unhide Y0) rfl)
    have y0_9_7 := cell_later u9 (cellIn (i := 7) (unhide Y0) rfl)
    have ts_9 := runX_below ts_8 hb
    have tx_9 := runX_below tx_8 hb
    have tg_9 := runX_below tg_8 hb
    have hs_9 := heapLater hb hs_8
    have cs_9_0 := cellIn (i := 0) hs_9 rfl
    have cs_9_1 := cellIn (i := 1) hs_9 rfl
    have cs_9_2 := cellIn (i := 2) hs_9 rfl
    have cs_9_3 := cellIn (i := 3) hs_9 rfl
    have cs_9_4 := cellIn (i := 4) hs_9 rfl
    have cs_9_5 := cellIn (i := 5) hs_9 rfl
    have cs_9_6 := cellIn (i := 6) hs_9 rfl
    have cs_9_7 := cellIn (i := 7) hs_9 rfl
    have hx_9 := heapLater hb hx_8
    have cx_9_0 := cellIn (i := 0) hx_9 rfl
    have cx_9_1 := cellIn (i := 1) hx_9 rfl
    have cx_9_2 := cellIn (i := 2) hx_9 rfl
    have cx_9_3 := cellIn (i := 3) hx_9 rfl
    have cx_9_4 := cellIn (i := 4) hx_9 rfl
    have cx_9_5 := cellIn (i := 5) hx_9 rfl
    have cx_9_6 := cellIn (i := 6) hx_9 rfl
    have cx_9_7 := cellIn (i := 7) hx_9 rfl
    have hg_9 := heapLater hb hg_8
    have cg_9_0 := cellIn (i := 0) hg_9 rfl
    have cg_9_1 := cellIn (i := 1) hg_9 rfl
    have cg_9_2 := cellIn (i := 2) hg_9 rfl
    have cg_9_3 := cellIn (i := 3) hg_9 rfl
    have cg_9_4 := cellIn (i := 4) hg_9 rfl
    have cg_9_5 := cellIn (i := 5) hg_9 rfl
    have cg_9_6 := cellIn (i := 6) hg_9 rfl
    have cg_9_7 := cellIn (i := 7) hg_9 rfl
    clear hb y0_8_0 y0_8_1 y0_8_2 y0_8_3 y0_8_4 y0_8_5 y0_8_6 y0_8_7 cs_8_0 cs_8_1 cs_8_2 cs_8_3 cs_8_4 cs_8_5 cs_8_6 cs_8_7 cx_8_0 cx_8_1 cx_8_2 cx_8_3 cx_8_4 cx_8_5 cx_8_6 cx_8_7 cg_8_0 cg_8_1 cg_8_2 cg_8_3 cg_8_4 cg_8_5 cg_8_6 cg_8_7 u8 ts_8 tx_8 tg_8 hs_8 hx_8 hg_8
    go_wp2_with fail
    go_region_held3 (fun w' => w'.cell? ⟨w.heap.size, 0, none⟩ = some (.int .i64 id0) ∧ w'.cell? ⟨w.heap.size, 1, none⟩ = some (.int .i64 pr0) ∧ w'.cell? ⟨w.heap.size, 2, none⟩ = some (.int .i64 mo0) ∧ w'.cell? ⟨w.heap.size, 3, none⟩ = some (.int .i64 wa0) ∧ w'.cell? ⟨w.heap.size, 4, none⟩ = some (.int .i64 ta0) ∧ w'.cell? ⟨w.heap.size, 5, none⟩ = some (.slice a0 f0.length c0) ∧ w'.cell? ⟨w.heap.size, 6, none⟩ = some (.int .i64 st0) ∧ w'.cell? ⟨w.heap.size, 7, none⟩ = some (.slice b0 g0.length d0) ∧ w'.cell? ⟨bx, 0, none⟩ = some (.int .i64 id0) ∧ w'.cell? ⟨bx, 1, none⟩ = some (.int .i64 pr0) ∧ w'.cell? ⟨bx, 2, none⟩ = some (.int .i64 mo0) ∧ w'.cell? ⟨bx, 3, none⟩ = some (.int .i64 wa0) ∧ w'.cell? ⟨bx, 4, none⟩ = some (.int .i64 ta0) ∧ w'.cell? ⟨bx, 5, none⟩ = some (.slice (some ⟨gx, 0, none⟩) f0.length f0.length) ∧ w'.cell? ⟨bx, 6, none⟩ = some (.int .i64 st0) ∧ w'.cell? ⟨bx, 7, none⟩ = some (.slice (some ⟨hx, 0, none⟩) g0.length g0.length))
      (refine ⟨?_, ?_, ?_, ?_, ?_, ?_, ?_, ?_, ?_, ?_, ?_, ?_, ?_, ?_, ?_, ?_⟩ <;> first | go_keep | exact cell_later hbA (y0_9_0) | exact cell_later hbB (cell_later hbA (y0_9_0)) | exact cell_later hbA (y0_9_1) | exact cell_later hbB (cell_later hbA (y0_9_1)) | exact cell_later hbA (y0_9_2) | exact cell_later hbB (cell_later hbA (y0_9_2)) | exact cell_later hbA (y0_9_3) | exact cell_later hbB (cell_later hbA (y0_9_3)) | exact cell_later hbA (y0_9_4) | exact cell_later hbB (cell_later hbA (y0_9_4)) | exact cell_later hbA (y0_9_5) | exact cell_later hbB (cell_later hbA (y0_9_5)) | exact cell_later hbA (y0_9_6) | exact cell_later hbB (cell_later hbA (y0_9_6)) | exact cell_later hbA (y0_9_7) | exact cell_later hbB (cell_later hbA (y0_9_7)) | exact cell_later hbA (cx_9_0) | exact cell_later hbB (cell_later hbA (cx_9_0)) | exact cell_later hbA (cx_9_1) | exact cell_later hbB (cell_later hbA (cx_9_1)) | exact cell_later hbA (cx_9_2) | exact cell_later hbB (cell_later hbA (cx_9_2)) | exact cell_later hbA (cx_9_3) | exact cell_later hbB (cell_later hbA (cx_9_3)) | exact cell_later hbA (cx_9_4) | exact cell_later hbB (cell_later hbA (cx_9_4)) | exact cell_later hbA (cx_9_5) | exact cell_later hbB (cell_later hbA (cx_9_5)) | exact cell_later hbA (cx_9_6) | exact cell_later hbB (cell_later hbA (cx_9_6)) | exact cell_later hbA (cx_9_7) | exact cell_later hbB (cell_later hbA (cx_9_7)))
      (first
        | (go_at_call 34; refine (unhide (TD0 _ u9.drew)).mono ?_; rintro e wA10 ⟨gc, hc, rfl, oc, hbA⟩)
        | (go_at_call 27; refine (eqRun_any _ _ _ _ _ _ (⟨id0, ⟨pr0, mo0, wa0, ta0, f0⟩, st0, g0⟩ : RunL) _ (runX_own (runX_below (runX_below tx_9 ((Below.refl _ _).drew)) hbA)) oc (by dsimp only; omega) (by dsimp only; omega)).mono ?_; rintro e wB10 ⟨rfl, hbB⟩))
    have hb : Below w9.heap.size w9 wB10 := (((Below.refl _ _).drew).trans hbA).trans (hbB.mono (hbA.size))
    clear hbA hbB
    have u10 := u9.trans (hb.mono u9.size)
    have s9 := hide hb.size
    have y0_10_0 := cell_later u10 (cellIn (i := 0) (unhide Y0) rfl)
    have y0_10_1 := cell_later u10 (cellIn (i := 1) (unhide Y0) rfl)
    have y0_10_2 := cell_later u10 (cellIn (i := 2) (unhide Y0) rfl)
    have y0_10_3 := cell_later u10 (cellIn (i := 3) (unhide Y0) rfl)
    have y0_10_4 := cell_later u10 (cellIn (i := 4) (unhide Y0) rfl)
    have y0_10_5 := cell_later u10 (cellIn (i := 5) (unhide Y0) rfl)
    have y0_10_6 := cell_later u10 (cellIn (i := 6) (unhide Y0) rfl)
    have y0_10_7 := cell_later u10 (cellIn (i := 7) (unhide Y0) rfl)
    have ts_10 := runX_below ts_9 hb
    have tx_10 := runX_below tx_9 hb
    have tg_10 := runX_below tg_9 hb
    have hs_10 := heapLater hb hs_9
    have cs_10_0 := cellIn (i := 0) hs_10 rfl
    have cs_10_1 := cellIn (i := 1) hs_10 rfl
    have cs_10_2 := cellIn (i := 2) hs_10 rfl
    have cs_10_3 := cellIn (i := 3) hs_10 rfl
    have cs_10_4 := cellIn (i := 4) hs_10 rfl
    have cs_10_5 := cellIn (i := 5) hs_10 rfl
    have cs_10_6 := cellIn (i := 6) hs_10 rfl
    have cs_10_7 := cellIn (i := 7) hs_10 rfl
    have hx_10 := heapLater hb hx_9
    have cx_10_0 := cellIn (i := 0) hx_10 rfl
    have cx_10_1 := cellIn (i := 1) hx_10 rfl
    have cx_10_2 := cellIn (i := 2) hx_10 rfl
    have cx_10_3 := cellIn (i := 3) hx_10 rfl
    have cx_10_4 := cellIn (i := 4) hx_10 rfl
    have cx_10_5 := cellIn (i := 5) hx_10 rfl
    have cx_10_6 := cellIn (i := 6) hx_10 rfl
    have cx_10_7 := cellIn (i := 7) hx_10 rfl
    have hg_10 := heapLater hb hg_9
    have cg_10_0 := cellIn (i := 0) hg_10 rfl
    have cg_10_1 := cellIn (i := 1) hg_10 rfl
    have cg_10_2 := cellIn (i := 2) hg_10 rfl
    have cg_10_3 := cellIn (i := 3) hg_10 rfl
    have cg_10_4 := cellIn (i := 4) hg_10 rfl
    have cg_10_5 := cellIn (i := 5) hg_10 rfl
    have cg_10_6 := cellIn (i := 6) hg_10 rfl
    have cg_10_7 := cellIn (i := 7) hg_10 rfl
    clear hb y0_9_0 y0_9_1 y0_9_2 y0_9_3 y0_9_4 y0_9_5 y0_9_6 y0_9_7 cs_9_0 cs_9_1 cs_9_2 cs_9_3 cs_9_4 cs_9_5 cs_9_6 cs_9_7 cx_9_0 cx_9_1 cx_9_2 cx_9_3 cx_9_4 cx_9_5 cx_9_6 cx_9_7 cg_9_0 cg_9_1 cg_9_2 cg_9_3 cg_9_4 cg_9_5 cg_9_6 cg_9_7 u9 ts_9 tx_9 tg_9 hs_9 hx_9 hg_9
    clear oc
    obtain ⟨mx, hm⟩ : ∃ m : Nat, m = 1 + sizeR (⟨id0, ⟨pr0, mo0, wa0, ta0, f0⟩, st0, g0⟩ : RunL) := ⟨_, rfl⟩
    have MK := hide (markRunX _ _ _ _ 1 (⟨id0, ⟨pr0, mo0, wa0, ta0, f0⟩, st0, g0⟩ : RunL) wB10 tx_10 (by dsimp only; omega) (by dsimp only; omega) (by omega) (by omega))
    try dsimp only [runV, runC, planV] at MK
    try dsimp only at MK
    rw [← hm] at MK
    have Hmx := hide hm
    have mx9 : mx ≤ 8000000 := by rw [hm]; unfold sizeR; dsimp only; omega
    have mx8 : 1 ≤ mx := by omega
    clear hm
    have mx0 : decide ((mx : Int) < 0) = false := decide_eq_false (by omega)
    have mx1 : ((mx : Int) != (mx : Int)) = false := by simp
    go_wp2_with fail
    refine (unhide MK).mono ?_
    rintro e w11 ⟨rfl, nx, hw⟩
    clear MK
    have u11 := within_below u10 hw (by have e1 := unhide s1; have e2 := unhide s2; have e3 := unhide s3; have f := unhide SU; omega) u10.size
    have s10 := hide hw.size
    have lbs : bs < w4.heap.size := by have f := unhide Bs; have g := unhide Ns; omega
    have y0_11_0 := cell_later u11 (cellIn (i := 0) (unhide Y0) rfl)
    have y0_11_1 := cell_later u11 (cellIn (i := 1) (unhide Y0) rfl)
    have y0_11_2 := cell_later u11 (cellIn (i := 2) (unhide Y0) rfl)
    have y0_11_3 := cell_later u11 (cellIn (i := 3) (unhide Y0) rfl)
    have y0_11_4 := cell_later u11 (cellIn (i := 4) (unhide Y0) rfl)
    have y0_11_5 := cell_later u11 (cellIn (i := 5) (unhide Y0) rfl)
    have y0_11_6 := cell_later u11 (cellIn (i := 6) (unhide Y0) rfl)
    have y0_11_7 := cell_later u11 (cellIn (i := 7) (unhide Y0) rfl)
    have ts_11 := runX_frame ts_10 hw (.inl (by have e3 := unhide s3; omega))
    have tg_11 := runX_frame tg_10 hw (.inr (by have e5 := unhide s5; omega))
    have hs_11 := box_frame hs_10 hw (.inl (by have f := unhide Bs; have g := lbs; omega))
    have cs_11_0 := cellIn (i := 0) hs_11 rfl
    have cs_11_1 := cellIn (i := 1) hs_11 rfl
    have cs_11_2 := cellIn (i := 2) hs_11 rfl
    have cs_11_3 := cellIn (i := 3) hs_11 rfl
    have cs_11_4 := cellIn (i := 4) hs_11 rfl
    have cs_11_5 := cellIn (i := 5) hs_11 rfl
    have cs_11_6 := cellIn (i := 6) hs_11 rfl
    have cs_11_7 := cellIn (i := 7) hs_11 rfl
    have hx_11 := box_frame hx_10 hw (.inr (by have f := unhide Bx; omega))
    have cx_11_0 := cellIn (i := 0) hx_11 rfl
    have cx_11_1 := cellIn (i := 1) hx_11 rfl
    have cx_11_2 := cellIn (i := 2) hx_11 rfl
    have cx_11_3 := cellIn (i := 3) hx_11 rfl
    have cx_11_4 := cellIn (i := 4) hx_11 rfl
    have cx_11_5 := cellIn (i := 5) hx_11 rfl
    have cx_11_6 := cellIn (i := 6) hx_11 rfl
    have cx_11_7 := cellIn (i := 7) hx_11 rfl
    have hg_11 := box_frame hg_10 hw (.inr (by have f := unhide Bg; have e5 := unhide s5; have e6 := unhide s6; omega))
    have cg_11_0 := cellIn (i := 0) hg_11 rfl
    have cg_11_1 := cellIn (i := 1) hg_11 rfl
    have cg_11_2 := cellIn (i := 2) hg_11 rfl
    have cg_11_3 := cellIn (i := 3) hg_11 rfl
    have cg_11_4 := cellIn (i := 4) hg_11 rfl
    have cg_11_5 := cellIn (i := 5) hg_11 rfl
    have cg_11_6 := cellIn (i := 6) hg_11 rfl
    have cg_11_7 := cellIn (i := 7) hg_11 rfl
    clear hw y0_10_0 y0_10_1 y0_10_2 y0_10_3 y0_10_4 y0_10_5 y0_10_6 y0_10_7 cs_10_0 cs_10_1 cs_10_2 cs_10_3 cs_10_4 cs_10_5 cs_10_6 cs_10_7 cx_10_0 cx_10_1 cx_10_2 cx_10_3 cx_10_4 cx_10_5 cx_10_6 cx_10_7 cg_10_0 cg_10_1 cg_10_2 cg_10_3 cg_10_4 cg_10_5 cg_10_6 cg_10_7 u10 ts_10 tg_10 hs_10 hx_10 hg_10
    clear tx_10 lbs
    have tx_11 := nx
    clear nx
    go_wp2_with fail
    refine (eqRun_any _ _ _ _ _ _ (⟨xi, ⟨x1, x2, x3, x4, xe⟩, xs, xt⟩ : RunL) _ (runX_own tg_11) (runX_own ts_11) (by dsimp only; omega) (by dsimp only; omega)).mono ?_
    rintro e w12 ⟨rfl, hb⟩
    have u12 := u11.trans (hb.mono u11.size)
    have s11 := hide hb.size
    have y0_12_0 := cell_later u12 (cellIn (i := 0) (unhide Y0) rfl)
    have y0_12_1 := cell_later u12 (cellIn (i := 1) (unhide Y0) rfl)
    have y0_12_2 := cell_later u12 (cellIn (i := 2) (unhide Y0) rfl)
    have y0_12_3 := cell_later u12 (cellIn (i := 3) (unhide Y0) rfl)
    have y0_12_4 := cell_later u12 (cellIn (i := 4) (unhide Y0) rfl)
    have y0_12_5 := cell_later u12 (cellIn (i := 5) (unhide Y0) rfl)
    have y0_12_6 := cell_later u12 (cellIn (i := 6) (unhide Y0) rfl)
    have y0_12_7 := cell_later u12 (cellIn (i := 7) (unhide Y0) rfl)
    have ts_12 := runX_below ts_11 hb
    have tg_12 := runX_below tg_11 hb
    have tx_12 := runX_below tx_11 hb
    have hs_12 := heapLater hb hs_11
    have cs_12_0 := cellIn (i := 0) hs_12 rfl
    have cs_12_1 := cellIn (i := 1) hs_12 rfl
    have cs_12_2 := cellIn (i := 2) hs_12 rfl
    have cs_12_3 := cellIn (i := 3) hs_12 rfl
    have cs_12_4 := cellIn (i := 4) hs_12 rfl
    have cs_12_5 := cellIn (i := 5) hs_12 rfl
    have cs_12_6 := cellIn (i := 6) hs_12 rfl
    have cs_12_7 := cellIn (i := 7) hs_12 rfl
    have hx_12 := heapLater hb hx_11
    have cx_12_0 := cellIn (i := 0) hx_12 rfl
    have cx_12_1 := cellIn (i := 1) hx_12 rfl
    have cx_12_2 := cellIn (i := 2) hx_12 rfl
    have cx_12_3 := cellIn (i := 3) hx_12 rfl
    have cx_12_4 := cellIn (i := 4) hx_12 rfl
    have cx_12_5 := cellIn (i := 5) hx_12 rfl
    have cx_12_6 := cellIn (i := 6) hx_12 rfl
    have cx_12_7 := cellIn (i := 7) hx_12 rfl
    have hg_12 := heapLater hb hg_11
    have cg_12_0 := cellIn (i := 0) hg_12 rfl
    have cg_12_1 := cellIn (i := 1) hg_12 rfl
    have cg_12_2 := cellIn (i := 2) hg_12 rfl
    have cg_12_3 := cellIn (i := 3) hg_12 rfl
    have cg_12_4 := cellIn (i := 4) hg_12 rfl
    have cg_12_5 := cellIn (i := 5) hg_12 rfl
    have cg_12_6 := cellIn (i := 6) hg_12 rfl
    have cg_12_7 := cellIn (i := 7) hg_12 rfl
    clear hb y0_11_0 y0_11_1 y0_11_2 y0_11_3 y0_11_4 y0_11_5 y0_11_6 y0_11_7 cs_11_0 cs_11_1 cs_11_2 cs_11_3 cs_11_4 cs_11_5 cs_11_6 cs_11_7 cx_11_0 cx_11_1 cx_11_2 cx_11_3 cx_11_4 cx_11_5 cx_11_6 cx_11_7 cg_11_0 cg_11_1 cg_11_2 cg_11_3 cg_11_4 cg_11_5 cg_11_6 cg_11_7 u11 ts_11 tg_11 tx_11 hs_11 hx_11 hg_11
    obtain ⟨mg, hm⟩ : ∃ m : Nat, m = 1 + sizeR (⟨xi, ⟨x1, x2, x3, x4, xe⟩, xs, xt⟩ : RunL) := ⟨_, rfl⟩
    have MK := hide (markRunX _ _ _ _ 1 (⟨xi, ⟨x1, x2, x3, x4, xe⟩, xs, xt⟩ : RunL) w12 tg_12 (by dsimp only; omega) (by dsimp only; omega) (by omega) (by omega))
    try dsimp only [runV, runC, planV] at MK
    try dsimp only at MK
    rw [← hm] at MK
    have Hmg := hide hm
    have mg9 : mg ≤ 8000000 := by rw [hm]; unfold sizeR; dsimp only; omega
    have mg8 : 1 ≤ mg := by omega
    clear hm
    have mg0 : decide ((mg : Int) < 0) = false := decide_eq_false (by omega)
    have mg1 : ((mg : Int) != (mg : Int)) = false := by simp
    go_wp2_with fail
    refine (unhide MK).mono ?_
    rintro e w13 ⟨rfl, nx, hw⟩
    clear MK
    have u13 := within_below u12 hw (by have e1 := unhide s1; have e2 := unhide s2; have e3 := unhide s3; have e4 := unhide s4; have e5 := unhide s5; have f := unhide SU; omega) u12.size
    have s12 := hide hw.size
    have lbs : bs < w4.heap.size := by have f := unhide Bs; have g := unhide Ns; omega
    have lbx : bx < w6.heap.size := by have f := unhide Bx; have g := unhide Nx; omega
    have y0_13_0 := cell_later u13 (cellIn (i := 0) (unhide Y0) rfl)
    have y0_13_1 := cell_later u13 (cellIn (i := 1) (unhide Y0) rfl)
    have y0_13_2 := cell_later u13 (cellIn (i := 2) (unhide Y0) rfl)
    have y0_13_3 := cell_later u13 (cellIn (i := 3) (unhide Y0) rfl)
    have y0_13_4 := cell_later u13 (cellIn (i := 4) (unhide Y0) rfl)
    have y0_13_5 := cell_later u13 (cellIn (i := 5) (unhide Y0) rfl)
    have y0_13_6 := cell_later u13 (cellIn (i := 6) (unhide Y0) rfl)
    have y0_13_7 := cell_later u13 (cellIn (i := 7) (unhide Y0) rfl)
    have ts_13 := runX_frame ts_12 hw (.inl (by have e3 := unhide s3; have e4 := unhide s4; have e5 := unhide s5; omega))
    have tx_13 := runX_frame tx_12 hw (.inl (by have e5 := unhide s5; omega))
    have hs_13 := box_frame hs_12 hw (.inl (by have f := unhide Bs; have g := lbs; have e4 := unhide s4; have e5 := unhide s5; omega))
    have cs_13_0 := cellIn (i := 0) hs_13 rfl
    have cs_13_1 := cellIn (i := 1) hs_13 rfl
    have cs_13_2 := cellIn (i := 2) hs_13 rfl
    have cs_13_3 := cellIn (i := 3) hs_13 rfl
    have cs_13_4 := cellIn (i := 4) hs_13 rfl
    have cs_13_5 := cellIn (i := 5) hs_13 rfl
    have cs_13_6 := cellIn (i := 6) hs_13 rfl
    have cs_13_7 := cellIn (i := 7) hs_13 rfl
    have hx_13 := box_frame hx_12 hw (.inl (by have f := unhide Bx; have g := lbx; omega))
    have cx_13_0 := cellIn (i := 0) hx_13 rfl
    have cx_13_1 := cellIn (i := 1) hx_13 rfl
    have cx_13_2 := cellIn (i := 2) hx_13 rfl
    have cx_13_3 := cellIn (i := 3) hx_13 rfl
    have cx_13_4 := cellIn (i := 4) hx_13 rfl
    have cx_13_5 := cellIn (i := 5) hx_13 rfl
    have cx_13_6 := cellIn (i := 6) hx_13 rfl
    have cx_13_7 := cellIn (i := 7) hx_13 rfl
    have hg_13 := box_frame hg_12 hw (.inr (by have f := unhide Bg; omega))
    have cg_13_0 := cellIn (i := 0) hg_13 rfl
    have cg_13_1 := cellIn (i := 1) hg_13 rfl
    have cg_13_2 := cellIn (i := 2) hg_13 rfl
    have cg_13_3 := cellIn (i := 3) hg_13 rfl
    have cg_13_4 := cellIn (i := 4) hg_13 rfl
    have cg_13_5 := cellIn (i := 5) hg_13 rfl
    have cg_13_6 := cellIn (i := 6) hg_13 rfl
    have cg_13_7 := cellIn (i := 7) hg_13 rfl
    clear hw y0_12_0 y0_12_1 y0_12_2 y0_12_3 y0_12_4 y0_12_5 y0_12_6 y0_12_7 cs_12_0 cs_12_1 cs_12_2 cs_12_3 cs_12_4 cs_12_5 cs_12_6 cs_12_7 cx_12_0 cx_12_1 cx_12_2 cx_12_3 cx_12_4 cx_12_5 cx_12_6 cx_12_7 cg_12_0 cg_12_1 cg_12_2 cg_12_3 cg_12_4 cg_12_5 cg_12_6 cg_12_7 u12 ts_12 tx_12 hs_12 hx_12 hg_12
    clear tg_12 lbs lbx
    have tg_13 := nx
    clear nx
    have HD := hide (heldRunX _ _ _ _ 1 (⟨xi, ⟨x1, x2, x3, x4, xe⟩, xs, xt⟩ : RunL) w13 tg_13 (by dsimp only; omega) (by dsimp only; omega) (by omega) (by omega))
    try dsimp only [runV, runC, planV] at HD
    rw [← unhide Hmg] at HD
    go_wp2_with fail
    refine (unhide HD).mono ?_
    rintro e w14 ⟨rfl, hb⟩
    have u14 := u13.trans (hb.mono u13.size)
    have s13 := hide hb.size
    have y0_14_0 := cell_later u14 (cellIn (i := 0) (unhide Y0) rfl)
    have y0_14_1 := cell_later u14 (cellIn (i := 1) (unhide Y0) rfl)
    have y0_14_2 := cell_later u14 (cellIn (i := 2) (unhide Y0) rfl)
    have y0_14_3 := cell_later u14 (cellIn (i := 3) (unhide Y0) rfl)
    have y0_14_4 := cell_later u14 (cellIn (i := 4) (unhide Y0) rfl)
    have y0_14_5 := cell_later u14 (cellIn (i := 5) (unhide Y0) rfl)
    have y0_14_6 := cell_later u14 (cellIn (i := 6) (unhide Y0) rfl)
    have y0_14_7 := cell_later u14 (cellIn (i := 7) (unhide Y0) rfl)
    have ts_14 := runX_below ts_13 hb
    have tx_14 := runX_below tx_13 hb
    have tg_14 := runX_below tg_13 hb
    have hs_14 := heapLater hb hs_13
    have cs_14_0 := cellIn (i := 0) hs_14 rfl
    have cs_14_1 := cellIn (i := 1) hs_14 rfl
    have cs_14_2 := cellIn (i := 2) hs_14 rfl
    have cs_14_3 := cellIn (i := 3) hs_14 rfl
    have cs_14_4 := cellIn (i := 4) hs_14 rfl
    have cs_14_5 := cellIn (i := 5) hs_14 rfl
    have cs_14_6 := cellIn (i := 6) hs_14 rfl
    have cs_14_7 := cellIn (i := 7) hs_14 rfl
    have hx_14 := heapLater hb hx_13
    have cx_14_0 := cellIn (i := 0) hx_14 rfl
    have cx_14_1 := cellIn (i := 1) hx_14 rfl
    have cx_14_2 := cellIn (i := 2) hx_14 rfl
    have cx_14_3 := cellIn (i := 3) hx_14 rfl
    have cx_14_4 := cellIn (i := 4) hx_14 rfl
    have cx_14_5 := cellIn (i := 5) hx_14 rfl
    have cx_14_6 := cellIn (i := 6) hx_14 rfl
    have cx_14_7 := cellIn (i := 7) hx_14 rfl
    have hg_14 := heapLater hb hg_13
    have cg_14_0 := cellIn (i := 0) hg_14 rfl
    have cg_14_1 := cellIn (i := 1) hg_14 rfl
    have cg_14_2 := cellIn (i := 2) hg_14 rfl
    have cg_14_3 := cellIn (i := 3) hg_14 rfl
    have cg_14_4 := cellIn (i := 4) hg_14 rfl
    have cg_14_5 := cellIn (i := 5) hg_14 rfl
    have cg_14_6 := cellIn (i := 6) hg_14 rfl
    have cg_14_7 := cellIn (i := 7) hg_14 rfl
    clear hb y0_13_0 y0_13_1 y0_13_2 y0_13_3 y0_13_4 y0_13_5 y0_13_6 y0_13_7 cs_13_0 cs_13_1 cs_13_2 cs_13_3 cs_13_4 cs_13_5 cs_13_6 cs_13_7 cx_13_0 cx_13_1 cx_13_2 cx_13_3 cx_13_4 cx_13_5 cx_13_6 cx_13_7 cg_13_0 cg_13_1 cg_13_2 cg_13_3 cg_13_4 cg_13_5 cg_13_6 cg_13_7 u13 ts_13 tx_13 tg_13 hs_13 hx_13 hg_13
    clear HD
    go_wp2_with fail
    refine (unhide (TD0 _ u14)).mono ?_
    rintro e w15 ⟨gy, hy, rfl, oy, hb⟩
    have nt := runX_new oy
    clear oy
    have u15 := u14.trans (hb.mono u14.size)
    have s14 := hide hb.size
    have y0_15_0 := cell_later u15 (cellIn (i := 0) (unhide Y0) rfl)
    have y0_15_1 := cell_later u15 (cellIn (i := 1) (unhide Y0) rfl)
    have y0_15_2 := cell_later u15 (cellIn (i := 2) (unhide Y0) rfl)
    have y0_15_3 := cell_later u15 (cellIn (i := 3) (unhide Y0) rfl)
    have y0_15_4 := cell_later u15 (cellIn (i := 4) (unhide Y0) rfl)
    have y0_15_5 := cell_later u15 (cellIn (i := 5) (unhide Y0) rfl)
    have y0_15_6 := cell_later u15 (cellIn (i := 6) (unhide Y0) rfl)
    have y0_15_7 := cell_later u15 (cellIn (i := 7) (unhide Y0) rfl)
    have ts_15 := runX_below ts_14 hb
    have tx_15 := runX_below tx_14 hb
    have tg_15 := runX_below tg_14 hb
    have hs_15 := heapLater hb hs_14
    have cs_15_0 := cellIn (i := 0) hs_15 rfl
    have cs_15_1 := cellIn (i := 1) hs_15 rfl
    have cs_15_2 := cellIn (i := 2) hs_15 rfl
    have cs_15_3 := cellIn (i := 3) hs_15 rfl
    have cs_15_4 := cellIn (i := 4) hs_15 rfl
    have cs_15_5 := cellIn (i := 5) hs_15 rfl
    have cs_15_6 := cellIn (i := 6) hs_15 rfl
    have cs_15_7 := cellIn (i := 7) hs_15 rfl
    have hx_15 := heapLater hb hx_14
    have cx_15_0 := cellIn (i := 0) hx_15 rfl
    have cx_15_1 := cellIn (i := 1) hx_15 rfl
    have cx_15_2 := cellIn (i := 2) hx_15 rfl
    have cx_15_3 := cellIn (i := 3) hx_15 rfl
    have cx_15_4 := cellIn (i := 4) hx_15 rfl
    have cx_15_5 := cellIn (i := 5) hx_15 rfl
    have cx_15_6 := cellIn (i := 6) hx_15 rfl
    have cx_15_7 := cellIn (i := 7) hx_15 rfl
    have hg_15 := heapLater hb hg_14
    have cg_15_0 := cellIn (i := 0) hg_15 rfl
    have cg_15_1 := cellIn (i := 1) hg_15 rfl
    have cg_15_2 := cellIn (i := 2) hg_15 rfl
    have cg_15_3 := cellIn (i := 3) hg_15 rfl
    have cg_15_4 := cellIn (i := 4) hg_15 rfl
    have cg_15_5 := cellIn (i := 5) hg_15 rfl
    have cg_15_6 := cellIn (i := 6) hg_15 rfl
    have cg_15_7 := cellIn (i := 7) hg_15 rfl
    clear hb y0_14_0 y0_14_1 y0_14_2 y0_14_3 y0_14_4 y0_14_5 y0_14_6 y0_14_7 cs_14_0 cs_14_1 cs_14_2 cs_14_3 cs_14_4 cs_14_5 cs_14_6 cs_14_7 cx_14_0 cx_14_1 cx_14_2 cx_14_3 cx_14_4 cx_14_5 cx_14_6 cx_14_7 cg_14_0 cg_14_1 cg_14_2 cg_14_3 cg_14_4 cg_14_5 cg_14_6 cg_14_7 u14 ts_14 tx_14 tg_14 hs_14 hx_14 hg_14
    have ty_15 := nt
    clear nt
    go_wp2_with fail
    refine (unhide (IM _ _ _ _ _ ty_15)).mono ?_
    rintro e w16 ⟨veh, vth, rfl, oh, hb⟩
    have oa := oh.edges
    have ob := oh.tasks
    dsimp only at oa ob
    obtain ⟨qh, mh, rfl, -⟩ := ownsRow_shape oa
    obtain ⟨ph, nh, rfl, -⟩ := ownsRow_shape ob
    clear oa ob
    clear ty_15
    have nt := runX_new oh
    clear oh
    have u16 := u15.trans (hb.mono u15.size)
    have s15 := hide hb.size
    have y0_16_0 := cell_later u16 (cellIn (i := 0) (unhide Y0) rfl)
    have y0_16_1 := cell_later u16 (cellIn (i := 1) (unhide Y0) rfl)
    have y0_16_2 := cell_later u16 (cellIn (i := 2) (unhide Y0) rfl)
    have y0_16_3 := cell_later u16 (cellIn (i := 3) (unhide Y0) rfl)
    have y0_16_4 := cell_later u16 (cellIn (i := 4) (unhide Y0) rfl)
    have y0_16_5 := cell_later u16 (cellIn (i := 5) (unhide Y0) rfl)
    have y0_16_6 := cell_later u16 (cellIn (i := 6) (unhide Y0) rfl)
    have y0_16_7 := cell_later u16 (cellIn (i := 7) (unhide Y0) rfl)
    have ts_16 := runX_below ts_15 hb
    have tx_16 := runX_below tx_15 hb
    have tg_16 := runX_below tg_15 hb
    have hs_16 := heapLater hb hs_15
    have cs_16_0 := cellIn (i := 0) hs_16 rfl
    have cs_16_1 := cellIn (i := 1) hs_16 rfl
    have cs_16_2 := cellIn (i := 2) hs_16 rfl
    have cs_16_3 := cellIn (i := 3) hs_16 rfl
    have cs_16_4 := cellIn (i := 4) hs_16 rfl
    have cs_16_5 := cellIn (i := 5) hs_16 rfl
    have cs_16_6 := cellIn (i := 6) hs_16 rfl
    have cs_16_7 := cellIn (i := 7) hs_16 rfl
    have hx_16 := heapLater hb hx_15
    have cx_16_0 := cellIn (i := 0) hx_16 rfl
    have cx_16_1 := cellIn (i := 1) hx_16 rfl
    have cx_16_2 := cellIn (i := 2) hx_16 rfl
    have cx_16_3 := cellIn (i := 3) hx_16 rfl
    have cx_16_4 := cellIn (i := 4) hx_16 rfl
    have cx_16_5 := cellIn (i := 5) hx_16 rfl
    have cx_16_6 := cellIn (i := 6) hx_16 rfl
    have cx_16_7 := cellIn (i := 7) hx_16 rfl
    have hg_16 := heapLater hb hg_15
    have cg_16_0 := cellIn (i := 0) hg_16 rfl
    have cg_16_1 := cellIn (i := 1) hg_16 rfl
    have cg_16_2 := cellIn (i := 2) hg_16 rfl
    have cg_16_3 := cellIn (i := 3) hg_16 rfl
    have cg_16_4 := cellIn (i := 4) hg_16 rfl
    have cg_16_5 := cellIn (i := 5) hg_16 rfl
    have cg_16_6 := cellIn (i := 6) hg_16 rfl
    have cg_16_7 := cellIn (i := 7) hg_16 rfl
    clear hb y0_15_0 y0_15_1 y0_15_2 y0_15_3 y0_15_4 y0_15_5 y0_15_6 y0_15_7 cs_15_0 cs_15_1 cs_15_2 cs_15_3 cs_15_4 cs_15_5 cs_15_6 cs_15_7 cx_15_0 cx_15_1 cx_15_2 cx_15_3 cx_15_4 cx_15_5 cx_15_6 cx_15_7 cg_15_0 cg_15_1 cg_15_2 cg_15_3 cg_15_4 cg_15_5 cg_15_6 cg_15_7 u15 ts_15 tx_15 tg_15 hs_15 hx_15 hg_15
    have th_16 := nt
    clear nt
    have lts : bs < w16.heap.size := (Array.getElem?_eq_some_iff.1 hs_16).1
    have ltx : bx < w16.heap.size := (Array.getElem?_eq_some_iff.1 hx_16).1
    have ltg : bg < w16.heap.size := (Array.getElem?_eq_some_iff.1 hg_16).1
    have hws0 : w.heap.size < w16.heap.size := by have := u16.size; omega
    go_wp2_with fail
    clear hws0 lts ltx ltg
    obtain ⟨w17, hV⟩ : ∃ V, V = w16.alloc (Obj.cells #[.int .i64 xi, .int .i64 x1, .int .i64 x2, .int .i64 x3, .int .i64 x4, .slice qh xe.length mh, .int .i64 xs, .slice ph xt.length nh] 29) := ⟨_, rfl⟩
    have hb : Below w16.heap.size w16 w17 := by rw [hV]; exact (Below.refl _ _).alloc (Nat.le_refl _) _
    have nh : w17.heap[w16.heap.size]? = some (.cells #[.int .i64 xi, .int .i64 x1, .int .i64 x2, .int .i64 x3, .int .i64 x4, .slice qh xe.length mh, .int .i64 xs, .slice ph xt.length nh] 29 (0, 0)) := by rw [hV]; exact heap_alloc_new w16 _
    have nz : Hid (w17.heap.size = w16.heap.size + 1) := hide (by rw [hV]; simp)
    obtain ⟨bh, hBh⟩ : ∃ b, b = w16.heap.size := ⟨_, rfl⟩
    rw [← hBh] at nh
    rw [← hV, ← hBh]
    have Bh := hide hBh
    have Nh := nz
    clear hV hBh nz
    have u17 := u16.trans (hb.mono u16.size)
    have s16 := hide hb.size
    have y0_17_0 := cell_later u17 (cellIn (i := 0) (unhide Y0) rfl)
    have y0_17_1 := cell_later u17 (cellIn (i := 1) (unhide Y0) rfl)
    have y0_17_2 := cell_later u17 (cellIn (i := 2) (unhide Y0) rfl)
    have y0_17_3 := cell_later u17 (cellIn (i := 3) (unhide Y0) rfl)
    have y0_17_4 := cell_later u17 (cellIn (i := 4) (unhide Y0) rfl)
    have y0_17_5 := cell_later u17 (cellIn (i := 5) (unhide Y0) rfl)
    have y0_17_6 := cell_later u17 (cellIn (i := 6) (unhide Y0) rfl)
    have y0_17_7 := cell_later u17 (cellIn (i := 7) (unhide Y0) rfl)
    have ts_17 := runX_below ts_16 hb
    have tx_17 := runX_below tx_16 hb
    have tg_17 := runX_below tg_16 hb
    have th_17 := runX_below th_16 hb
    have hs_17 := heapLater hb hs_16
    have cs_17_0 := cellIn (i := 0) hs_17 rfl
    have cs_17_1 := cellIn (i := 1) hs_17 rfl
    have cs_17_2 := cellIn (i := 2) hs_17 rfl
    have cs_17_3 := cellIn (i := 3) hs_17 rfl
    have cs_17_4 := cellIn (i := 4) hs_17 rfl
    have cs_17_5 := cellIn (i := 5) hs_17 rfl
    have cs_17_6 := cellIn (i := 6) hs_17 rfl
    have cs_17_7 := cellIn (i := 7) hs_17 rfl
    have hx_17 := heapLater hb hx_16
    have cx_17_0 := cellIn (i := 0) hx_17 rfl
    have cx_17_1 := cellIn (i := 1) hx_17 rfl
    have cx_17_2 := cellIn (i := 2) hx_17 rfl
    have cx_17_3 := cellIn (i := 3) hx_17 rfl
    have cx_17_4 := cellIn (i := 4) hx_17 rfl
    have cx_17_5 := cellIn (i := 5) hx_17 rfl
    have cx_17_6 := cellIn (i := 6) hx_17 rfl
    have cx_17_7 := cellIn (i := 7) hx_17 rfl
    have hg_17 := heapLater hb hg_16
    have cg_17_0 := cellIn (i := 0) hg_17 rfl
    have cg_17_1 := cellIn (i := 1) hg_17 rfl
    have cg_17_2 := cellIn (i := 2) hg_17 rfl
    have cg_17_3 := cellIn (i := 3) hg_17 rfl
    have cg_17_4 := cellIn (i := 4) hg_17 rfl
    have cg_17_5 := cellIn (i := 5) hg_17 rfl
    have cg_17_6 := cellIn (i := 6) hg_17 rfl
    have cg_17_7 := cellIn (i := 7) hg_17 rfl
    clear hb y0_16_0 y0_16_1 y0_16_2 y0_16_3 y0_16_4 y0_16_5 y0_16_6 y0_16_7 cs_16_0 cs_16_1 cs_16_2 cs_16_3 cs_16_4 cs_16_5 cs_16_6 cs_16_7 cx_16_0 cx_16_1 cx_16_2 cx_16_3 cx_16_4 cx_16_5 cx_16_6 cx_16_7 cg_16_0 cg_16_1 cg_16_2 cg_16_3 cg_16_4 cg_16_5 cg_16_6 cg_16_7 u16 ts_16 tx_16 tg_16 th_16 hs_16 hx_16 hg_16
    have hh_17 := nh
    have ch_17_0 := cellIn (i := 0) hh_17 rfl
    have ch_17_1 := cellIn (i := 1) hh_17 rfl
    have ch_17_2 := cellIn (i := 2) hh_17 rfl
    have ch_17_3 := cellIn (i := 3) hh_17 rfl
    have ch_17_4 := cellIn (i := 4) hh_17 rfl
    have ch_17_5 := cellIn (i := 5) hh_17 rfl
    have ch_17_6 := cellIn (i := 6) hh_17 rfl
    have ch_17_7 := cellIn (i := 7) hh_17 rfl
    clear nh
    refine (eqRun_any _ _ _ _ _ _ (⟨xi, ⟨x1, x2, x3, x4, xe⟩, xs, xt⟩ : RunL) _ (runX_own th_17) (runX_own ts_17) (by dsimp only; omega) (by dsimp only; omega)).mono ?_
    rintro e w18 ⟨rfl, hb⟩
    have u18 := u17.trans (hb.mono u17.size)
    have s17 := hide hb.size
    have y0_18_0 := cell_later u18 (cellIn (i := 0) (unhide Y0) rfl)
    have y0_18_1 := cell_later u18 (cellIn (i := 1) (unhide Y0) rfl)
    have y0_18_2 := cell_later u18 (cellIn (i := 2) (unhide Y0) rfl)
    have y0_18_3 := cell_later u18 (cellIn (i := 3) (unhide Y0) rfl)
    have y0_18_4 := cell_later u18 (cellIn (i := 4) (unhide Y0) rfl)
    have y0_18_5 := cell_later u18 (cellIn (i := 5) (unhide Y0) rfl)
    have y0_18_6 := cell_later u18 (cellIn (i := 6) (unhide Y0) rfl)
    have y0_18_7 := cell_later u18 (cellIn (i := 7) (unhide Y0) rfl)
    have ts_18 := runX_below ts_17 hb
    have tx_18 := runX_below tx_17 hb
    have tg_18 := runX_below tg_17 hb
    have th_18 := runX_below th_17 hb
    have hs_18 := heapLater hb hs_17
    have cs_18_0 := cellIn (i := 0) hs_18 rfl
    have cs_18_1 := cellIn (i := 1) hs_18 rfl
    have cs_18_2 := cellIn (i := 2) hs_18 rfl
    have cs_18_3 := cellIn (i := 3) hs_18 rfl
    have cs_18_4 := cellIn (i := 4) hs_18 rfl
    have cs_18_5 := cellIn (i := 5) hs_18 rfl
    have cs_18_6 := cellIn (i := 6) hs_18 rfl
    have cs_18_7 := cellIn (i := 7) hs_18 rfl
    have hx_18 := heapLater hb hx_17
    have cx_18_0 := cellIn (i := 0) hx_18 rfl
    have cx_18_1 := cellIn (i := 1) hx_18 rfl
    have cx_18_2 := cellIn (i := 2) hx_18 rfl
    have cx_18_3 := cellIn (i := 3) hx_18 rfl
    have cx_18_4 := cellIn (i := 4) hx_18 rfl
    have cx_18_5 := cellIn (i := 5) hx_18 rfl
    have cx_18_6 := cellIn (i := 6) hx_18 rfl
    have cx_18_7 := cellIn (i := 7) hx_18 rfl
    have hg_18 := heapLater hb hg_17
    have cg_18_0 := cellIn (i := 0) hg_18 rfl
    have cg_18_1 := cellIn (i := 1) hg_18 rfl
    have cg_18_2 := cellIn (i := 2) hg_18 rfl
    have cg_18_3 := cellIn (i := 3) hg_18 rfl
    have cg_18_4 := cellIn (i := 4) hg_18 rfl
    have cg_18_5 := cellIn (i := 5) hg_18 rfl
    have cg_18_6 := cellIn (i := 6) hg_18 rfl
    have cg_18_7 := cellIn (i := 7) hg_18 rfl
    have hh_18 := heapLater hb hh_17
    have ch_18_0 := cellIn (i := 0) hh_18 rfl
    have ch_18_1 := cellIn (i := 1) hh_18 rfl
    have ch_18_2 := cellIn (i := 2) hh_18 rfl
    have ch_18_3 := cellIn (i := 3) hh_18 rfl
    have ch_18_4 := cellIn (i := 4) hh_18 rfl
    have ch_18_5 := cellIn (i := 5) hh_18 rfl
    have ch_18_6 := cellIn (i := 6) hh_18 rfl
    have ch_18_7 := cellIn (i := 7) hh_18 rfl
    clear hb y0_17_0 y0_17_1 y0_17_2 y0_17_3 y0_17_4 y0_17_5 y0_17_6 y0_17_7 cs_17_0 cs_17_1 cs_17_2 cs_17_3 cs_17_4 cs_17_5 cs_17_6 cs_17_7 cx_17_0 cx_17_1 cx_17_2 cx_17_3 cx_17_4 cx_17_5 cx_17_6 cx_17_7 cg_17_0 cg_17_1 cg_17_2 cg_17_3 cg_17_4 cg_17_5 cg_17_6 cg_17_7 ch_17_0 ch_17_1 ch_17_2 ch_17_3 ch_17_4 ch_17_5 ch_17_6 ch_17_7 u17 ts_17 tx_17 tg_17 th_17 hs_17 hx_17 hg_17 hh_17
    have HD := hide (heldRunX _ _ _ _ 1 (⟨xi, ⟨x1, x2, x3, x4, xe⟩, xs, xt⟩ : RunL) w18 tg_18 (by dsimp only; omega) (by dsimp only; omega) (by omega) (by omega))
    try dsimp only [runV, runC, planV] at HD
    rw [← unhide Hmg] at HD
    go_wp2_with fail
    refine (unhide HD).mono ?_
    rintro e w19 ⟨rfl, hb⟩
    have u19 := u18.trans (hb.mono u18.size)
    have s18 := hide hb.size
    have y0_19_0 := cell_later u19 (cellIn (i := 0) (unhide Y0) rfl)
    have y0_19_1 := cell_later u19 (cellIn (i := 1) (unhide Y0) rfl)
    have y0_19_2 := cell_later u19 (cellIn (i := 2) (unhide Y0) rfl)
    have y0_19_3 := cell_later u19 (cellIn (i := 3) (unhide Y0) rfl)
    have y0_19_4 := cell_later u19 (cellIn (i := 4) (unhide Y0) rfl)
    have y0_19_5 := cell_later u19 (cellIn (i := 5) (unhide Y0) rfl)
    have y0_19_6 := cell_later u19 (cellIn (i := 6) (unhide Y0) rfl)
    have y0_19_7 := cell_later u19 (cellIn (i := 7) (unhide Y0) rfl)
    have ts_19 := runX_below ts_18 hb
    have tx_19 := runX_below tx_18 hb
    have tg_19 := runX_below tg_18 hb
    have th_19 := runX_below th_18 hb
    have hs_19 := heapLater hb hs_18
    have cs_19_0 := cellIn (i := 0) hs_19 rfl
    have cs_19_1 := cellIn (i := 1) hs_19 rfl
    have cs_19_2 := cellIn (i := 2) hs_19 rfl
    have cs_19_3 := cellIn (i := 3) hs_19 rfl
    have cs_19_4 := cellIn (i := 4) hs_19 rfl
    have cs_19_5 := cellIn (i := 5) hs_19 rfl
    have cs_19_6 := cellIn (i := 6) hs_19 rfl
    have cs_19_7 := cellIn (i := 7) hs_19 rfl
    have hx_19 := heapLater hb hx_18
    have cx_19_0 := cellIn (i := 0) hx_19 rfl
    have cx_19_1 := cellIn (i := 1) hx_19 rfl
    have cx_19_2 := cellIn (i := 2) hx_19 rfl
    have cx_19_3 := cellIn (i := 3) hx_19 rfl
    have cx_19_4 := cellIn (i := 4) hx_19 rfl
    have cx_19_5 := cellIn (i := 5) hx_19 rfl
    have cx_19_6 := cellIn (i := 6) hx_19 rfl
    have cx_19_7 := cellIn (i := 7) hx_19 rfl
    have hg_19 := heapLater hb hg_18
    have cg_19_0 := cellIn (i := 0) hg_19 rfl
    have cg_19_1 := cellIn (i := 1) hg_19 rfl
    have cg_19_2 := cellIn (i := 2) hg_19 rfl
    have cg_19_3 := cellIn (i := 3) hg_19 rfl
    have cg_19_4 := cellIn (i := 4) hg_19 rfl
    have cg_19_5 := cellIn (i := 5) hg_19 rfl
    have cg_19_6 := cellIn (i := 6) hg_19 rfl
    have cg_19_7 := cellIn (i := 7) hg_19 rfl
    have hh_19 := heapLater hb hh_18
    have ch_19_0 := cellIn (i := 0) hh_19 rfl
    have ch_19_1 := cellIn (i := 1) hh_19 rfl
    have ch_19_2 := cellIn (i := 2) hh_19 rfl
    have ch_19_3 := cellIn (i := 3) hh_19 rfl
    have ch_19_4 := cellIn (i := 4) hh_19 rfl
    have ch_19_5 := cellIn (i := 5) hh_19 rfl
    have ch_19_6 := cellIn (i := 6) hh_19 rfl
    have ch_19_7 := cellIn (i := 7) hh_19 rfl
    clear hb y0_18_0 y0_18_1 y0_18_2 y0_18_3 y0_18_4 y0_18_5 y0_18_6 y0_18_7 cs_18_0 cs_18_1 cs_18_2 cs_18_3 cs_18_4 cs_18_5 cs_18_6 cs_18_7 cx_18_0 cx_18_1 cx_18_2 cx_18_3 cx_18_4 cx_18_5 cx_18_6 cx_18_7 cg_18_0 cg_18_1 cg_18_2 cg_18_3 cg_18_4 cg_18_5 cg_18_6 cg_18_7 ch_18_0 ch_18_1 ch_18_2 ch_18_3 ch_18_4 ch_18_5 ch_18_6 ch_18_7 u18 ts_18 tx_18 tg_18 th_18 hs_18 hx_18 hg_18 hh_18
    clear HD
    have t := z0.trans (u19.mono z0.size)
    clear ts_19 tx_19 tg_19 th_19 hs_19 hx_19 hg_19 hh_19 cs_19_0 cs_19_1 cs_19_2 cs_19_3 cs_19_4 cs_19_5 cs_19_6 cs_19_7 cx_19_0 cx_19_1 cx_19_2 cx_19_3 cx_19_4 cx_19_5 cx_19_6 cx_19_7 cg_19_0 cg_19_1 cg_19_2 cg_19_3 cg_19_4 cg_19_5 cg_19_6 cg_19_7 ch_19_0 ch_19_1 ch_19_2 ch_19_3 ch_19_4 ch_19_5 ch_19_6 ch_19_7 u19 y0_19_0 y0_19_1 y0_19_2 y0_19_3 y0_19_4 y0_19_5 y0_19_6 y0_19_7 TD0 HF0
    go_wp2
    go_ret
    exact ⟨rfl, t⟩

set_option maxRecDepth 100000 in
theorem lifted (os : Os) (started : os.Started) (H : Type) (enc : TypeId × Value → H) :
    ReturnsInHanded {} Try.checked os 9 .any (Rows.fnExactRunLeftSpec.pre6 enc Try.prog Try.f9 Rows.fnExactRunLeftRow.domain false) (Rows.fnExactRunLeftSpec.post enc Try.prog Try.f9 false true false false) := by
  refine returnsInHanded_of_change (C := Try.checked) own started (by kernel_rfl) Try.func9
    (ChangeSpec.witness6 (enc := enc) (C := Try.checked) false ⟨#[], #[.agg #[.int .i64 0, .int .i64 0, .int .i64 0, .int .i64 0, .int .i64 0, .slice none 0 0, .int .i64 0, .slice none 0 0]], []⟩ 8 (by kernel_rfl) (by kernel_rfl) (by kernel_rfl) (by kernel_rfl)) ?_
  intro W base args ds gs before hval0 hW hcnd _
  have hval : ∀ (j : Nat) t v, Try.f9.params[j]? = some t → args[j]? = some v → Value.okWide Try.prog W .any base t v := hval0
  have hW' := hW
  obtain ⟨p, q, hA0, hV, rfl, hfz, hnd⟩ := hW
  have hA : DataW.TrodAll enc Try.prog W 0 (fun _ => true) true Try.f9.params.toList args.toList ds p := hA0
  rw [Try.params9] at hA hval
  obtain ⟨v0, vs0, d0, ds0, p0, q0, hargs, rfl, rfl, h0, r0⟩ := trodAll_cons hA
  obtain ⟨rfl, rfl, rfl⟩ := trodAll_nil r0
  obtain rfl : args = #[v0] := by cases args; simp_all
  obtain ⟨rfl, rfl⟩ := trodVars_none hV
  have lt0 : ∀ x ∈ p0, x.block < W.heap.size := by obtain ⟨m, hm⟩ := h0; exact DataW.trod_lt m _ _ _ hm
  obtain ⟨a0, b0, c0, d0_, r0_, rfl, w0, x0, y0⟩ := open_run (hval 0 53 v0 rfl rfl) h0
  clear hA0 hval0
  refine (walk W a0 b0 c0 d0_ r0_ w0 x0 y0).mono fun e W' ⟨he, bel⟩ => ?_
  subst he
  exact ⟨_, rfl, _, _, _, [], _, [], hW', trodAll_mk1 (shut_bool Try.underlying4 _), (trodAll_cons_mk (Below.trod laidOut (by kernel_rfl) (of_decide_eq_true (by kernel_rfl)) h0 bel lt0) trodAll_mk0), rfl, bel.frame _, fun h => by cases h⟩

theorem over : Rows.fnExactRunLeftRow.holds Try.pinned (OpenSpec.ofChange Rows.fnExactRunLeftSpec) :=
  OpenClaim.holds_of_wide 9 Try.f9 rfl rfl rfl rfl rfl rfl rfl ⟨rfl, rfl, rfl, rfl, rfl⟩ rfl rfl rfl rfl rfl (by kernel_rfl) Try.func9 (by kernel_rfl)
    (of_decide_eq_true (by kernel_rfl)) (by unfold Func.isWrapper; first | (rw [if_pos (by decide +kernel)]; kernel_rfl) | (rw [if_neg (by decide +kernel)]; exact ⟨rfl, rfl⟩))
    (fun os started H enc _ => lifted os started H enc)

end Go.Proofs.Ytnpfboligmnhpaa.fnExactRunLeft
namespace Go.Proofs.Ytnpfboligmnhpaa
theorem fnExactRunLeft_holds : Rows.FnExactRunLeftSaid := fnExactRunLeft.over
#print axioms fnExactRunLeft_holds
end Go.Proofs.Ytnpfboligmnhpaa
