/- For every list of entries and every entry handed in, spec.PutEntry and impl.PutEntry of the given code answer the same list, which owns its memory, and nothing that was handed in is written: the statement FnExactPutEntry holds at every argument. -/
import Derived.Test.YtccafdoehjdbeaaRows
import Derived.WalkKit
import Derived.ProofKit
import Derived.OpenShut
import Derived.ShutString
import Derived.Test.YtccafdoehjdbeaaSpecMerged
import Derived.Test.YtccafdoehjdbeaaRowBase
import Derived.Test.YtccafdoehjdbeaaImplShelf
import Derived.Test.YtccafdoehjdbeaaEntryOpen
namespace Go.Proofs.Ytccafdoehjdbeaa.fnExactPutEntry
open Go.ChangeShapes Go.WideShapes Go.ChangeAt Go.RowKit
open Go.ChangeMaps (open_string shut_string)
open scoped Classical
set_option linter.unusedVariables false

theorem own : ownKnob Try.prog.godebug = none := by kernel_rfl
theorem laidOut : laidOutB Try.prog = true := by kernel_rfl

set_option maxRecDepth 100000 in
set_option maxHeartbeats 1600000 in
theorem walk (w : World) (a0 : Option Addr) (c0 : Nat) (f0 : List QuadL) (f1 : QuadL) (w0 : f0.length ≤ 9223372036854775807) (k0 : QuadsIn w w.heap.size a0 f0)  :
    Calls Try.prog 6 #[.slice a0 f0.length c0, quadV f1] w fun e w' => e = .returned (.bool true) ∧ Below w.heap.size w w' := by
  obtain ⟨qa1, qb1, qc1, qd1⟩ := f1
  dsimp only [quadV]
  have C0 := fun W (left : Int) (h0 : 0 ≤ left) (h1 : left ≤ 1048576) => hide (szEntryS_any a0 c0 f0 left W h0 h1 w0)
  have HK0 := hide k0
  clear k0
  go_enter Try.func6, Try.ntmps6
  go_wp2_with fail
  obtain ⟨W0, hW0⟩ : ∃ W0, W0 = w.alloc (Obj.cells #[.int .i64 qa1, .int .i64 qb1, .int .i64 qc1, .int .i64 qd1] 39) := ⟨_, rfl⟩
  have Y1 : Hid (W0.heap[w.heap.size]? = some (.cells #[.int .i64 qa1, .int .i64 qb1, .int .i64 qc1, .int .i64 qd1] 39 (0, 0))) := by rw [hW0]; exact hide (by exact allocAt _ _ _ (by simp))
  have z0 : Below w.heap.size w W0 := by rw [hW0]; exact (Below.refl _ _).alloc (by simp) _
  have zW : w.heap.size + 1 ≤ W0.heap.size := by rw [hW0]; simp
  rw [← hW0]
  clear hW0
  have HF0 := hide (quadsIn_on (unhide HK0) z0)
  clear HK0
  refine (unhide (C0 _ 1048576 (by omega) (by omega))).mono ?_
  rintro e w1 ⟨r0_, rfl, hr0, hcase, hb⟩
  have u1 : Below W0.heap.size W0 w1 := hb
  clear hb C0
  rcases hcase with hr1 | ⟨hr00, hn0⟩
  · subst hr1
    clear HF0 
    go_wp2
    go_ret
    exact ⟨rfl, z0.trans (u1.mono z0.size)⟩
  · skip
    have TD0 := fun W (h : Below W0.heap.size W0 W) => hide (toEntryS_any a0 c0 f0 W hn0 (quadsIn_on (unhide HF0) h))
    have y1_1_0 := cell_later u1 (cellIn (i := 0) (unhide Y1) rfl)
    have y1_1_1 := cell_later u1 (cellIn (i := 1) (unhide Y1) rfl)
    have y1_1_2 := cell_later u1 (cellIn (i := 2) (unhide Y1) rfl)
    have y1_1_3 := cell_later u1 (cellIn (i := 3) (unhide Y1) rfl)
    have SP := fun (W : World) (va : Value) (B : Nat) (h : W.ownsRow B 29 4 va f0.length (quadsC f0)) => hide (specPut_any va B f0 (⟨qa1, qb1, qc1, qd1⟩ : QuadL) W h (by omega))
    dsimp only [quadV] at SP
    have IM := fun (W : World) (va : Value) (B : Nat) (h : W.ownsRow B 29 4 va f0.length (quadsC f0)) => hide (implPut_any va B f0 (⟨qa1, qb1, qc1, qd1⟩ : QuadL) W h (by omega))
    dsimp only [quadV] at IM
    have XL : (putQ f0 (⟨qa1, qb1, qc1, qd1⟩ : QuadL)).length ≤ 1048577 := by rw [putQ_length]; omega
    generalize putQ f0 (⟨qa1, qb1, qc1, qd1⟩ : QuadL) = X at XL SP IM
    go_wp2_with fail
    go_region_held3 (fun w' => w'.cell? ⟨w.heap.size, 0, none⟩ = some (.int .i64 qa1) ∧ w'.cell? ⟨w.heap.size, 1, none⟩ = some (.int .i64 qb1) ∧ w'.cell? ⟨w.heap.size, 2, none⟩ = some (.int .i64 qc1) ∧ w'.cell? ⟨w.heap.size, 3, none⟩ = some (.int .i64 qd1))
      (refine ⟨?_, ?_, ?_, ?_⟩ <;> first | go_keep | exact cell_later hbA (y1_1_0) | exact cell_later hbB (cell_later hbA (y1_1_0)) | exact cell_later hbC (cell_later hbB (cell_later hbA (y1_1_0))) | exact cell_later hbA (y1_1_1) | exact cell_later hbB (cell_later hbA (y1_1_1)) | exact cell_later hbC (cell_later hbB (cell_later hbA (y1_1_1))) | exact cell_later hbA (y1_1_2) | exact cell_later hbB (cell_later hbA (y1_1_2)) | exact cell_later hbC (cell_later hbB (cell_later hbA (y1_1_2))) | exact cell_later hbA (y1_1_3) | exact cell_later hbB (cell_later hbA (y1_1_3)) | exact cell_later hbC (cell_later hbB (cell_later hbA (y1_1_3))))
      (first
        | (go_at_call 24; refine (unhide (TD0 _ u1.drew)).mono ?_; rintro e wA2 ⟨gts, rfl, ots, hbA⟩)
        | (go_at_call 21; refine (toEntry_any (⟨qa1, qb1, qc1, qd1⟩ : QuadL) _).mono ?_; rintro e wB2 ⟨rfl, hbB⟩)
        | (go_at_call 26; refine (unhide (SP _ _ _ (ownsRow_below ots hbB))).mono ?_; rintro e wC2 ⟨gs, ms_, rfl, os, hbC⟩))
    have hbP : Below w1.heap.size w1 wB2 := (((Below.refl _ _).drew).trans hbA).trans (hbB.mono (hbA.size))
    have bss : W0.heap.size ≤ wB2.heap.size := Nat.le_trans u1.size hbP.size
    clear hbP ots
    have hb : Below w1.heap.size w1 wC2 := ((((Below.refl _ _).drew).trans hbA).trans (hbB.mono (hbA.size))).trans (hbC.mono (Nat.le_trans (hbA.size) hbB.size))
    clear hbA hbB hbC
    have u2 := u1.trans (hb.mono u1.size)
    have y1_2_0 := cell_later u2 (cellIn (i := 0) (unhide Y1) rfl)
    have y1_2_1 := cell_later u2 (cellIn (i := 1) (unhide Y1) rfl)
    have y1_2_2 := cell_later u2 (cellIn (i := 2) (unhide Y1) rfl)
    have y1_2_3 := cell_later u2 (cellIn (i := 3) (unhide Y1) rfl)
    clear hb y1_1_0 y1_1_1 y1_1_2 y1_1_3 u1
    clear SP
    go_wp2_with fail
    refine (unhide (TD0 _ u2)).mono ?_
    rintro e w3 ⟨gx, rfl, ox, hb⟩
    have bsx : W0.heap.size ≤ wC2.heap.size := u2.size
    have apsx := rowsApart os ox
    have u3 := u2.trans (hb.mono u2.size)
    have y1_3_0 := cell_later u3 (cellIn (i := 0) (unhide Y1) rfl)
    have y1_3_1 := cell_later u3 (cellIn (i := 1) (unhide Y1) rfl)
    have y1_3_2 := cell_later u3 (cellIn (i := 2) (unhide Y1) rfl)
    have y1_3_3 := cell_later u3 (cellIn (i := 3) (unhide Y1) rfl)
    have rs_3 := ownsRow_below os hb
    clear hb y1_2_0 y1_2_1 y1_2_2 y1_2_3 u2 os
    go_wp2_with fail
    refine (toEntry_any (⟨qa1, qb1, qc1, qd1⟩ : QuadL) _).mono ?_
    rintro e w4 ⟨rfl, hb⟩
    have u4 := u3.trans (hb.mono u3.size)
    have y1_4_0 := cell_later u4 (cellIn (i := 0) (unhide Y1) rfl)
    have y1_4_1 := cell_later u4 (cellIn (i := 1) (unhide Y1) rfl)
    have y1_4_2 := cell_later u4 (cellIn (i := 2) (unhide Y1) rfl)
    have y1_4_3 := cell_later u4 (cellIn (i := 3) (unhide Y1) rfl)
    have rs_4 := ownsRow_below rs_3 hb
    have rx_4 := ownsRow_below ox hb
    clear hb y1_3_0 y1_3_1 y1_3_2 y1_3_3 u3 rs_3 ox
    go_wp2_with fail
    refine (unhide (IM _ _ _ rx_4)).mono ?_
    rintro e w5 ⟨vg, rfl, og, hb⟩
    try simp only at og
    obtain ⟨qg, mg_, rfl, -⟩ := ownsRow_shape og
    have bsg : W0.heap.size ≤ w4.heap.size := u4.size
    have apsg := rowsApart rs_4 og
    have apxg := rowsApart rx_4 og
    have u5 := u4.trans (hb.mono u4.size)
    have y1_5_0 := cell_later u5 (cellIn (i := 0) (unhide Y1) rfl)
    have y1_5_1 := cell_later u5 (cellIn (i := 1) (unhide Y1) rfl)
    have y1_5_2 := cell_later u5 (cellIn (i := 2) (unhide Y1) rfl)
    have y1_5_3 := cell_later u5 (cellIn (i := 3) (unhide Y1) rfl)
    have rs_5 := ownsRow_below rs_4 hb
    have rx_5 := ownsRow_below rx_4 hb
    clear hb y1_4_0 y1_4_1 y1_4_2 y1_4_3 u4 rs_4 rx_4
    go_wp2_with fail
    refine (eqEntryS_any _ _ _ _ X _ og rs_5 (by omega)).mono ?_
    rintro e w6 ⟨rfl, hb⟩
    have u6 := u5.trans (hb.mono u5.size)
    have y1_6_0 := cell_later u6 (cellIn (i := 0) (unhide Y1) rfl)
    have y1_6_1 := cell_later u6 (cellIn (i := 1) (unhide Y1) rfl)
    have y1_6_2 := cell_later u6 (cellIn (i := 2) (unhide Y1) rfl)
    have y1_6_3 := cell_later u6 (cellIn (i := 3) (unhide Y1) rfl)
    have rs_6 := ownsRow_below rs_5 hb
    have rx_6 := ownsRow_below rx_5 hb
    have rg_6 := ownsRow_below og hb
    clear hb y1_5_0 y1_5_1 y1_5_2 y1_5_3 u5 rs_5 rx_5 og
    go_wp2_with fail
    refine (unhide (TD0 _ u6)).mono ?_
    rintro e w7 ⟨gc, rfl, oc, hb⟩
    have bsc : W0.heap.size ≤ w6.heap.size := u6.size
    have apsc := rowsApart rs_6 oc
    have apxc := rowsApart rx_6 oc
    have apgc := rowsApart rg_6 oc
    have u7 := u6.trans (hb.mono u6.size)
    have y1_7_0 := cell_later u7 (cellIn (i := 0) (unhide Y1) rfl)
    have y1_7_1 := cell_later u7 (cellIn (i := 1) (unhide Y1) rfl)
    have y1_7_2 := cell_later u7 (cellIn (i := 2) (unhide Y1) rfl)
    have y1_7_3 := cell_later u7 (cellIn (i := 3) (unhide Y1) rfl)
    have rs_7 := ownsRow_below rs_6 hb
    have rx_7 := ownsRow_below rx_6 hb
    have rg_7 := ownsRow_below rg_6 hb
    clear hb y1_6_0 y1_6_1 y1_6_2 y1_6_3 u6 rs_6 rx_6 rg_6
    go_wp2_with fail
    refine (eqEntryS_any _ _ _ _ f0 _ rx_7 oc (by omega)).mono ?_
    rintro e w8 ⟨rfl, hb⟩
    have u8 := u7.trans (hb.mono u7.size)
    have y1_8_0 := cell_later u8 (cellIn (i := 0) (unhide Y1) rfl)
    have y1_8_1 := cell_later u8 (cellIn (i := 1) (unhide Y1) rfl)
    have y1_8_2 := cell_later u8 (cellIn (i := 2) (unhide Y1) rfl)
    have y1_8_3 := cell_later u8 (cellIn (i := 3) (unhide Y1) rfl)
    have rs_8 := ownsRow_below rs_7 hb
    have rx_8 := ownsRow_below rx_7 hb
    have rg_8 := ownsRow_below rg_7 hb
    have rc_8 := ownsRow_below oc hb
    clear hb y1_7_0 y1_7_1 y1_7_2 y1_7_3 u7 rs_7 rx_7 rg_7 oc
    clear rc_8
    obtain ⟨mx, hm⟩ : ∃ m : Nat, m = 1 + f0.length * 4 := ⟨_, rfl⟩
    have MK := hide (markEntryS_any _ _ 1 f0 w8 rx_8 (by omega) (by omega) (by omega))
    rw [← hm] at MK
    have Hmx := hide hm
    have mx9 : mx ≤ 4194801 := by omega
    have mx8 : 1 ≤ mx := by omega
    clear hm
    have mx0 : decide ((mx : Int) < 0) = false := decide_eq_false (by omega)
    have mx1 : ((mx : Int) != (mx : Int)) = false := by simp
    go_wp2_with fail
    refine (unhide MK).mono ?_
    rintro e w9 ⟨rfl, nx, hg⟩
    clear MK
    have u9 := u8.grown hg u8.size (fun j hj => Nat.le_trans bsx (rx_8.lt j hj).1)
    have y1_9_0 := cell_later u9 (cellIn (i := 0) (unhide Y1) rfl)
    have y1_9_1 := cell_later u9 (cellIn (i := 1) (unhide Y1) rfl)
    have y1_9_2 := cell_later u9 (cellIn (i := 2) (unhide Y1) rfl)
    have y1_9_3 := cell_later u9 (cellIn (i := 3) (unhide Y1) rfl)
    have rs_9 := rs_8.kept hg (apsx)
    have rg_9 := rg_8.kept hg ((apComm apxg))
    clear y1_8_0 y1_8_1 y1_8_2 y1_8_3 u8 rs_8 rg_8
    clear hg rx_8
    have nxx := nx
    clear nx
    go_wp2_with fail
    refine (eqEntryS_any _ _ _ _ X _ rg_9 rs_9 (by omega)).mono ?_
    rintro e w10 ⟨rfl, hb⟩
    have u10 := u9.trans (hb.mono u9.size)
    have y1_10_0 := cell_later u10 (cellIn (i := 0) (unhide Y1) rfl)
    have y1_10_1 := cell_later u10 (cellIn (i := 1) (unhide Y1) rfl)
    have y1_10_2 := cell_later u10 (cellIn (i := 2) (unhide Y1) rfl)
    have y1_10_3 := cell_later u10 (cellIn (i := 3) (unhide Y1) rfl)
    have rs_10 := ownsRow_below rs_9 hb
    have rg_10 := ownsRow_below rg_9 hb
    have rx_10 := ownsRow_below nxx hb
    clear hb y1_9_0 y1_9_1 y1_9_2 y1_9_3 u9 rs_9 rg_9 nxx
    obtain ⟨mg, hm⟩ : ∃ m : Nat, m = 1 + X.length * 4 := ⟨_, rfl⟩
    have MK := hide (markEntryS_any _ _ 1 X w10 rg_10 (by omega) (by omega) (by omega))
    rw [← hm] at MK
    have Hmg := hide hm
    have mg9 : mg ≤ 4194801 := by omega
    have mg8 : 1 ≤ mg := by omega
    clear hm
    have mg0 : decide ((mg : Int) < 0) = false := decide_eq_false (by omega)
    have mg1 : ((mg : Int) != (mg : Int)) = false := by simp
    go_wp2_with fail
    refine (unhide MK).mono ?_
    rintro e w11 ⟨rfl, nx, hg⟩
    clear MK
    have u11 := u10.grown hg u10.size (fun j hj => Nat.le_trans bsg (rg_10.lt j hj).1)
    have y1_11_0 := cell_later u11 (cellIn (i := 0) (unhide Y1) rfl)
    have y1_11_1 := cell_later u11 (cellIn (i := 1) (unhide Y1) rfl)
    have y1_11_2 := cell_later u11 (cellIn (i := 2) (unhide Y1) rfl)
    have y1_11_3 := cell_later u11 (cellIn (i := 3) (unhide Y1) rfl)
    have rs_11 := rs_10.kept hg (apsg)
    have rx_11 := rx_10.kept hg (apxg)
    clear y1_10_0 y1_10_1 y1_10_2 y1_10_3 u10 rs_10 rx_10
    clear hg rg_10
    have nxg := nx
    clear nx
    have HD := hide (heldEntryS_any _ _ 1 X.length w11 nxg (by omega) (by omega) (by omega))
    rw [← unhide Hmg] at HD
    go_wp2_with fail
    refine (unhide HD).mono ?_
    rintro e w12 ⟨rfl, hb⟩
    have u12 := u11.trans (hb.mono u11.size)
    have y1_12_0 := cell_later u12 (cellIn (i := 0) (unhide Y1) rfl)
    have y1_12_1 := cell_later u12 (cellIn (i := 1) (unhide Y1) rfl)
    have y1_12_2 := cell_later u12 (cellIn (i := 2) (unhide Y1) rfl)
    have y1_12_3 := cell_later u12 (cellIn (i := 3) (unhide Y1) rfl)
    have rs_12 := ownsRow_below rs_11 hb
    have rx_12 := ownsRow_below rx_11 hb
    have rg_12 := ownsRow_below nxg hb
    clear hb y1_11_0 y1_11_1 y1_11_2 y1_11_3 u11 rs_11 rx_11 nxg
    clear HD
    go_wp2_with fail
    go_region_held3 (fun w' => w'.cell? ⟨w.heap.size, 0, none⟩ = some (.int .i64 qa1) ∧ w'.cell? ⟨w.heap.size, 1, none⟩ = some (.int .i64 qb1) ∧ w'.cell? ⟨w.heap.size, 2, none⟩ = some (.int .i64 qc1) ∧ w'.cell? ⟨w.heap.size, 3, none⟩ = some (.int .i64 qd1))
      (refine ⟨?_, ?_, ?_, ?_⟩ <;> first | go_keep | exact cell_later hbA (y1_12_0) | exact cell_later hbB (cell_later hbA (y1_12_0)) | exact cell_later hbC (cell_later hbB (cell_later hbA (y1_12_0))) | exact cell_later hbA (y1_12_1) | exact cell_later hbB (cell_later hbA (y1_12_1)) | exact cell_later hbC (cell_later hbB (cell_later hbA (y1_12_1))) | exact cell_later hbA (y1_12_2) | exact cell_later hbB (cell_later hbA (y1_12_2)) | exact cell_later hbC (cell_later hbB (cell_later hbA (y1_12_2))) | exact cell_later hbA (y1_12_3) | exact cell_later hbB (cell_later hbA (y1_12_3)) | exact cell_later hbC (cell_later hbB (cell_later hbA (y1_12_3))))
      (first
        | (go_at_call 24; refine (unhide (TD0 _ u12.drew)).mono ?_; rintro e wA13 ⟨gth, rfl, oth, hbA⟩)
        | (go_at_call 21; refine (toEntry_any (⟨qa1, qb1, qc1, qd1⟩ : QuadL) _).mono ?_; rintro e wB13 ⟨rfl, hbB⟩)
        | (go_at_call 13; refine (unhide (IM _ _ _ (ownsRow_below oth hbB))).mono ?_; rintro e wC13 ⟨vh, rfl, oh, hbC⟩))
    try simp only at oh
    obtain ⟨qh, mh_, rfl, -⟩ := ownsRow_shape oh
    have hbP : Below w12.heap.size w12 wB13 := (((Below.refl _ _).drew).trans hbA).trans (hbB.mono (hbA.size))
    have bsh : W0.heap.size ≤ wB13.heap.size := Nat.le_trans u12.size hbP.size
    have apsh := rowsApart (ownsRow_below rs_12 hbP) oh
    have apxh := rowsApart (ownsRow_below rx_12 hbP) oh
    have apgh := rowsApart (ownsRow_below rg_12 hbP) oh
    clear hbP oth
    have hb : Below w12.heap.size w12 wC13 := ((((Below.refl _ _).drew).trans hbA).trans (hbB.mono (hbA.size))).trans (hbC.mono (Nat.le_trans (hbA.size) hbB.size))
    clear hbA hbB hbC
    have u13 := u12.trans (hb.mono u12.size)
    have y1_13_0 := cell_later u13 (cellIn (i := 0) (unhide Y1) rfl)
    have y1_13_1 := cell_later u13 (cellIn (i := 1) (unhide Y1) rfl)
    have y1_13_2 := cell_later u13 (cellIn (i := 2) (unhide Y1) rfl)
    have y1_13_3 := cell_later u13 (cellIn (i := 3) (unhide Y1) rfl)
    have rs_13 := ownsRow_below rs_12 hb
    have rx_13 := ownsRow_below rx_12 hb
    have rg_13 := ownsRow_below rg_12 hb
    clear hb y1_12_0 y1_12_1 y1_12_2 y1_12_3 u12 rs_12 rx_12 rg_12
    go_wp2_with fail
    refine (eqEntryS_any _ _ _ _ X _ oh rs_13 (by omega)).mono ?_
    rintro e w14 ⟨rfl, hb⟩
    have u14 := u13.trans (hb.mono u13.size)
    have y1_14_0 := cell_later u14 (cellIn (i := 0) (unhide Y1) rfl)
    have y1_14_1 := cell_later u14 (cellIn (i := 1) (unhide Y1) rfl)
    have y1_14_2 := cell_later u14 (cellIn (i := 2) (unhide Y1) rfl)
    have y1_14_3 := cell_later u14 (cellIn (i := 3) (unhide Y1) rfl)
    have rs_14 := ownsRow_below rs_13 hb
    have rx_14 := ownsRow_below rx_13 hb
    have rg_14 := ownsRow_below rg_13 hb
    have rh_14 := ownsRow_below oh hb
    clear hb y1_13_0 y1_13_1 y1_13_2 y1_13_3 u13 rs_13 rx_13 rg_13 oh
    have HD := hide (heldEntryS_any _ _ 1 X.length w14 rg_14 (by omega) (by omega) (by omega))
    rw [← unhide Hmg] at HD
    go_wp2_with fail
    refine (unhide HD).mono ?_
    rintro e w15 ⟨rfl, hb⟩
    have u15 := u14.trans (hb.mono u14.size)
    have y1_15_0 := cell_later u15 (cellIn (i := 0) (unhide Y1) rfl)
    have y1_15_1 := cell_later u15 (cellIn (i := 1) (unhide Y1) rfl)
    have y1_15_2 := cell_later u15 (cellIn (i := 2) (unhide Y1) rfl)
    have y1_15_3 := cell_later u15 (cellIn (i := 3) (unhide Y1) rfl)
    have rs_15 := ownsRow_below rs_14 hb
    have rx_15 := ownsRow_below rx_14 hb
    have rg_15 := ownsRow_below rg_14 hb
    have rh_15 := ownsRow_below rh_14 hb
    clear hb y1_14_0 y1_14_1 y1_14_2 y1_14_3 u14 rs_14 rx_14 rg_14 rh_14
    clear HD
    have t := z0.trans (u15.mono z0.size)
    clear rs_15 rx_15 rg_15 rh_15 u15 y1_15_0 y1_15_1 y1_15_2 y1_15_3 TD0 HF0
    go_wp2
    go_ret
    exact ⟨rfl, t⟩

set_option maxRecDepth 100000 in
theorem lifted (os : Os) (started : os.Started) (H : Type) (enc : TypeId × Value → H) :
    ReturnsInHanded {} Try.checked os 6 .any (Rows.fnExactPutEntrySpec.pre6 enc Try.prog Try.f6 Rows.fnExactPutEntryRow.domain false) (Rows.fnExactPutEntrySpec.post enc Try.prog Try.f6 false true false false) := by
  refine returnsInHanded_of_change (C := Try.checked) own started (by kernel_rfl) Try.func6
    (ChangeSpec.witness6 (enc := enc) (C := Try.checked) false ⟨#[], #[.slice none 0 0, .agg #[.int .i64 0, .int .i64 0, .int .i64 0, .int .i64 0]], []⟩ 8 (by kernel_rfl) (by kernel_rfl) (by kernel_rfl) (by kernel_rfl)) ?_
  intro W base args ds gs before hval0 hW hcnd _
  have hval : ∀ (j : Nat) t v, Try.f6.params[j]? = some t → args[j]? = some v → Value.okWide Try.prog W .any base t v := hval0
  have hW' := hW
  obtain ⟨p, q, hA0, hV, rfl, hfz, hnd⟩ := hW
  have hA : DataW.TrodAll enc Try.prog W 0 (fun _ => true) true Try.f6.params.toList args.toList ds p := hA0
  rw [Try.params6] at hA hval
  obtain ⟨v0, vs0, d0, ds0, p0, q0, hargs, rfl, rfl, h0, r0⟩ := trodAll_cons hA
  obtain ⟨v1, vs1, d1, ds1, p1, q1, rfl, rfl, rfl, h1, r1⟩ := trodAll_cons r0
  obtain ⟨rfl, rfl, rfl⟩ := trodAll_nil r1
  obtain rfl : args = #[v0, v1] := by cases args; simp_all
  obtain ⟨rfl, rfl⟩ := trodVars_none hV
  have lt0 : ∀ x ∈ p0, x.block < W.heap.size := by obtain ⟨m, hm⟩ := h0; exact DataW.trod_lt m _ _ _ hm
  obtain ⟨a0, c0, f0, rfl, w0, y0⟩ := open_EntryS (hval 0 42 v0 rfl rfl) h0
  have lt1 : ∀ x ∈ p1, x.block < W.heap.size := by obtain ⟨m, hm⟩ := h1; exact DataW.trod_lt m _ _ _ hm
  obtain ⟨f1, rfl⟩ := open_Entry (hval 1 39 v1 rfl rfl) h1
  clear hA0 hval0
  refine (walk W a0 c0 f0 f1 w0 y0 ).mono fun e W' ⟨he, bel⟩ => ?_
  subst he
  exact ⟨_, rfl, _, _, _, [], _, [], hW', trodAll_mk1 (shut_bool Try.underlying4 _), (trodAll_cons_mk (Below.trod laidOut (by kernel_rfl) (of_decide_eq_true (by kernel_rfl)) h0 bel lt0) (trodAll_cons_mk (Below.trod laidOut (by kernel_rfl) (of_decide_eq_true (by kernel_rfl)) h1 bel lt1) trodAll_mk0)), rfl, bel.frame _, fun h => by cases h⟩

theorem over : Rows.fnExactPutEntryRow.holds Try.pinned (OpenSpec.ofChange Rows.fnExactPutEntrySpec) :=
  OpenClaim.holds_of_wide 6 Try.f6 rfl rfl rfl rfl rfl rfl rfl ⟨rfl, rfl, rfl, rfl, rfl⟩ rfl rfl rfl rfl rfl (by kernel_rfl) Try.func6 (by kernel_rfl)
    (of_decide_eq_true (by kernel_rfl)) (by unfold Func.isWrapper; first | (rw [if_pos (by decide +kernel)]; kernel_rfl) | (rw [if_neg (by decide +kernel)]; exact ⟨rfl, rfl⟩))
    (fun os started H enc _ => lifted os started H enc)

end Go.Proofs.Ytccafdoehjdbeaa.fnExactPutEntry
namespace Go.Proofs.Ytccafdoehjdbeaa
theorem fnExactPutEntry_holds : Rows.FnExactPutEntrySaid := fnExactPutEntry.over
#print axioms fnExactPutEntry_holds
end Go.Proofs.Ytccafdoehjdbeaa
