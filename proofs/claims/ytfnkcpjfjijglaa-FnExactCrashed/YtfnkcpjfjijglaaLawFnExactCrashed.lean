/- At every argument the law FnExactCrashed answers true: the program Crashed answers as the one of the specification does, its answer is its own memory, and nothing that was there is written. -/
import Derived.Test.YtfnkcpjfjijglaaRows
import Derived.WalkKit
import Derived.ProofKit
import Derived.OpenShut
import Derived.ShutString
import Derived.Test.YtfnkcpjfjijglaaSpecCrashed
import Derived.Test.YtfnkcpjfjijglaaImplCrash
import Derived.Test.YtfnkcpjfjijglaaOpenDisk
import Derived.Test.YtfnkcpjfjijglaaOpenInts
namespace Go.Proofs.Ytfnkcpjfjijglaa.fnExactCrashed
open Go.ChangeShapes Go.WideShapes Go.ChangeAt Go.RowKit
open Go.ChangeMaps (open_string shut_string)
open scoped Classical
set_option linter.unusedVariables false

theorem own : ownKnob Try.prog.godebug = none := by kernel_rfl
theorem laidOut : laidOutB Try.prog = true := by kernel_rfl

set_option maxRecDepth 100000 in
set_option maxHeartbeats 1600000 in
theorem walk (w : World) (a0 : Option Addr) (c0 : Nat) (f0 : List FileL) (a1 : Option Addr) (c1 : Nat) (z1 : List Int) (w0 : f0.length ≤ 9223372036854775807) (v0 : FewF f0 9223372036854775807) (k0 : FilesIn w w.heap.size a0 f0) (w1 : z1.length ≤ 9223372036854775807) (k1 : IntsIn w w.heap.size a1 z1) :
    Calls Try.prog 4 #[.agg #[.slice a0 f0.length c0], .slice a1 z1.length c1] w fun e w' => e = .returned (.bool true) ∧ Below w.heap.size w w' := by
  by_cases hbig1 : 1048576 < z1.length
  · have hB : decide ((1048576 : Int) < (z1.length : Int)) = true := by simp; omega
    clear k0 v0 k1
    go_enter Try.func4, Try.ntmps4
    go_wp2
    go_ret
    exact ⟨rfl, (Below.refl _ _).alloc (by simp) _⟩
  · have hB1 : decide ((1048576 : Int) < (z1.length : Int)) = false := by simp; omega
    have hz1 : z1.length ≤ 1048576 := by omega
    have C0 := fun W (left : Int) (h0 : 0 ≤ left) (h1 : left ≤ 1048576) (h : FilesIn W W.heap.size a0 f0) => hide (szDisk_any a0 c0 f0 left W h0 h1 w0 v0 h)
    have HK0 := hide k0
    have HK1 := hide k1
    clear k0 v0 k1
    go_enter Try.func4, Try.ntmps4
    go_wp2_with fail
    obtain ⟨W0, hW0⟩ : ∃ W0, W0 = w.alloc (Obj.cells #[Value.slice a0 f0.length c0] 37) := ⟨_, rfl⟩
    have Y0 : Hid (W0.cell? ⟨w.heap.size, 0, none⟩ = some (.slice a0 f0.length c0)) := by rw [hW0]; exact hide (by rw [cell_of_row _ _ 0 _ _ _ (alloc_at _ _ _ (by simp))]; rfl)
    have z0 : Below w.heap.size w W0 := by rw [hW0]; exact (Below.refl _ _).alloc (by simp) _
    have zW : w.heap.size + 1 ≤ W0.heap.size := by rw [hW0]; simp
    rw [← hW0]
    clear hW0
    have HF0 := hide (filesIn_on (unhide HK0) z0)
    clear HK0
    have HF1 := hide (intsIn_on (unhide HK1) z0)
    clear HK1
    refine (unhide (C0 _ 1048576 (by omega) (by omega) (unhide HF0))).mono ?_
    rintro e w1 ⟨r0_, rfl, hr0, hcase, hb⟩
    have u1 : Below W0.heap.size W0 w1 := hb
    clear hb C0
    rcases hcase with hr1 | ⟨hr00, hn0, hl0⟩
    · subst hr1
      clear HF0 HF1 
      go_wp2
      go_ret
      exact ⟨rfl, z0.trans (u1.mono z0.size)⟩
    · skip
      have TD0 := fun W (h : Below W0.heap.size W0 W) => hide (toDisk_any a0 c0 f0 W hn0 (filesIn_on (unhide HF0) h))
      have TD1 := fun W (h : Below W0.heap.size W0 W) => hide (toInts_any a1 c1 z1 W hz1 (intsIn_on (unhide HF1) h))
      have y0_1 := cell_later u1 (unhide Y0)
      have SP := fun (W : World) (va vk : Value) (B B2 : Nat) (h : W.ownsRow B 34 3 va f0.length (filesC f0)) (h2 : W.ownsRow B2 3 1 vk z1.length (intC z1)) => hide (specCrashed_any va vk B B2 f0 z1 W h h2 (by omega) (by omega) hl0)
      have IM := fun (W : World) (va vk : Value) (B B2 : Nat) (h : W.ownsRow B 34 3 va f0.length (filesC f0)) (h2 : W.ownsRow B2 3 1 vk z1.length (intC z1)) => hide (implCrashed_any va vk B B2 f0 z1 W h h2 (by omega) (by omega) hl0)
      have XL : (crashF f0 z1).length ≤ 1048577 := by have := crashF_len f0 z1; omega
      generalize crashF f0 z1 = X at XL SP IM
      go_wp2_with fail
      refine (unhide (TD0 _ u1)).mono ?_
      rintro e w2 ⟨ga, rfl, oa, hb⟩
      have bsa : W0.heap.size ≤ w1.heap.size := u1.size
      have u2 := u1.trans (hb.mono u1.size)
      have y0_2 := cell_later u2 (unhide Y0)
      clear hb y0_1 u1
      go_wp2_with fail
      refine (unhide (TD1 _ u2)).mono ?_
      rintro e w3 ⟨gi, rfl, oi, hb⟩
      have bsi : W0.heap.size ≤ w2.heap.size := u2.size
      have apai := rows_apart3 oa oi
      have u3 := u2.trans (hb.mono u2.size)
      have y0_3 := cell_later u3 (unhide Y0)
      have ra_3 := ownsRow_below oa hb
      clear hb y0_2 u2 oa
      go_wp2_with fail
      refine (unhide (SP _ _ _ _ _ ra_3 oi)).mono ?_
      rintro e w4 ⟨vs, rfl, os, hb⟩
      try simp only at os
      obtain ⟨qs, ms_, rfl, -⟩ := ownsRow_shape os
      clear ra_3
      clear oi
      have bss : W0.heap.size ≤ w3.heap.size := u3.size
      have u4 := u3.trans (hb.mono u3.size)
      have y0_4 := cell_later u4 (unhide Y0)
      clear hb y0_3 u3
      clear SP
      have hws0 : w.heap.size < w4.heap.size := by have := u4.size; omega
      go_wp2_with fail
      clear hws0 
      obtain ⟨w5, hV⟩ : ∃ V, V = w4.alloc (Obj.cells #[.slice qs X.length ms_] 26) := ⟨_, rfl⟩
      have hb : Below w4.heap.size w4 w5 := by rw [hV]; exact (Below.refl _ _).alloc (Nat.le_refl _) _
      have nh : w5.heap[w4.heap.size]? = some (.cells #[.slice qs X.length ms_] 26 (0, 0)) := by rw [hV]; exact heap_alloc_new w4 _
      obtain ⟨bw, hBw⟩ : ∃ b, b = w4.heap.size := ⟨_, rfl⟩
      rw [← hBw] at nh
      rw [← hV, ← hBw]
      clear hV hBw
      have u5 := u4.trans (hb.mono u4.size)
      have y0_5 := cell_later u5 (unhide Y0)
      have rs_5 := ownsRow_below os hb
      clear hb y0_4 u4 os
      have hw_5 := nh
      have cw_5 := cell_one hw_5
      clear nh
      refine (unhide (TD0 _ u5)).mono ?_
      rintro e w6 ⟨gx, rfl, ox, hb⟩
      have bsx : W0.heap.size ≤ w5.heap.size := u5.size
      have apsx := rows_apart3 rs_5 ox
      have u6 := u5.trans (hb.mono u5.size)
      have y0_6 := cell_later u6 (unhide Y0)
      have rs_6 := ownsRow_below rs_5 hb
      have hw_6 := heap_later hb hw_5
      have cw_6 := cell_one hw_6
      clear hb y0_5 u5 rs_5 hw_5 cw_5
      have ltw : bw < w6.heap.size := (Array.getElem?_eq_some_iff.1 hw_6).1
      have hws0 : w.heap.size < w6.heap.size := by have := u6.size; omega
      go_wp2_with fail
      clear hws0 ltw
      obtain ⟨w7, hV⟩ : ∃ V, V = w6.alloc (Obj.cells #[.slice (some ⟨gx, 0, none⟩) f0.length f0.length] 26) := ⟨_, rfl⟩
      have hb : Below w6.heap.size w6 w7 := by rw [hV]; exact (Below.refl _ _).alloc (Nat.le_refl _) _
      have nh : w7.heap[w6.heap.size]? = some (.cells #[.slice (some ⟨gx, 0, none⟩) f0.length f0.length] 26 (0, 0)) := by rw [hV]; exact heap_alloc_new w6 _
      obtain ⟨bx, hBx⟩ : ∃ b, b = w6.heap.size := ⟨_, rfl⟩
      rw [← hBx] at nh
      rw [← hV, ← hBx]
      clear hV hBx
      have u7 := u6.trans (hb.mono u6.size)
      have y0_7 := cell_later u7 (unhide Y0)
      have rs_7 := ownsRow_below rs_6 hb
      have rx_7 := ownsRow_below ox hb
      have hw_7 := heap_later hb hw_6
      have cw_7 := cell_one hw_7
      clear hb y0_6 u6 rs_6 ox hw_6 cw_6
      have hx_7 := nh
      have cx_7 := cell_one hx_7
      clear nh
      refine (unhide (TD1 _ u7)).mono ?_
      rintro e w8 ⟨gz, rfl, oz, hb⟩
      have bsz : W0.heap.size ≤ w7.heap.size := u7.size
      have apsz := rows_apart3 rs_7 oz
      have apxz := rows_apart3 rx_7 oz
      have u8 := u7.trans (hb.mono u7.size)
      have y0_8 := cell_later u8 (unhide Y0)
      have rs_8 := ownsRow_below rs_7 hb
      have rx_8 := ownsRow_below rx_7 hb
      have hw_8 := heap_later hb hw_7
      have cw_8 := cell_one hw_8
      have hx_8 := heap_later hb hx_7
      have cx_8 := cell_one hx_8
      clear hb y0_7 u7 rs_7 rx_7 hw_7 hx_7 cw_7 cx_7
      go_wp2_with fail
      refine (unhide (IM _ _ _ _ _ rx_8 oz)).mono ?_
      rintro e w9 ⟨vg, rfl, og, hb⟩
      try simp only at og
      obtain ⟨qg, mg_, rfl, -⟩ := ownsRow_shape og
      have bsg : W0.heap.size ≤ w8.heap.size := u8.size
      have apsg := rows_apart3 rs_8 og
      have apxg := rows_apart3 rx_8 og
      have apzg := rows_apart3 oz og
      have u9 := u8.trans (hb.mono u8.size)
      have y0_9 := cell_later u9 (unhide Y0)
      have rs_9 := ownsRow_below rs_8 hb
      have rx_9 := ownsRow_below rx_8 hb
      have rz_9 := ownsRow_below oz hb
      have hw_9 := heap_later hb hw_8
      have cw_9 := cell_one hw_9
      have hx_9 := heap_later hb hx_8
      have cx_9 := cell_one hx_9
      clear hb y0_8 u8 rs_8 rx_8 oz hw_8 hx_8 cw_8 cx_8
      have ltw : bw < w9.heap.size := (Array.getElem?_eq_some_iff.1 hw_9).1
      have ltx : bx < w9.heap.size := (Array.getElem?_eq_some_iff.1 hx_9).1
      have hws0 : w.heap.size < w9.heap.size := by have := u9.size; omega
      go_wp2_with fail
      clear hws0 ltw ltx
      obtain ⟨w10, hV⟩ : ∃ V, V = w9.alloc (Obj.cells #[.slice qg X.length mg_] 26) := ⟨_, rfl⟩
      have hb : Below w9.heap.size w9 w10 := by rw [hV]; exact (Below.refl _ _).alloc (Nat.le_refl _) _
      have nh : w10.heap[w9.heap.size]? = some (.cells #[.slice qg X.length mg_] 26 (0, 0)) := by rw [hV]; exact heap_alloc_new w9 _
      obtain ⟨bg, hBg⟩ : ∃ b, b = w9.heap.size := ⟨_, rfl⟩
      rw [← hBg] at nh
      rw [← hV, ← hBg]
      clear hV hBg
      have u10 := u9.trans (hb.mono u9.size)
      have y0_10 := cell_later u10 (unhide Y0)
      have rs_10 := ownsRow_below rs_9 hb
      have rx_10 := ownsRow_below rx_9 hb
      have rz_10 := ownsRow_below rz_9 hb
      have rg_10 := ownsRow_below og hb
      have hw_10 := heap_later hb hw_9
      have cw_10 := cell_one hw_10
      have hx_10 := heap_later hb hx_9
      have cx_10 := cell_one hx_10
      clear hb y0_9 u9 rs_9 rx_9 rz_9 og hw_9 hx_9 cw_9 cx_9
      have hg_10 := nh
      have cg_10 := cell_one hg_10
      clear nh
      refine (eqDisk_any _ _ _ _ X _ rg_10 rs_10 (by omega)).mono ?_
      rintro e w11 ⟨rfl, hb⟩
      have u11 := u10.trans (hb.mono u10.size)
      have y0_11 := cell_later u11 (unhide Y0)
      have rs_11 := ownsRow_below rs_10 hb
      have rx_11 := ownsRow_below rx_10 hb
      have rz_11 := ownsRow_below rz_10 hb
      have rg_11 := ownsRow_below rg_10 hb
      have hw_11 := heap_later hb hw_10
      have cw_11 := cell_one hw_11
      have hx_11 := heap_later hb hx_10
      have cx_11 := cell_one hx_11
      have hg_11 := heap_later hb hg_10
      have cg_11 := cell_one hg_11
      clear hb y0_10 u10 rs_10 rx_10 rz_10 rg_10 hw_10 hx_10 hg_10 cw_10 cx_10 cg_10
      go_wp2_with fail
      go_region_held3 (fun w' => w'.cell? ⟨w.heap.size, 0, none⟩ = some (.slice a0 f0.length c0) ∧ w'.cell? ⟨bx, 0, none⟩ = some (.slice (some ⟨gx, 0, none⟩) f0.length f0.length))
        (refine ⟨?_, ?_⟩ <;> first | go_keep | exact cell_later hbA (y0_11) | exact cell_later hbB (cell_later hbA (y0_11)) | exact cell_later hbA (cx_11) | exact cell_later hbB (cell_later hbA (cx_11)))
        (first
          | (go_at_call 15; refine (unhide (TD0 _ u11.drew)).mono ?_; rintro e wA12 ⟨gc, rfl, oc, hbA⟩)
          | (go_at_call 17; refine (eqDisk_any _ _ _ _ f0 _ (ownsRow_below (World.ownsRow.drew rx_11) hbA) oc (by omega)).mono ?_; rintro e wB12 ⟨rfl, hbB⟩))
      have hb : Below w11.heap.size w11 wB12 := (((Below.refl _ _).drew).trans hbA).trans (hbB.mono (hbA.size))
      clear hbA hbB
      have u12 := u11.trans (hb.mono u11.size)
      have y0_12 := cell_later u12 (unhide Y0)
      have rs_12 := ownsRow_below rs_11 hb
      have rx_12 := ownsRow_below rx_11 hb
      have rz_12 := ownsRow_below rz_11 hb
      have rg_12 := ownsRow_below rg_11 hb
      have hw_12 := heap_later hb hw_11
      have cw_12 := cell_one hw_12
      have hx_12 := heap_later hb hx_11
      have cx_12 := cell_one hx_12
      have hg_12 := heap_later hb hg_11
      have cg_12 := cell_one hg_12
      clear hb y0_11 u11 rs_11 rx_11 rz_11 rg_11 hw_11 hx_11 hg_11 cw_11 cx_11 cg_11
      clear oc
      go_wp2_with fail
      refine (unhide (TD1 _ u12)).mono ?_
      rintro e w13 ⟨gd, rfl, od, hb⟩
      have bsd : W0.heap.size ≤ wB12.heap.size := u12.size
      have apsd := rows_apart3 rs_12 od
      have apxd := rows_apart3 rx_12 od
      have apzd := rows_apart3 rz_12 od
      have apgd := rows_apart3 rg_12 od
      have u13 := u12.trans (hb.mono u12.size)
      have y0_13 := cell_later u13 (unhide Y0)
      have rs_13 := ownsRow_below rs_12 hb
      have rx_13 := ownsRow_below rx_12 hb
      have rz_13 := ownsRow_below rz_12 hb
      have rg_13 := ownsRow_below rg_12 hb
      have hw_13 := heap_later hb hw_12
      have cw_13 := cell_one hw_13
      have hx_13 := heap_later hb hx_12
      have cx_13 := cell_one hx_13
      have hg_13 := heap_later hb hg_12
      have cg_13 := cell_one hg_13
      clear hb y0_12 u12 rs_12 rx_12 rz_12 rg_12 hw_12 hx_12 hg_12 cw_12 cx_12 cg_12
      go_wp2_with fail
      refine (eqInts_any _ _ _ _ z1 _ rz_13 od (by omega)).mono ?_
      rintro e w14 ⟨rfl, hb⟩
      clear od
      have u14 := u13.trans (hb.mono u13.size)
      have y0_14 := cell_later u14 (unhide Y0)
      have rs_14 := ownsRow_below rs_13 hb
      have rx_14 := ownsRow_below rx_13 hb
      have rz_14 := ownsRow_below rz_13 hb
      have rg_14 := ownsRow_below rg_13 hb
      have hw_14 := heap_later hb hw_13
      have cw_14 := cell_one hw_14
      have hx_14 := heap_later hb hx_13
      have cx_14 := cell_one hx_14
      have hg_14 := heap_later hb hg_13
      have cg_14 := cell_one hg_14
      clear hb y0_13 u13 rs_13 rx_13 rz_13 rg_13 hw_13 hx_13 hg_13 cw_13 cx_13 cg_13
      obtain ⟨mx, hm⟩ : ∃ m : Nat, m = 1 + f0.length * 3 := ⟨_, rfl⟩
      have MK := hide (markDisk_any _ _ f0 w14 rx_14 (by omega))
      rw [← hm] at MK
      have Hmx := hide hm
      have mx9 : mx ≤ 3145732 := by omega
      have mx8 : 1 ≤ mx := by omega
      clear hm
      have mx0 : decide ((mx : Int) < 0) = false := decide_eq_false (by omega)
      have mx1 : ((mx : Int) != (mx : Int)) = false := by simp
      go_wp2_with fail
      refine (unhide MK).mono ?_
      rintro e w15 ⟨rfl, nx, hg⟩
      clear MK
      have u15 := u14.grown hg u14.size (fun j hj => Nat.le_trans bsx (rx_14.lt j hj).1)
      have y0_15 := cell_later u15 (unhide Y0)
      have rs_15 := rs_14.kept hg (apsx)
      have rz_15 := rz_14.kept hg ((ap_comm apxz))
      have rg_15 := rg_14.kept hg ((ap_comm apxg))
      have hw_15 := heap_farG hg rx_14 hw_14 (by decide)
      have cw_15 := cell_one hw_15
      have hx_15 := heap_farG hg rx_14 hx_14 (by decide)
      have cx_15 := cell_one hx_15
      have hg_15 := heap_farG hg rx_14 hg_14 (by decide)
      have cg_15 := cell_one hg_15
      clear y0_14 u14 rs_14 rz_14 rg_14 hw_14 hx_14 hg_14 cw_14 cx_14 cg_14
      clear hg rx_14
      have nxx := nx
      clear nx
      obtain ⟨mz, hm⟩ : ∃ m : Nat, m = mx + z1.length := ⟨_, rfl⟩
      have MK := hide (markInts_any _ _ mx z1 w15 rz_15 (by omega) (by omega) (by omega))
      rw [← hm] at MK
      have Hmz := hide hm
      have mz9 : mz ≤ 4194309 := by omega
      have mz8 : 1 ≤ mz := by omega
      clear hm
      have mz0 : decide ((mz : Int) < 0) = false := decide_eq_false (by omega)
      have mz1 : ((mz : Int) != (mz : Int)) = false := by simp
      go_wp2_with fail
      refine (unhide MK).mono ?_
      rintro e w16 ⟨rfl, nx, hg⟩
      clear MK
      have u16 := u15.grown hg u15.size (fun j hj => Nat.le_trans bsz (rz_15.lt j hj).1)
      have y0_16 := cell_later u16 (unhide Y0)
      have rs_16 := rs_15.kept hg (apsz)
      have rg_16 := rg_15.kept hg ((ap_comm apzg))
      have rx_16 := nxx.kept hg (apxz)
      have hw_16 := heap_farG hg rz_15 hw_15 (by decide)
      have cw_16 := cell_one hw_16
      have hx_16 := heap_farG hg rz_15 hx_15 (by decide)
      have cx_16 := cell_one hx_16
      have hg_16 := heap_farG hg rz_15 hg_15 (by decide)
      have cg_16 := cell_one hg_16
      clear y0_15 u15 rs_15 rg_15 nxx hw_15 hx_15 hg_15 cw_15 cx_15 cg_15
      clear hg rz_15
      have nxz := nx
      clear nx
      go_wp2_with fail
      refine (eqDisk_any _ _ _ _ X _ rg_16 rs_16 (by omega)).mono ?_
      rintro e w17 ⟨rfl, hb⟩
      have u17 := u16.trans (hb.mono u16.size)
      have y0_17 := cell_later u17 (unhide Y0)
      have rs_17 := ownsRow_below rs_16 hb
      have rg_17 := ownsRow_below rg_16 hb
      have rx_17 := ownsRow_below rx_16 hb
      have rz_17 := ownsRow_below nxz hb
      have hw_17 := heap_later hb hw_16
      have cw_17 := cell_one hw_17
      have hx_17 := heap_later hb hx_16
      have cx_17 := cell_one hx_17
      have hg_17 := heap_later hb hg_16
      have cg_17 := cell_one hg_17
      clear hb y0_16 u16 rs_16 rg_16 rx_16 nxz hw_16 hx_16 hg_16 cw_16 cx_16 cg_16
      obtain ⟨mg, hm⟩ : ∃ m : Nat, m = 1 + X.length * 3 := ⟨_, rfl⟩
      have MK := hide (markDisk_any _ _ X w17 rg_17 (by omega))
      rw [← hm] at MK
      have Hmg := hide hm
      have mg9 : mg ≤ 3145732 := by omega
      have mg8 : 1 ≤ mg := by omega
      clear hm
      have mg0 : decide ((mg : Int) < 0) = false := decide_eq_false (by omega)
      have mg1 : ((mg : Int) != (mg : Int)) = false := by simp
      go_wp2_with fail
      refine (unhide MK).mono ?_
      rintro e w18 ⟨rfl, nx, hg⟩
      clear MK
      have u18 := u17.grown hg u17.size (fun j hj => Nat.le_trans bsg (rg_17.lt j hj).1)
      have y0_18 := cell_later u18 (unhide Y0)
      have rs_18 := rs_17.kept hg (apsg)
      have rx_18 := rx_17.kept hg (apxg)
      have rz_18 := rz_17.kept hg (apzg)
      have hw_18 := heap_farG hg rg_17 hw_17 (by decide)
      have cw_18 := cell_one hw_18
      have hx_18 := heap_farG hg rg_17 hx_17 (by decide)
      have cx_18 := cell_one hx_18
      have hg_18 := heap_farG hg rg_17 hg_17 (by decide)
      have cg_18 := cell_one hg_18
      clear y0_17 u17 rs_17 rx_17 rz_17 hw_17 hx_17 hg_17 cw_17 cx_17 cg_17
      clear hg rg_17
      have nxg := nx
      clear nx
      have HD := hide (heldDisk_any _ _ X.length w18 nxg (by omega))
      rw [← unhide Hmg] at HD
      go_wp2_with fail
      refine (unhide HD).mono ?_
      rintro e w19 ⟨rfl, hb⟩
      have u19 := u18.trans (hb.mono u18.size)
      have y0_19 := cell_later u19 (unhide Y0)
      have rs_19 := ownsRow_below rs_18 hb
      have rx_19 := ownsRow_below rx_18 hb
      have rz_19 := ownsRow_below rz_18 hb
      have rg_19 := ownsRow_below nxg hb
      have hw_19 := heap_later hb hw_18
      have cw_19 := cell_one hw_19
      have hx_19 := heap_later hb hx_18
      have cx_19 := cell_one hx_19
      have hg_19 := heap_later hb hg_18
      have cg_19 := cell_one hg_19
      clear hb y0_18 u18 rs_18 rx_18 rz_18 nxg hw_18 hx_18 hg_18 cw_18 cx_18 cg_18
      clear HD
      go_wp2_with fail
      refine (unhide (TD0 _ u19)).mono ?_
      rintro e w20 ⟨gy, rfl, oy, hb⟩
      have bsy : W0.heap.size ≤ w19.heap.size := u19.size
      have apsy := rows_apart3 rs_19 oy
      have apxy := rows_apart3 rx_19 oy
      have apzy := rows_apart3 rz_19 oy
      have apgy := rows_apart3 rg_19 oy
      have u20 := u19.trans (hb.mono u19.size)
      have y0_20 := cell_later u20 (unhide Y0)
      have rs_20 := ownsRow_below rs_19 hb
      have rx_20 := ownsRow_below rx_19 hb
      have rz_20 := ownsRow_below rz_19 hb
      have rg_20 := ownsRow_below rg_19 hb
      have hw_20 := heap_later hb hw_19
      have cw_20 := cell_one hw_20
      have hx_20 := heap_later hb hx_19
      have cx_20 := cell_one hx_20
      have hg_20 := heap_later hb hg_19
      have cg_20 := cell_one hg_20
      clear hb y0_19 u19 rs_19 rx_19 rz_19 rg_19 hw_19 hx_19 hg_19 cw_19 cx_19 cg_19
      go_wp2_with fail
      refine (unhide (TD1 _ u20)).mono ?_
      rintro e w21 ⟨gv, rfl, ov, hb⟩
      have bsv : W0.heap.size ≤ w20.heap.size := u20.size
      have apsv := rows_apart3 rs_20 ov
      have apxv := rows_apart3 rx_20 ov
      have apzv := rows_apart3 rz_20 ov
      have apgv := rows_apart3 rg_20 ov
      have apyv := rows_apart3 oy ov
      have u21 := u20.trans (hb.mono u20.size)
      have y0_21 := cell_later u21 (unhide Y0)
      have rs_21 := ownsRow_below rs_20 hb
      have rx_21 := ownsRow_below rx_20 hb
      have rz_21 := ownsRow_below rz_20 hb
      have rg_21 := ownsRow_below rg_20 hb
      have ry_21 := ownsRow_below oy hb
      have hw_21 := heap_later hb hw_20
      have cw_21 := cell_one hw_21
      have hx_21 := heap_later hb hx_20
      have cx_21 := cell_one hx_21
      have hg_21 := heap_later hb hg_20
      have cg_21 := cell_one hg_21
      clear hb y0_20 u20 rs_20 rx_20 rz_20 rg_20 oy hw_20 hx_20 hg_20 cw_20 cx_20 cg_20
      go_wp2_with fail
      refine (unhide (IM _ _ _ _ _ ry_21 ov)).mono ?_
      rintro e w22 ⟨vh, rfl, oh, hb⟩
      try simp only at oh
      obtain ⟨qh, mh_, rfl, -⟩ := ownsRow_shape oh
      clear ry_21
      clear ov
      have bsh : W0.heap.size ≤ w21.heap.size := u21.size
      have apsh := rows_apart3 rs_21 oh
      have apxh := rows_apart3 rx_21 oh
      have apzh := rows_apart3 rz_21 oh
      have apgh := rows_apart3 rg_21 oh
      have u22 := u21.trans (hb.mono u21.size)
      have y0_22 := cell_later u22 (unhide Y0)
      have rs_22 := ownsRow_below rs_21 hb
      have rx_22 := ownsRow_below rx_21 hb
      have rz_22 := ownsRow_below rz_21 hb
      have rg_22 := ownsRow_below rg_21 hb
      have hw_22 := heap_later hb hw_21
      have cw_22 := cell_one hw_22
      have hx_22 := heap_later hb hx_21
      have cx_22 := cell_one hx_22
      have hg_22 := heap_later hb hg_21
      have cg_22 := cell_one hg_22
      clear hb y0_21 u21 rs_21 rx_21 rz_21 rg_21 hw_21 hx_21 hg_21 cw_21 cx_21 cg_21
      have ltw : bw < w22.heap.size := (Array.getElem?_eq_some_iff.1 hw_22).1
      have ltx : bx < w22.heap.size := (Array.getElem?_eq_some_iff.1 hx_22).1
      have ltg : bg < w22.heap.size := (Array.getElem?_eq_some_iff.1 hg_22).1
      have hws0 : w.heap.size < w22.heap.size := by have := u22.size; omega
      go_wp2_with fail
      clear hws0 ltw ltx ltg
      obtain ⟨w23, hV⟩ : ∃ V, V = w22.alloc (Obj.cells #[.slice qh X.length mh_] 26) := ⟨_, rfl⟩
      have hb : Below w22.heap.size w22 w23 := by rw [hV]; exact (Below.refl _ _).alloc (Nat.le_refl _) _
      have nh : w23.heap[w22.heap.size]? = some (.cells #[.slice qh X.length mh_] 26 (0, 0)) := by rw [hV]; exact heap_alloc_new w22 _
      obtain ⟨bh, hBh⟩ : ∃ b, b = w22.heap.size := ⟨_, rfl⟩
      rw [← hBh] at nh
      rw [← hV, ← hBh]
      clear hV hBh
      have u23 := u22.trans (hb.mono u22.size)
      have y0_23 := cell_later u23 (unhide Y0)
      have rs_23 := ownsRow_below rs_22 hb
      have rx_23 := ownsRow_below rx_22 hb
      have rz_23 := ownsRow_below rz_22 hb
      have rg_23 := ownsRow_below rg_22 hb
      have rh_23 := ownsRow_below oh hb
      have hw_23 := heap_later hb hw_22
      have cw_23 := cell_one hw_23
      have hx_23 := heap_later hb hx_22
      have cx_23 := cell_one hx_23
      have hg_23 := heap_later hb hg_22
      have cg_23 := cell_one hg_23
      clear hb y0_22 u22 rs_22 rx_22 rz_22 rg_22 oh hw_22 hx_22 hg_22 cw_22 cx_22 cg_22
      have hh_23 := nh
      have ch_23 := cell_one hh_23
      clear nh
      refine (eqDisk_any _ _ _ _ X _ rh_23 rs_23 (by omega)).mono ?_
      rintro e w24 ⟨rfl, hb⟩
      have u24 := u23.trans (hb.mono u23.size)
      have y0_24 := cell_later u24 (unhide Y0)
      have rs_24 := ownsRow_below rs_23 hb
      have rx_24 := ownsRow_below rx_23 hb
      have rz_24 := ownsRow_below rz_23 hb
      have rg_24 := ownsRow_below rg_23 hb
      have rh_24 := ownsRow_below rh_23 hb
      have hw_24 := heap_later hb hw_23
      have cw_24 := cell_one hw_24
      have hx_24 := heap_later hb hx_23
      have cx_24 := cell_one hx_24
      have hg_24 := heap_later hb hg_23
      have cg_24 := cell_one hg_24
      have hh_24 := heap_later hb hh_23
      have ch_24 := cell_one hh_24
      clear hb y0_23 u23 rs_23 rx_23 rz_23 rg_23 rh_23 hw_23 hx_23 hg_23 hh_23 cw_23 cx_23 cg_23 ch_23
      have HD := hide (heldDisk_any _ _ X.length w24 rg_24 (by omega))
      rw [← unhide Hmg] at HD
      go_wp2_with fail
      refine (unhide HD).mono ?_
      rintro e w25 ⟨rfl, hb⟩
      have u25 := u24.trans (hb.mono u24.size)
      have y0_25 := cell_later u25 (unhide Y0)
      have rs_25 := ownsRow_below rs_24 hb
      have rx_25 := ownsRow_below rx_24 hb
      have rz_25 := ownsRow_below rz_24 hb
      have rg_25 := ownsRow_below rg_24 hb
      have rh_25 := ownsRow_below rh_24 hb
      have hw_25 := heap_later hb hw_24
      have cw_25 := cell_one hw_25
      have hx_25 := heap_later hb hx_24
      have cx_25 := cell_one hx_25
      have hg_25 := heap_later hb hg_24
      have cg_25 := cell_one hg_25
      have hh_25 := heap_later hb hh_24
      have ch_25 := cell_one hh_25
      clear hb y0_24 u24 rs_24 rx_24 rz_24 rg_24 rh_24 hw_24 hx_24 hg_24 hh_24 cw_24 cx_24 cg_24 ch_24
      clear HD
      have t := z0.trans (u25.mono z0.size)
      clear rs_25 rx_25 rz_25 rg_25 rh_25 hw_25 hx_25 hg_25 hh_25 cw_25 cx_25 cg_25 ch_25 u25 y0_25 TD0 HF0 TD1 HF1
      go_wp2
      go_ret
      exact ⟨rfl, t⟩

set_option maxRecDepth 100000 in
theorem lifted (os : Os) (started : os.Started) (H : Type) (enc : TypeId × Value → H) :
    ReturnsInHanded {} Try.checked os 4 .any (Rows.fnExactCrashedSpec.pre6 enc Try.prog Try.f4 Rows.fnExactCrashedRow.domain false) (Rows.fnExactCrashedSpec.post enc Try.prog Try.f4 false true false false) := by
  refine returnsInHanded_of_change (C := Try.checked) own started (by kernel_rfl) Try.func4
    (ChangeSpec.witness6 (enc := enc) (C := Try.checked) false ⟨#[], #[.agg #[.slice none 0 0], .slice none 0 0], []⟩ 8 (by kernel_rfl) (by kernel_rfl) (by kernel_rfl) (by kernel_rfl)) ?_
  intro W base args ds gs before hval0 hW hcnd _
  have hval : ∀ (j : Nat) t v, Try.f4.params[j]? = some t → args[j]? = some v → Value.okWide Try.prog W .any base t v := hval0
  have hW' := hW
  obtain ⟨p, q, hA0, hV, rfl, hfz, hnd⟩ := hW
  have hA : DataW.TrodAll enc Try.prog W 0 (fun _ => true) true Try.f4.params.toList args.toList ds p := hA0
  rw [Try.params4] at hA hval
  obtain ⟨v0, vs0, d0, ds0, p0, q0, hargs, rfl, rfl, h0, r0⟩ := trodAll_cons hA
  obtain ⟨v1, vs1, d1, ds1, p1, q1, rfl, rfl, rfl, h1, r1⟩ := trodAll_cons r0
  obtain ⟨rfl, rfl, rfl⟩ := trodAll_nil r1
  obtain rfl : args = #[v0, v1] := by cases args; simp_all
  obtain ⟨rfl, rfl⟩ := trodVars_none hV
  have lt0 : ∀ x ∈ p0, x.block < W.heap.size := by obtain ⟨m, hm⟩ := h0; exact DataW.trod_lt m _ _ _ hm
  obtain ⟨a0, c0, f0, rfl, w0, x0, y0⟩ := open_disk (hval 0 37 v0 rfl rfl) h0
  have lt1 : ∀ x ∈ p1, x.block < W.heap.size := by obtain ⟨m, hm⟩ := h1; exact DataW.trod_lt m _ _ _ hm
  obtain ⟨a1, c1, z1, rfl, w1, y1⟩ := open_intS (hval 1 27 v1 rfl rfl) h1
  clear hA0 hval0
  refine (walk W a0 c0 f0 a1 c1 z1 w0 x0 y0 w1 y1).mono fun e W' ⟨he, bel⟩ => ?_
  subst he
  exact ⟨_, rfl, _, _, _, [], _, [], hW', trodAll_mk1 (shut_bool Try.underlying4 _), (trodAll_cons_mk (Below.trod laidOut (by kernel_rfl) (of_decide_eq_true (by kernel_rfl)) h0 bel lt0) (trodAll_cons_mk (Below.trod laidOut (by kernel_rfl) (of_decide_eq_true (by kernel_rfl)) h1 bel lt1) trodAll_mk0)), rfl, bel.frame _, fun h => by cases h⟩

theorem over : Rows.fnExactCrashedRow.holds Try.pinned (OpenSpec.ofChange Rows.fnExactCrashedSpec) :=
  OpenClaim.holds_of_wide 4 Try.f4 rfl rfl rfl rfl rfl rfl rfl ⟨rfl, rfl, rfl, rfl, rfl⟩ rfl rfl rfl rfl rfl (by kernel_rfl) Try.func4 (by kernel_rfl)
    (of_decide_eq_true (by kernel_rfl)) (by unfold Func.isWrapper; first | (rw [if_pos (by decide +kernel)]; kernel_rfl) | (rw [if_neg (by decide +kernel)]; exact ⟨rfl, rfl⟩))
    (fun os started H enc _ => lifted os started H enc)

end Go.Proofs.Ytfnkcpjfjijglaa.fnExactCrashed
namespace Go.Proofs.Ytfnkcpjfjijglaa
theorem fnExactCrashed_holds : Rows.FnExactCrashedSaid := fnExactCrashed.over
#print axioms fnExactCrashed_holds
end Go.Proofs.Ytfnkcpjfjijglaa
