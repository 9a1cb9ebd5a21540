/- At every argument the law FnExactWriteFile answers true: the program WriteFile answers as the one of the specification does, its answer is its own memory, and nothing that was there is written. -/
import Derived.Test.YtapdmngljokdmaaRows
import Derived.WalkKit
import Derived.ProofKit
import Derived.OpenShut
import Derived.ShutString
import Derived.Test.YtapdmngljokdmaaSpecWrite
import Derived.Test.YtapdmngljokdmaaImplWrite
import Derived.Test.YtapdmngljokdmaaOpenDisk
namespace Go.Proofs.Ytapdmngljokdmaa.fnExactWriteFile
open Go.ChangeShapes Go.WideShapes Go.ChangeAt Go.RowKit
open Go.ChangeMaps (open_string shut_string)
open scoped Classical
set_option linter.unusedVariables false

theorem own : ownKnob Try.prog.godebug = none := by kernel_rfl
theorem laidOut : laidOutB Try.prog = true := by kernel_rfl

set_option maxRecDepth 100000 in
set_option maxHeartbeats 1600000 in
theorem walk (w : World) (a0 : Option Addr) (c0 : Nat) (f0 : List FileL) (a1 : ByteArray) (a2 : ByteArray) (w0 : f0.length ≤ 9223372036854775807) (v0 : FewF f0 9223372036854775807) (k0 : FilesIn w w.heap.size a0 f0) (w1 : a1.size ≤ maxLen) (w2 : a2.size ≤ maxLen) :
    Calls Try.prog 6 #[.agg #[.slice a0 f0.length c0], .string a1, .string a2] w fun e w' => e = .returned (.bool true) ∧ Below w.heap.size w w' := by
  obtain ⟨n1, rfl⟩ : ∃ l : List UInt8, a1 = ⟨l.toArray⟩ := ⟨a1.data.toList, bytes_eta2 a1⟩
  rw [size_mk] at w1
  obtain ⟨n2, rfl⟩ : ∃ l : List UInt8, a2 = ⟨l.toArray⟩ := ⟨a2.data.toList, bytes_eta2 a2⟩
  rw [size_mk] at w2
  by_cases hbig1 : 1048576 < n1.length
  · have hB : decide ((1048576 : Int) < (n1.length : Int)) = true := by simp; omega
    clear k0 v0
    go_enter Try.func6, Try.ntmps6
    go_wp2
    go_ret
    exact ⟨rfl, (Below.refl _ _).alloc (Nat.le_refl _) _⟩
  · have hB1 : decide ((1048576 : Int) < (n1.length : Int)) = false := by simp; omega
    by_cases hbig2 : 1048576 < n2.length
    · have hB : decide ((1048576 : Int) < (n2.length : Int)) = true := by simp; omega
      clear k0 v0
      go_enter Try.func6, Try.ntmps6
      go_wp2
      go_ret
      exact ⟨rfl, (Below.refl _ _).alloc (Nat.le_refl _) _⟩
    · have hB2 : decide ((1048576 : Int) < (n2.length : Int)) = false := by simp; omega
      have C0 := fun W (h : FilesIn W W.heap.size a0 f0) => hide (szDisk_any a0 c0 f0 1048576 W (by omega) (by omega) w0 v0 h)
      have HK := hide k0
      clear k0 v0
      go_enter Try.func6, Try.ntmps6
      go_wp2_with fail
      obtain ⟨W0, hW0⟩ : ∃ W0, W0 = w.alloc (Obj.cells #[Value.slice a0 f0.length c0] 40) := ⟨_, rfl⟩
      have Y0 : Hid (W0.cell? ⟨w.heap.size, 0, none⟩ = some (.slice a0 f0.length c0)) := by rw [hW0]; exact hide (by rw [cell_of_row _ _ 0 _ _ _ (heap_alloc_new w _)]; rfl)
      have z0 : Below w.heap.size w W0 := by rw [hW0]; exact (Below.refl _ _).alloc (Nat.le_refl _) _
      have z1 : w.heap.size < W0.heap.size := by rw [hW0]; simp
      rw [← hW0]
      clear hW0
      have HK0 := hide (filesIn_on (unhide HK) z0)
      clear HK
      refine (unhide (C0 _ (unhide HK0))).mono ?_
      rintro e w1 ⟨r, rfl, hr, hcase, hb⟩
      rcases hcase with hr1 | ⟨hr0, hn1, hl1⟩
      · subst hr1
        clear HK0 C0
        go_wp2
        go_ret
        exact ⟨rfl, z0.trans (hb.mono z0.size)⟩
      · have u1 : Below W0.heap.size W0 w1 := hb
        have TD := fun W (h : Below W0.heap.size W0 W) => hide (toDisk_any a0 c0 f0 W hn1 (filesIn_on (unhide HK0) h))
        clear C0 hb
        have y1 := cell_later u1 (unhide Y0)
        have XL : (writeF f0 n1 n2).1.length ≤ 1048577 := by have := writeF_len f0 n1 n2; omega
        have IM := fun (W : World) (g B : Nat) (h : RowAt W B g f0.length f0) => hide (implWrite_any B g _ f0 n1 n2 W h hn1 hl1 (by omega) (by omega))
        have SP := fun (W : World) (g B : Nat) (h : RowAt W B g f0.length f0) => hide (specWrite_any B g _ f0 n1 n2 W h hn1 hl1 (by omega) (by omega))
        generalize writeF f0 n1 n2 = XY at XL IM SP
        obtain ⟨X, Y⟩ := XY
        replace XL : X.length ≤ 1048577 := XL
        have hY : (Y != Y) = false := by simp
        go_wp2_with fail
        refine (unhide (TD _ u1)).mono ?_
        rintro e w2 ⟨ga, rfl, oa, hb⟩
        have bsa : W0.heap.size ≤ w1.heap.size := u1.size
        have u2 := u1.trans (hb.mono u1.size)
        have y2 := cell_later u2 (unhide Y0)
        clear hb y1 u1
        go_wp2_with fail
        refine (unhide (SP _ _ _ oa)).mono ?_
        rintro e w3 ⟨vs, rfl, os, hb⟩
        try simp only at os
        obtain ⟨qs, ms_, rfl, -⟩ := ownsRow_shape os
        clear oa
        have bss : W0.heap.size ≤ w2.heap.size := u2.size
        have u3 := u2.trans (hb.mono u2.size)
        have y3 := cell_later u3 (unhide Y0)
        clear hb y2 u2
        clear SP
        have hws : w.heap.size < w3.heap.size := Nat.lt_of_lt_of_le z1 u3.size
        go_wp2_with fail
        clear hws 
        obtain ⟨w4, hV⟩ : ∃ V, V = w3.alloc (Obj.cells #[.slice qs X.length ms_] 26) := ⟨_, rfl⟩
        have hb : Below w3.heap.size w3 w4 := by rw [hV]; exact (Below.refl _ _).alloc (Nat.le_refl _) _
        have nh : w4.heap[w3.heap.size]? = some (.cells #[.slice qs X.length ms_] 26 (0, 0)) := by rw [hV]; exact heap_alloc_new w3 _
        obtain ⟨bw, hBw⟩ : ∃ b, b = w3.heap.size := ⟨_, rfl⟩
        rw [← hBw] at nh
        rw [← hV, ← hBw]
        clear hV hBw
        have u4 := u3.trans (hb.mono u3.size)
        have y4 := cell_later u4 (unhide Y0)
        have rs_4 := ownsRow_below os hb
        clear hb y3 u3 os
        have hw_4 := nh
        have cw_4 := cell_one hw_4
        clear nh
        refine (unhide (TD _ u4)).mono ?_
        rintro e w5 ⟨gx, rfl, ox, hb⟩
        have bsx : W0.heap.size ≤ w4.heap.size := u4.size
        have apsx := rows_apart3 rs_4 ox
        have u5 := u4.trans (hb.mono u4.size)
        have y5 := cell_later u5 (unhide Y0)
        have rs_5 := ownsRow_below rs_4 hb
        have hw_5 := heap_later hb hw_4
        have cw_5 := cell_one hw_5
        clear hb y4 u4 rs_4 hw_4 cw_4
        have ltw : bw < w5.heap.size := (Array.getElem?_eq_some_iff.1 hw_5).1
        have hws : w.heap.size < w5.heap.size := Nat.lt_of_lt_of_le z1 u5.size
        go_wp2_with fail
        clear hws ltw
        obtain ⟨w6, hV⟩ : ∃ V, V = w5.alloc (Obj.cells #[.slice (some ⟨gx, 0, none⟩) f0.length f0.length] 26) := ⟨_, rfl⟩
        have hb : Below w5.heap.size w5 w6 := by rw [hV]; exact (Below.refl _ _).alloc (Nat.le_refl _) _
        have nh : w6.heap[w5.heap.size]? = some (.cells #[.slice (some ⟨gx, 0, none⟩) f0.length f0.length] 26 (0, 0)) := by rw [hV]; exact heap_alloc_new w5 _
        obtain ⟨bx, hBx⟩ : ∃ b, b = w5.heap.size := ⟨_, rfl⟩
        rw [← hBx] at nh
        rw [← hV, ← hBx]
        clear hV hBx
        have u6 := u5.trans (hb.mono u5.size)
        have y6 := cell_later u6 (unhide Y0)
        have rs_6 := ownsRow_below rs_5 hb
        have rx_6 := ownsRow_below ox hb
        have hw_6 := heap_later hb hw_5
        have cw_6 := cell_one hw_6
        clear hb y5 u5 rs_5 ox hw_5 cw_5
        have hx_6 := nh
        have cx_6 := cell_one hx_6
        clear nh
        refine (unhide (IM _ _ _ rx_6)).mono ?_
        rintro e w7 ⟨vg, rfl, og, hb⟩
        try simp only at og
        obtain ⟨qg, mg_, rfl, -⟩ := ownsRow_shape og
        have bsg : W0.heap.size ≤ w6.heap.size := u6.size
        have apsg := rows_apart3 rs_6 og
        have apxg := rows_apart3 rx_6 og
        have u7 := u6.trans (hb.mono u6.size)
        have y7 := cell_later u7 (unhide Y0)
        have rs_7 := ownsRow_below rs_6 hb
        have rx_7 := ownsRow_below rx_6 hb
        have hw_7 := heap_later hb hw_6
        have cw_7 := cell_one hw_7
        have hx_7 := heap_later hb hx_6
        have cx_7 := cell_one hx_7
        clear hb y6 u6 rs_6 rx_6 hw_6 hx_6 cw_6 cx_6
        have ltw : bw < w7.heap.size := (Array.getElem?_eq_some_iff.1 hw_7).1
        have ltx : bx < w7.heap.size := (Array.getElem?_eq_some_iff.1 hx_7).1
        have hws : w.heap.size < w7.heap.size := Nat.lt_of_lt_of_le z1 u7.size
        go_wp2_with fail
        clear hws ltw ltx
        obtain ⟨w8, hV⟩ : ∃ V, V = w7.alloc (Obj.cells #[.slice qg X.length mg_] 26) := ⟨_, rfl⟩
        have hb : Below w7.heap.size w7 w8 := by rw [hV]; exact (Below.refl _ _).alloc (Nat.le_refl _) _
        have nh : w8.heap[w7.heap.size]? = some (.cells #[.slice qg X.length mg_] 26 (0, 0)) := by rw [hV]; exact heap_alloc_new w7 _
        obtain ⟨bg, hBg⟩ : ∃ b, b = w7.heap.size := ⟨_, rfl⟩
        rw [← hBg] at nh
        rw [← hV, ← hBg]
        clear hV hBg
        have u8 := u7.trans (hb.mono u7.size)
        have y8 := cell_later u8 (unhide Y0)
        have rs_8 := ownsRow_below rs_7 hb
        have rx_8 := ownsRow_below rx_7 hb
        have rg_8 := ownsRow_below og hb
        have hw_8 := heap_later hb hw_7
        have cw_8 := cell_one hw_8
        have hx_8 := heap_later hb hx_7
        have cx_8 := cell_one hx_8
        clear hb y7 u7 rs_7 rx_7 og hw_7 hx_7 cw_7 cx_7
        have hg_8 := nh
        have cg_8 := cell_one hg_8
        clear nh
        refine (eqDisk_any _ _ _ _ X _ rg_8 rs_8 (by omega)).mono ?_
        rintro e w9 ⟨rfl, hb⟩
        have u9 := u8.trans (hb.mono u8.size)
        have y9 := cell_later u9 (unhide Y0)
        have rs_9 := ownsRow_below rs_8 hb
        have rx_9 := ownsRow_below rx_8 hb
        have rg_9 := ownsRow_below rg_8 hb
        have hw_9 := heap_later hb hw_8
        have cw_9 := cell_one hw_9
        have hx_9 := heap_later hb hx_8
        have cx_9 := cell_one hx_9
        have hg_9 := heap_later hb hg_8
        have cg_9 := cell_one hg_9
        clear hb y8 u8 rs_8 rx_8 rg_8 hw_8 hx_8 hg_8 cw_8 cx_8 cg_8
        go_wp2_with fail
        go_region_held3 (fun w' => w'.cell? ⟨w.heap.size, 0, none⟩ = some (.slice a0 f0.length c0) ∧ w'.cell? ⟨bx, 0, none⟩ = some (.slice (some ⟨gx, 0, none⟩) f0.length f0.length))
          (refine ⟨?_, ?_⟩ <;> first | go_keep | exact cell_later hbA (y9) | exact cell_later hbB (cell_later hbA (y9)) | exact cell_later hbA (cx_9) | exact cell_later hbB (cell_later hbA (cx_9)))
          (first
            | (go_at_call 23; refine (unhide (TD _ u9.drew)).mono ?_; rintro e wA10 ⟨gz, rfl, oz, hbA⟩)
            | (go_at_call 24; refine (eqDisk_any _ _ _ _ f0 _ (ownsRow_below (World.ownsRow.drew rx_9) hbA) oz (by omega)).mono ?_; rintro e wB10 ⟨rfl, hbB⟩))
        have hb : Below w9.heap.size w9 wB10 := (((Below.refl _ _).drew).trans hbA).trans (hbB.mono hbA.size)
        clear hbA hbB
        have u10 := u9.trans (hb.mono u9.size)
        have y10 := cell_later u10 (unhide Y0)
        have rs_10 := ownsRow_below rs_9 hb
        have rx_10 := ownsRow_below rx_9 hb
        have rg_10 := ownsRow_below rg_9 hb
        have hw_10 := heap_later hb hw_9
        have cw_10 := cell_one hw_10
        have hx_10 := heap_later hb hx_9
        have cx_10 := cell_one hx_10
        have hg_10 := heap_later hb hg_9
        have cg_10 := cell_one hg_10
        clear hb y9 u9 rs_9 rx_9 rg_9 hw_9 hx_9 hg_9 cw_9 cx_9 cg_9
        clear oz
        obtain ⟨mx, hm⟩ : ∃ m : Nat, m = 1 + f0.length * 3 := ⟨_, rfl⟩
        have MK := hide (markDisk_any _ _ f0 wB10 rx_10 (by omega))
        rw [← hm] at MK
        have Hmx := hide hm
        clear hm
        have mx0 : decide ((mx : Int) < 0) = false := decide_eq_false (by omega)
        have mx1 : ((mx : Int) != (mx : Int)) = false := by simp
        go_wp2_with fail
        refine (unhide MK).mono ?_
        rintro e w11 ⟨rfl, nx, hg⟩
        clear MK
        have u11 := u10.grown hg u10.size (fun j hj => Nat.le_trans bsx (rx_10.lt j hj).1)
        have y11 := cell_later u11 (unhide Y0)
        have rs_11 := rs_10.kept hg (apsx)
        have rg_11 := rg_10.kept hg ((ap_comm apxg))
        have hw_11 := heap_far hg rx_10 hw_10
        have cw_11 := cell_one hw_11
        have hx_11 := heap_far hg rx_10 hx_10
        have cx_11 := cell_one hx_11
        have hg_11 := heap_far hg rx_10 hg_10
        have cg_11 := cell_one hg_11
        clear y10 u10 rs_10 rg_10 hw_10 hx_10 hg_10 cw_10 cx_10 cg_10
        clear hg rx_10
        have nxx := nx
        clear nx
        go_wp2_with fail
        refine (eqDisk_any _ _ _ _ X _ rg_11 rs_11 (by omega)).mono ?_
        rintro e w12 ⟨rfl, hb⟩
        have u12 := u11.trans (hb.mono u11.size)
        have y12 := cell_later u12 (unhide Y0)
        have rs_12 := ownsRow_below rs_11 hb
        have rg_12 := ownsRow_below rg_11 hb
        have rx_12 := ownsRow_below nxx hb
        have hw_12 := heap_later hb hw_11
        have cw_12 := cell_one hw_12
        have hx_12 := heap_later hb hx_11
        have cx_12 := cell_one hx_12
        have hg_12 := heap_later hb hg_11
        have cg_12 := cell_one hg_12
        clear hb y11 u11 rs_11 rg_11 nxx hw_11 hx_11 hg_11 cw_11 cx_11 cg_11
        obtain ⟨mg, hm⟩ : ∃ m : Nat, m = 1 + X.length * 3 := ⟨_, rfl⟩
        have MK := hide (markDisk_any _ _ X w12 rg_12 (by omega))
        rw [← hm] at MK
        have Hmg := hide hm
        clear hm
        have mg0 : decide ((mg : Int) < 0) = false := decide_eq_false (by omega)
        have mg1 : ((mg : Int) != (mg : Int)) = false := by simp
        go_wp2_with fail
        refine (unhide MK).mono ?_
        rintro e w13 ⟨rfl, nx, hg⟩
        clear MK
        have u13 := u12.grown hg u12.size (fun j hj => Nat.le_trans bsg (rg_12.lt j hj).1)
        have y13 := cell_later u13 (unhide Y0)
        have rs_13 := rs_12.kept hg (apsg)
        have rx_13 := rx_12.kept hg (apxg)
        have hw_13 := heap_far hg rg_12 hw_12
        have cw_13 := cell_one hw_13
        have hx_13 := heap_far hg rg_12 hx_12
        have cx_13 := cell_one hx_13
        have hg_13 := heap_far hg rg_12 hg_12
        have cg_13 := cell_one hg_13
        clear y12 u12 rs_12 rx_12 hw_12 hx_12 hg_12 cw_12 cx_12 cg_12
        clear hg rg_12
        have nxg := nx
        clear nx
        have HD := hide (heldDisk_any _ _ X.length w13 nxg (by omega))
        rw [← unhide Hmg] at HD
        go_wp2_with fail
        refine (unhide HD).mono ?_
        rintro e w14 ⟨rfl, hb⟩
        have u14 := u13.trans (hb.mono u13.size)
        have y14 := cell_later u14 (unhide Y0)
        have rs_14 := ownsRow_below rs_13 hb
        have rx_14 := ownsRow_below rx_13 hb
        have rg_14 := ownsRow_below nxg hb
        have hw_14 := heap_later hb hw_13
        have cw_14 := cell_one hw_14
        have hx_14 := heap_later hb hx_13
        have cx_14 := cell_one hx_14
        have hg_14 := heap_later hb hg_13
        have cg_14 := cell_one hg_14
        clear hb y13 u13 rs_13 rx_13 nxg hw_13 hx_13 hg_13 cw_13 cx_13 cg_13
        clear HD
        go_wp2_with fail
        refine (unhide (TD _ u14)).mono ?_
        rintro e w15 ⟨gy, rfl, oy, hb⟩
        have bsy : W0.heap.size ≤ w14.heap.size := u14.size
        have apsy := rows_apart3 rs_14 oy
        have apxy := rows_apart3 rx_14 oy
        have apgy := rows_apart3 rg_14 oy
        have u15 := u14.trans (hb.mono u14.size)
        have y15 := cell_later u15 (unhide Y0)
        have rs_15 := ownsRow_below rs_14 hb
        have rx_15 := ownsRow_below rx_14 hb
        have rg_15 := ownsRow_below rg_14 hb
        have hw_15 := heap_later hb hw_14
        have cw_15 := cell_one hw_15
        have hx_15 := heap_later hb hx_14
        have cx_15 := cell_one hx_15
        have hg_15 := heap_later hb hg_14
        have cg_15 := cell_one hg_15
        clear hb y14 u14 rs_14 rx_14 rg_14 hw_14 hx_14 hg_14 cw_14 cx_14 cg_14
        go_wp2_with fail
        refine (unhide (IM _ _ _ oy)).mono ?_
        rintro e w16 ⟨vh, rfl, oh, hb⟩
        try simp only at oh
        obtain ⟨qh, mh_, rfl, -⟩ := ownsRow_shape oh
        clear oy
        have bsh : W0.heap.size ≤ w15.heap.size := u15.size
        have apsh := rows_apart3 rs_15 oh
        have apxh := rows_apart3 rx_15 oh
        have apgh := rows_apart3 rg_15 oh
        have u16 := u15.trans (hb.mono u15.size)
        have y16 := cell_later u16 (unhide Y0)
        have rs_16 := ownsRow_below rs_15 hb
        have rx_16 := ownsRow_below rx_15 hb
        have rg_16 := ownsRow_below rg_15 hb
        have hw_16 := heap_later hb hw_15
        have cw_16 := cell_one hw_16
        have hx_16 := heap_later hb hx_15
        have cx_16 := cell_one hx_16
        have hg_16 := heap_later hb hg_15
        have cg_16 := cell_one hg_16
        clear hb y15 u15 rs_15 rx_15 rg_15 hw_15 hx_15 hg_15 cw_15 cx_15 cg_15
        have ltw : bw < w16.heap.size := (Array.getElem?_eq_some_iff.1 hw_16).1
        have ltx : bx < w16.heap.size := (Array.getElem?_eq_some_iff.1 hx_16).1
        have ltg : bg < w16.heap.size := (Array.getElem?_eq_some_iff.1 hg_16).1
        have hws : w.heap.size < w16.heap.size := Nat.lt_of_lt_of_le z1 u16.size
        go_wp2_with fail
        clear hws ltw ltx ltg
        obtain ⟨w17, hV⟩ : ∃ V, V = w16.alloc (Obj.cells #[.slice qh X.length mh_] 26) := ⟨_, rfl⟩
        have hb : Below w16.heap.size w16 w17 := by rw [hV]; exact (Below.refl _ _).alloc (Nat.le_refl _) _
        have nh : w17.heap[w16.heap.size]? = some (.cells #[.slice qh X.length mh_] 26 (0, 0)) := by rw [hV]; exact heap_alloc_new w16 _
        obtain ⟨bh, hBh⟩ : ∃ b, b = w16.heap.size := ⟨_, rfl⟩
        rw [← hBh] at nh
        rw [← hV, ← hBh]
        clear hV hBh
        have u17 := u16.trans (hb.mono u16.size)
        have y17 := cell_later u17 (unhide Y0)
        have rs_17 := ownsRow_below rs_16 hb
        have rx_17 := ownsRow_below rx_16 hb
        have rg_17 := ownsRow_below rg_16 hb
        have rh_17 := ownsRow_below oh hb
        have hw_17 := heap_later hb hw_16
        have cw_17 := cell_one hw_17
        have hx_17 := heap_later hb hx_16
        have cx_17 := cell_one hx_17
        have hg_17 := heap_later hb hg_16
        have cg_17 := cell_one hg_17
        clear hb y16 u16 rs_16 rx_16 rg_16 oh hw_16 hx_16 hg_16 cw_16 cx_16 cg_16
        have hh_17 := nh
        have ch_17 := cell_one hh_17
        clear nh
        refine (eqDisk_any _ _ _ _ X _ rh_17 rs_17 (by omega)).mono ?_
        rintro e w18 ⟨rfl, hb⟩
        have u18 := u17.trans (hb.mono u17.size)
        have y18 := cell_later u18 (unhide Y0)
        have rs_18 := ownsRow_below rs_17 hb
        have rx_18 := ownsRow_below rx_17 hb
        have rg_18 := ownsRow_below rg_17 hb
        have rh_18 := ownsRow_below rh_17 hb
        have hw_18 := heap_later hb hw_17
        have cw_18 := cell_one hw_18
        have hx_18 := heap_later hb hx_17
        have cx_18 := cell_one hx_18
        have hg_18 := heap_later hb hg_17
        have cg_18 := cell_one hg_18
        have hh_18 := heap_later hb hh_17
        have ch_18 := cell_one hh_18
        clear hb y17 u17 rs_17 rx_17 rg_17 rh_17 hw_17 hx_17 hg_17 hh_17 cw_17 cx_17 cg_17 ch_17
        have HD := hide (heldDisk_any _ _ X.length w18 rg_18 (by omega))
        rw [← unhide Hmg] at HD
        go_wp2_with fail
        refine (unhide HD).mono ?_
        rintro e w19 ⟨rfl, hb⟩
        have u19 := u18.trans (hb.mono u18.size)
        have y19 := cell_later u19 (unhide Y0)
        have rs_19 := ownsRow_below rs_18 hb
        have rx_19 := ownsRow_below rx_18 hb
        have rg_19 := ownsRow_below rg_18 hb
        have rh_19 := ownsRow_below rh_18 hb
        have hw_19 := heap_later hb hw_18
        have cw_19 := cell_one hw_19
        have hx_19 := heap_later hb hx_18
        have cx_19 := cell_one hx_19
        have hg_19 := heap_later hb hg_18
        have cg_19 := cell_one hg_19
        have hh_19 := heap_later hb hh_18
        have ch_19 := cell_one hh_19
        clear hb y18 u18 rs_18 rx_18 rg_18 rh_18 hw_18 hx_18 hg_18 hh_18 cw_18 cx_18 cg_18 ch_18
        clear HD
        have t := z0.trans (u19.mono z0.size)
        clear rs_19 rx_19 rg_19 rh_19 hw_19 hx_19 hg_19 hh_19 cw_19 cx_19 cg_19 ch_19 u19 y19 TD HK0
        go_wp2
        go_ret
        exact ⟨rfl, t⟩

set_option maxRecDepth 100000 in
theorem lifted (os : Os) (started : os.Started) (H : Type) (enc : TypeId × Value → H) :
    ReturnsInHanded {} Try.checked os 6 .any (Rows.fnExactWriteFileSpec.pre6 enc Try.prog Try.f6 Rows.fnExactWriteFileRow.domain false) (Rows.fnExactWriteFileSpec.post enc Try.prog Try.f6 false true false false) := by
  refine returnsInHanded_of_change (C := Try.checked) own started (by kernel_rfl) Try.func6
    (ChangeSpec.witness6 (enc := enc) (C := Try.checked) false ⟨#[], #[.agg #[.slice none 0 0], .string ByteArray.empty, .string ByteArray.empty], []⟩ 8 (by kernel_rfl) (by kernel_rfl) (by kernel_rfl) (by kernel_rfl)) ?_
  intro W base args ds gs before hval0 hW hcnd _
  have hval : ∀ (j : Nat) t v, Try.f6.params[j]? = some t → args[j]? = some v → Value.okWide Try.prog W .any base t v := hval0
  have hW' := hW
  obtain ⟨p, q, hA0, hV, rfl, hfz, hnd⟩ := hW
  have hA : DataW.TrodAll enc Try.prog W 0 (fun _ => true) true Try.f6.params.toList args.toList ds p := hA0
  rw [Try.params6] at hA hval
  obtain ⟨v0, vs0, d0, ds0, p0, q0, hargs, rfl, rfl, h0, r0⟩ := trodAll_cons hA
  obtain ⟨v1, vs1, d1, ds1, p1, q1, rfl, rfl, rfl, h1, r1⟩ := trodAll_cons r0
  obtain ⟨v2, vs2, d2, ds2, p2, q2, rfl, rfl, rfl, h2, r2⟩ := trodAll_cons r1
  obtain ⟨rfl, rfl, rfl⟩ := trodAll_nil r2
  obtain rfl : args = #[v0, v1, v2] := by cases args; simp_all
  obtain ⟨rfl, rfl⟩ := trodVars_none hV
  have lt0 : ∀ x ∈ p0, x.block < W.heap.size := by obtain ⟨m, hm⟩ := h0; exact DataW.trod_lt m _ _ _ hm
  obtain ⟨a0, c0, f0, rfl, w0, x0, y0⟩ := open_disk (hval 0 40 v0 rfl rfl) h0
  obtain ⟨a1, rfl, rfl, rfl, w1⟩ := open_string Try.underlying9 (hval 1 9 v1 rfl rfl) h1
  obtain ⟨a2, rfl, rfl, rfl, w2⟩ := open_string Try.underlying9 (hval 2 9 v2 rfl rfl) h2
  clear hA0 hval0
  refine (walk W a0 c0 f0 a1 a2 w0 x0 y0 w1 w2).mono fun e W' ⟨he, bel⟩ => ?_
  subst he
  exact ⟨_, rfl, _, _, _, [], _, [], hW', trodAll_mk1 (shut_bool Try.underlying4 _), (trodAll_cons_mk (Below.trod laidOut (by kernel_rfl) (of_decide_eq_true (by kernel_rfl)) h0 bel lt0) (trodAll_cons_mk (shut_string Try.underlying9 w1) (trodAll_cons_mk (shut_string Try.underlying9 w2) trodAll_mk0))), rfl, bel.frame _, fun h => by cases h⟩

theorem over : Rows.fnExactWriteFileRow.holds Try.pinned (OpenSpec.ofChange Rows.fnExactWriteFileSpec) :=
  OpenClaim.holds_of_wide 6 Try.f6 rfl rfl rfl rfl rfl rfl rfl ⟨rfl, rfl, rfl, rfl, rfl⟩ rfl rfl rfl rfl rfl (by kernel_rfl) Try.func6 (by kernel_rfl)
    (of_decide_eq_true (by kernel_rfl)) (by unfold Func.isWrapper; first | (rw [if_pos (by decide +kernel)]; kernel_rfl) | (rw [if_neg (by decide +kernel)]; exact ⟨rfl, rfl⟩))
    (fun os started H enc _ => lifted os started H enc)

end Go.Proofs.Ytapdmngljokdmaa.fnExactWriteFile
namespace Go.Proofs.Ytapdmngljokdmaa
theorem fnExactWriteFile_holds : Rows.FnExactWriteFileSaid := fnExactWriteFile.over
#print axioms fnExactWriteFile_holds
end Go.Proofs.Ytapdmngljokdmaa
