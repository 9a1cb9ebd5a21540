/- For every list of entries handed in, spec.TakeEntry and impl.TakeEntry of the given code answer the same entry, the same others, and the same word whether there is one; what is answered owns its memory, and the list is left as it was: the statement FnExactTakeEntry holds at every argument. -/
import Derived.Test.YtccafdoehjdbeaaRows
import Derived.WalkKit
import Derived.ProofKit
import Derived.OpenShut
import Derived.ShutString
import Derived.Test.YtccafdoehjdbeaaSpecMerged
import Derived.Test.YtccafdoehjdbeaaRowBase
import Derived.Test.YtccafdoehjdbeaaImplShelf
import Derived.Test.YtccafdoehjdbeaaEntryPc
import Derived.Test.YtccafdoehjdbeaaEntryOpen
namespace Go.Proofs.Ytccafdoehjdbeaa.fnExactTakeEntry
open Go.ChangeShapes Go.WideShapes Go.ChangeAt Go.RowKit
open Go.ChangeMaps (open_string shut_string)
open scoped Classical
set_option linter.unusedVariables false

theorem own : ownKnob Try.prog.godebug = none := by kernel_rfl
theorem laidOut : laidOutB Try.prog = true := by kernel_rfl

set_option maxRecDepth 100000 in
set_option maxHeartbeats 1600000 in
theorem walk (w : World) (a0 : Option Addr) (c0 : Nat) (f0 : List QuadL) (w0 : f0.length ≤ 9223372036854775807) (k0 : QuadsIn w w.heap.size a0 f0) :
    Calls Try.prog 7 #[.slice a0 f0.length c0] w fun e w' => e = .returned (.bool true) ∧ Below w.heap.size w w' := by
  have C0 := fun W (left : Int) (h0 : 0 ≤ left) (h1 : left ≤ 1048576) => hide (szEntryS_any a0 c0 f0 left W h0 h1 w0)
  have HK0 := hide k0
  clear k0
  go_enter Try.func7, Try.ntmps7
  go_wp2_with fail
  have z0 : Below w.heap.size w w := Below.refl _ _
  have zW : w.heap.size + 0 ≤ w.heap.size := Nat.le_refl _
  have HF0 := hide (quadsIn_on (unhide HK0) z0)
  clear HK0
  refine (unhide (C0 _ 1048576 (by omega) (by omega))).mono ?_
  rintro e w1 ⟨r0_, rfl, hr0, hcase, hb⟩
  have u1 : Below w.heap.size w w1 := hb
  clear hb C0
  rcases hcase with hr1 | ⟨hr00, hn0⟩
  · subst hr1
    clear HF0 
    go_wp2
    go_ret
    exact ⟨rfl, z0.trans (u1.mono z0.size)⟩
  · skip
    have TD0 := fun W (h : Below w.heap.size w W) => hide (toEntryS_any a0 c0 f0 W hn0 (quadsIn_on (unhide HF0) h))
    have SP := fun (W : World) (va : Value) (B : Nat) (h : W.ownsRow B 29 4 va f0.length (quadsC f0)) => hide (specTake_any va B f0 W h (by omega))
    have IM := fun (W : World) (va : Value) (B : Nat) (h : W.ownsRow B 29 4 va f0.length (quadsC f0)) => hide (implTake_any va B f0 W h (by omega))
    have XL : (f0.drop 1).length ≤ 1048576 := by simp; omega
    generalize f0.drop 1 = X at XL SP IM
    generalize headQ f0 = hq at SP IM
    generalize (!f0.isEmpty) = bb at SP IM
    have bne : (bb != bb) = false := by simp
    obtain ⟨h1, h2, h3, h4⟩ := hq
    dsimp only [quadV] at SP IM
    go_wp2_with fail
    refine (unhide (TD0 _ u1)).mono ?_
    rintro e w2 ⟨ga, rfl, oa, hb⟩
    have bsa : w.heap.size ≤ w1.heap.size := u1.size
    have u2 := u1.trans (hb.mono u1.size)
    clear hb u1
    go_wp2_with fail
    refine (unhide (SP _ _ _ oa)).mono ?_
    rintro e w3 ⟨gs, ms_, rfl, os, hb⟩
    clear oa
    have bss : w.heap.size ≤ w2.heap.size := u2.size
    have u3 := u2.trans (hb.mono u2.size)
    clear hb u2
    have nw_s_e : ∀ g, (Value.slice (some ⟨gs, 0, none⟩) X.length ms_).ownBlock = some g → g < w3.heap.size := fun g hg => (os.lt g hg).2
    go_wp2_with fail
    obtain ⟨w4, hV⟩ : ∃ V, V = w3.alloc (Obj.cells #[.int .i64 h1, .int .i64 h2, .int .i64 h3, .int .i64 h4] 29) := ⟨_, rfl⟩
    have hb : Below w3.heap.size w3 w4 := by rw [hV]; exact (Below.refl _ _).alloc (Nat.le_refl _) _
    have nh : w4.heap[w3.heap.size]? = some (.cells #[.int .i64 h1, .int .i64 h2, .int .i64 h3, .int .i64 h4] 29 (0, 0)) := by rw [hV]; exact heap_alloc_new w3 _
    obtain ⟨be, hBe⟩ : ∃ b, b = w3.heap.size := ⟨_, rfl⟩
    have nv_s_e : ∀ g, (Value.slice (some ⟨gs, 0, none⟩) X.length ms_).ownBlock = some g → g ≠ be := fun g hg => by have := nw_s_e g hg; omega
    rw [← hBe] at nh
    rw [← hV, ← hBe]
    clear hV hBe
    have u4 := u3.trans (hb.mono u3.size)
    have rs_4 := ownsRow_below os hb
    clear hb u3 os
    have he_4 := nh
    have ce_4_0 := cellIn (i := 0) he_4 rfl
    have ce_4_1 := cellIn (i := 1) he_4 rfl
    have ce_4_2 := cellIn (i := 2) he_4 rfl
    have ce_4_3 := cellIn (i := 3) he_4 rfl
    clear nh
    clear nw_s_e
    clear SP
    refine (unhide (TD0 _ u4)).mono ?_
    rintro e w5 ⟨gx, rfl, ox, hb⟩
    have bsx : w.heap.size ≤ w4.heap.size := u4.size
    have apsx := rowsApart rs_4 ox
    have nv_x_e : ∀ g, (Value.slice (some ⟨gx, 0, none⟩) f0.length f0.length).ownBlock = some g → g ≠ be := fun g hg => by have h1 := (ox.lt g hg).1; have h2 := (Array.getElem?_eq_some_iff.1 he_4).1; omega
    have u5 := u4.trans (hb.mono u4.size)
    have rs_5 := ownsRow_below rs_4 hb
    have he_5 := heapLater hb he_4
    have ce_5_0 := cellIn (i := 0) he_5 rfl
    have ce_5_1 := cellIn (i := 1) he_5 rfl
    have ce_5_2 := cellIn (i := 2) he_5 rfl
    have ce_5_3 := cellIn (i := 3) he_5 rfl
    clear hb ce_4_0 ce_4_1 ce_4_2 ce_4_3 u4 rs_4 he_4
    go_wp2_with fail
    refine (unhide (IM _ _ _ ox)).mono ?_
    rintro e w6 ⟨vg, rfl, og, hb⟩
    try simp only at og
    obtain ⟨qg, mg_, rfl, -⟩ := ownsPc_shape og
    have bsg : w.heap.size ≤ w5.heap.size := u5.size
    have apsg := pcsApart (pcOf rs_5) og
    have apxg := pcsApart (pcOf ox) og
    have nv_g_e : ∀ g, (Value.slice qg X.length mg_).ownBlock = some g → g ≠ be := fun g hg => by have h1 := (og.lt g hg).1; have h2 := (Array.getElem?_eq_some_iff.1 he_5).1; omega
    have u6 := u5.trans (hb.mono u5.size)
    have rs_6 := ownsRow_below rs_5 hb
    have rx_6 := ownsRow_below ox hb
    have he_6 := heapLater hb he_5
    have ce_6_0 := cellIn (i := 0) he_6 rfl
    have ce_6_1 := cellIn (i := 1) he_6 rfl
    have ce_6_2 := cellIn (i := 2) he_6 rfl
    have ce_6_3 := cellIn (i := 3) he_6 rfl
    clear hb ce_5_0 ce_5_1 ce_5_2 ce_5_3 u5 rs_5 ox he_5
    have nw_s_f : ∀ g, (Value.slice (some ⟨gs, 0, none⟩) X.length ms_).ownBlock = some g → g < w6.heap.size := fun g hg => (rs_6.lt g hg).2
    have nw_x_f : ∀ g, (Value.slice (some ⟨gx, 0, none⟩) f0.length f0.length).ownBlock = some g → g < w6.heap.size := fun g hg => (rx_6.lt g hg).2
    have nw_g_f : ∀ g, (Value.slice qg X.length mg_).ownBlock = some g → g < w6.heap.size := fun g hg => (og.lt g hg).2
    have lte : be < w6.heap.size := (Array.getElem?_eq_some_iff.1 he_6).1
    go_wp2_with fail
    clear  lte
    obtain ⟨w7, hV⟩ : ∃ V, V = w6.alloc (Obj.cells #[.int .i64 h1, .int .i64 h2, .int .i64 h3, .int .i64 h4] 29) := ⟨_, rfl⟩
    have hb : Below w6.heap.size w6 w7 := by rw [hV]; exact (Below.refl _ _).alloc (Nat.le_refl _) _
    have nh : w7.heap[w6.heap.size]? = some (.cells #[.int .i64 h1, .int .i64 h2, .int .i64 h3, .int .i64 h4] 29 (0, 0)) := by rw [hV]; exact heap_alloc_new w6 _
    obtain ⟨bf, hBf⟩ : ∃ b, b = w6.heap.size := ⟨_, rfl⟩
    have nv_s_f : ∀ g, (Value.slice (some ⟨gs, 0, none⟩) X.length ms_).ownBlock = some g → g ≠ bf := fun g hg => by have := nw_s_f g hg; omega
    have nv_x_f : ∀ g, (Value.slice (some ⟨gx, 0, none⟩) f0.length f0.length).ownBlock = some g → g ≠ bf := fun g hg => by have := nw_x_f g hg; omega
    have nv_g_f : ∀ g, (Value.slice qg X.length mg_).ownBlock = some g → g ≠ bf := fun g hg => by have := nw_g_f g hg; omega
    rw [← hBf] at nh
    rw [← hV, ← hBf]
    clear hV hBf
    have u7 := u6.trans (hb.mono u6.size)
    have rs_7 := ownsRow_below rs_6 hb
    have rx_7 := ownsRow_below rx_6 hb
    have rg_7 := ownsPc_below og hb
    have he_7 := heapLater hb he_6
    have ce_7_0 := cellIn (i := 0) he_7 rfl
    have ce_7_1 := cellIn (i := 1) he_7 rfl
    have ce_7_2 := cellIn (i := 2) he_7 rfl
    have ce_7_3 := cellIn (i := 3) he_7 rfl
    clear hb ce_6_0 ce_6_1 ce_6_2 ce_6_3 u6 rs_6 rx_6 og he_6
    have hf_7 := nh
    have cf_7_0 := cellIn (i := 0) hf_7 rfl
    have cf_7_1 := cellIn (i := 1) hf_7 rfl
    have cf_7_2 := cellIn (i := 2) hf_7 rfl
    have cf_7_3 := cellIn (i := 3) hf_7 rfl
    clear nh
    clear nw_s_f nw_x_f nw_g_f
    refine (eqEntry_any (⟨h1, h2, h3, h4⟩ : QuadL) _).mono ?_
    rintro e w8 ⟨rfl, hb⟩
    have u8 := u7.trans (hb.mono u7.size)
    have rs_8 := ownsRow_below rs_7 hb
    have rx_8 := ownsRow_below rx_7 hb
    have rg_8 := ownsPc_below rg_7 hb
    have he_8 := heapLater hb he_7
    have ce_8_0 := cellIn (i := 0) he_8 rfl
    have ce_8_1 := cellIn (i := 1) he_8 rfl
    have ce_8_2 := cellIn (i := 2) he_8 rfl
    have ce_8_3 := cellIn (i := 3) he_8 rfl
    have hf_8 := heapLater hb hf_7
    have cf_8_0 := cellIn (i := 0) hf_8 rfl
    have cf_8_1 := cellIn (i := 1) hf_8 rfl
    have cf_8_2 := cellIn (i := 2) hf_8 rfl
    have cf_8_3 := cellIn (i := 3) hf_8 rfl
    clear hb ce_7_0 ce_7_1 ce_7_2 ce_7_3 cf_7_0 cf_7_1 cf_7_2 cf_7_3 u7 rs_7 rx_7 rg_7 he_7 hf_7
    go_wp2_with fail
    refine (eqEntryS_pc _ _ _ _ X _ rg_8 (pcOf rs_8) (by omega)).mono ?_
    rintro e w9 ⟨rfl, hb⟩
    have u9 := u8.trans (hb.mono u8.size)
    have rs_9 := ownsRow_below rs_8 hb
    have rx_9 := ownsRow_below rx_8 hb
    have rg_9 := ownsPc_below rg_8 hb
    have he_9 := heapLater hb he_8
    have ce_9_0 := cellIn (i := 0) he_9 rfl
    have ce_9_1 := cellIn (i := 1) he_9 rfl
    have ce_9_2 := cellIn (i := 2) he_9 rfl
    have ce_9_3 := cellIn (i := 3) he_9 rfl
    have hf_9 := heapLater hb hf_8
    have cf_9_0 := cellIn (i := 0) hf_9 rfl
    have cf_9_1 := cellIn (i := 1) hf_9 rfl
    have cf_9_2 := cellIn (i := 2) hf_9 rfl
    have cf_9_3 := cellIn (i := 3) hf_9 rfl
    clear hb ce_8_0 ce_8_1 ce_8_2 ce_8_3 cf_8_0 cf_8_1 cf_8_2 cf_8_3 u8 rs_8 rx_8 rg_8 he_8 hf_8
    go_wp2_with fail
    refine (unhide (TD0 _ u9)).mono ?_
    rintro e w10 ⟨gc, rfl, oc, hb⟩
    have bsc : w.heap.size ≤ w9.heap.size := u9.size
    have apsc := rowsApart rs_9 oc
    have apxc := rowsApart rx_9 oc
    have apgc := pcsApart rg_9 (pcOf oc)
    have nv_c_e : ∀ g, (Value.slice (some ⟨gc, 0, none⟩) f0.length f0.length).ownBlock = some g → g ≠ be := fun g hg => by have h1 := (oc.lt g hg).1; have h2 := (Array.getElem?_eq_some_iff.1 he_9).1; omega
    have nv_c_f : ∀ g, (Value.slice (some ⟨gc, 0, none⟩) f0.length f0.length).ownBlock = some g → g ≠ bf := fun g hg => by have h1 := (oc.lt g hg).1; have h2 := (Array.getElem?_eq_some_iff.1 hf_9).1; omega
    have u10 := u9.trans (hb.mono u9.size)
    have rs_10 := ownsRow_below rs_9 hb
    have rx_10 := ownsRow_below rx_9 hb
    have rg_10 := ownsPc_below rg_9 hb
    have he_10 := heapLater hb he_9
    have ce_10_0 := cellIn (i := 0) he_10 rfl
    have ce_10_1 := cellIn (i := 1) he_10 rfl
    have ce_10_2 := cellIn (i := 2) he_10 rfl
    have ce_10_3 := cellIn (i := 3) he_10 rfl
    have hf_10 := heapLater hb hf_9
    have cf_10_0 := cellIn (i := 0) hf_10 rfl
    have cf_10_1 := cellIn (i := 1) hf_10 rfl
    have cf_10_2 := cellIn (i := 2) hf_10 rfl
    have cf_10_3 := cellIn (i := 3) hf_10 rfl
    clear hb ce_9_0 ce_9_1 ce_9_2 ce_9_3 cf_9_0 cf_9_1 cf_9_2 cf_9_3 u9 rs_9 rx_9 rg_9 he_9 hf_9
    go_wp2_with fail
    refine (eqEntryS_any _ _ _ _ f0 _ rx_10 oc (by omega)).mono ?_
    rintro e w11 ⟨rfl, hb⟩
    have u11 := u10.trans (hb.mono u10.size)
    have rs_11 := ownsRow_below rs_10 hb
    have rx_11 := ownsRow_below rx_10 hb
    have rg_11 := ownsPc_below rg_10 hb
    have rc_11 := ownsRow_below oc hb
    have he_11 := heapLater hb he_10
    have ce_11_0 := cellIn (i := 0) he_11 rfl
    have ce_11_1 := cellIn (i := 1) he_11 rfl
    have ce_11_2 := cellIn (i := 2) he_11 rfl
    have ce_11_3 := cellIn (i := 3) he_11 rfl
    have hf_11 := heapLater hb hf_10
    have cf_11_0 := cellIn (i := 0) hf_11 rfl
    have cf_11_1 := cellIn (i := 1) hf_11 rfl
    have cf_11_2 := cellIn (i := 2) hf_11 rfl
    have cf_11_3 := cellIn (i := 3) hf_11 rfl
    clear hb ce_10_0 ce_10_1 ce_10_2 ce_10_3 cf_10_0 cf_10_1 cf_10_2 cf_10_3 u10 rs_10 rx_10 rg_10 oc he_10 hf_10
    clear rc_11
    obtain ⟨mx, hm⟩ : ∃ m : Nat, m = 1 + f0.length * 4 := ⟨_, rfl⟩
    have MK := hide (markEntryS_any _ _ 1 f0 w11 rx_11 (by omega) (by omega) (by omega))
    rw [← hm] at MK
    have Hmx := hide hm
    have mx9 : mx ≤ 4194801 := by omega
    have mx8 : 1 ≤ mx := by omega
    clear hm
    have mx0 : decide ((mx : Int) < 0) = false := decide_eq_false (by omega)
    have mx1 : ((mx : Int) != (mx : Int)) = false := by simp
    go_wp2_with fail
    refine (unhide MK).mono ?_
    rintro e w12 ⟨rfl, nx, hg⟩
    clear MK
    have u12 := u11.grown hg u11.size (fun j hj => Nat.le_trans bsx (rx_11.lt j hj).1)
    have rs_12 := rs_11.kept hg (apsx)
    have rg_12 := rg_11.kept hg ((apComm apxg))
    have he_12 := (hg.block _ (Array.getElem?_eq_some_iff.1 he_11).1 (fun e => nv_x_e _ e.symm rfl)).trans he_11
    have ce_12_0 := cellIn (i := 0) he_12 rfl
    have ce_12_1 := cellIn (i := 1) he_12 rfl
    have ce_12_2 := cellIn (i := 2) he_12 rfl
    have ce_12_3 := cellIn (i := 3) he_12 rfl
    have hf_12 := (hg.block _ (Array.getElem?_eq_some_iff.1 hf_11).1 (fun e => nv_x_f _ e.symm rfl)).trans hf_11
    have cf_12_0 := cellIn (i := 0) hf_12 rfl
    have cf_12_1 := cellIn (i := 1) hf_12 rfl
    have cf_12_2 := cellIn (i := 2) hf_12 rfl
    have cf_12_3 := cellIn (i := 3) hf_12 rfl
    clear ce_11_0 ce_11_1 ce_11_2 ce_11_3 cf_11_0 cf_11_1 cf_11_2 cf_11_3 u11 rs_11 rg_11 he_11 hf_11
    clear hg rx_11
    have nxx := nx
    clear nx
    go_wp2_with fail
    refine (eqEntry_any (⟨h1, h2, h3, h4⟩ : QuadL) _).mono ?_
    rintro e w13 ⟨rfl, hb⟩
    have u13 := u12.trans (hb.mono u12.size)
    have rs_13 := ownsRow_below rs_12 hb
    have rg_13 := ownsPc_below rg_12 hb
    have rx_13 := ownsRow_below nxx hb
    have he_13 := heapLater hb he_12
    have ce_13_0 := cellIn (i := 0) he_13 rfl
    have ce_13_1 := cellIn (i := 1) he_13 rfl
    have ce_13_2 := cellIn (i := 2) he_13 rfl
    have ce_13_3 := cellIn (i := 3) he_13 rfl
    have hf_13 := heapLater hb hf_12
    have cf_13_0 := cellIn (i := 0) hf_13 rfl
    have cf_13_1 := cellIn (i := 1) hf_13 rfl
    have cf_13_2 := cellIn (i := 2) hf_13 rfl
    have cf_13_3 := cellIn (i := 3) hf_13 rfl
    clear hb ce_12_0 ce_12_1 ce_12_2 ce_12_3 cf_12_0 cf_12_1 cf_12_2 cf_12_3 u12 rs_12 rg_12 nxx he_12 hf_12
    go_wp2_with fail
    refine (eqEntryS_pc _ _ _ _ X _ rg_13 (pcOf rs_13) (by omega)).mono ?_
    rintro e w14 ⟨rfl, hb⟩
    have u14 := u13.trans (hb.mono u13.size)
    have rs_14 := ownsRow_below rs_13 hb
    have rg_14 := ownsPc_below rg_13 hb
    have rx_14 := ownsRow_below rx_13 hb
    have he_14 := heapLater hb he_13
    have ce_14_0 := cellIn (i := 0) he_14 rfl
    have ce_14_1 := cellIn (i := 1) he_14 rfl
    have ce_14_2 := cellIn (i := 2) he_14 rfl
    have ce_14_3 := cellIn (i := 3) he_14 rfl
    have hf_14 := heapLater hb hf_13
    have cf_14_0 := cellIn (i := 0) hf_14 rfl
    have cf_14_1 := cellIn (i := 1) hf_14 rfl
    have cf_14_2 := cellIn (i := 2) hf_14 rfl
    have cf_14_3 := cellIn (i := 3) hf_14 rfl
    clear hb ce_13_0 ce_13_1 ce_13_2 ce_13_3 cf_13_0 cf_13_1 cf_13_2 cf_13_3 u13 rs_13 rg_13 rx_13 he_13 hf_13
    obtain ⟨mg, hm⟩ : ∃ m : Nat, m = 1 + X.length * 4 := ⟨_, rfl⟩
    have MK := hide (markEntryS_pc _ _ 1 X w14 rg_14 (by omega) (by omega) (by omega))
    rw [← hm] at MK
    have Hmg := hide hm
    have mg9 : mg ≤ 4194801 := by omega
    have mg8 : 1 ≤ mg := by omega
    clear hm
    have mg0 : decide ((mg : Int) < 0) = false := decide_eq_false (by omega)
    have mg1 : ((mg : Int) != (mg : Int)) = false := by simp
    go_wp2_with fail
    refine (unhide MK).mono ?_
    rintro e w15 ⟨rfl, nx, hg⟩
    clear MK
    have u15 := u14.grown hg u14.size (fun j hj => Nat.le_trans bsg (rg_14.lt j hj).1)
    have rs_15 := rs_14.kept hg (apsg)
    have rx_15 := rx_14.kept hg (apxg)
    have he_15 := (hg.block _ (Array.getElem?_eq_some_iff.1 he_14).1 (fun e => nv_g_e _ e.symm rfl)).trans he_14
    have ce_15_0 := cellIn (i := 0) he_15 rfl
    have ce_15_1 := cellIn (i := 1) he_15 rfl
    have ce_15_2 := cellIn (i := 2) he_15 rfl
    have ce_15_3 := cellIn (i := 3) he_15 rfl
    have hf_15 := (hg.block _ (Array.getElem?_eq_some_iff.1 hf_14).1 (fun e => nv_g_f _ e.symm rfl)).trans hf_14
    have cf_15_0 := cellIn (i := 0) hf_15 rfl
    have cf_15_1 := cellIn (i := 1) hf_15 rfl
    have cf_15_2 := cellIn (i := 2) hf_15 rfl
    have cf_15_3 := cellIn (i := 3) hf_15 rfl
    clear ce_14_0 ce_14_1 ce_14_2 ce_14_3 cf_14_0 cf_14_1 cf_14_2 cf_14_3 u14 rs_14 rx_14 he_14 hf_14
    clear hg rg_14
    have nxg := nx
    clear nx
    have HD := hide (heldEntryS_pc _ _ 1 X.length w15 nxg (by omega) (by omega) (by omega))
    rw [← unhide Hmg] at HD
    go_wp2_with fail
    refine (unhide HD).mono ?_
    rintro e w16 ⟨rfl, hb⟩
    have u16 := u15.trans (hb.mono u15.size)
    have rs_16 := ownsRow_below rs_15 hb
    have rx_16 := ownsRow_below rx_15 hb
    have rg_16 := ownsPc_below nxg hb
    have he_16 := heapLater hb he_15
    have ce_16_0 := cellIn (i := 0) he_16 rfl
    have ce_16_1 := cellIn (i := 1) he_16 rfl
    have ce_16_2 := cellIn (i := 2) he_16 rfl
    have ce_16_3 := cellIn (i := 3) he_16 rfl
    have hf_16 := heapLater hb hf_15
    have cf_16_0 := cellIn (i := 0) hf_16 rfl
    have cf_16_1 := cellIn (i := 1) hf_16 rfl
    have cf_16_2 := cellIn (i := 2) hf_16 rfl
    have cf_16_3 := cellIn (i := 3) hf_16 rfl
    clear hb ce_15_0 ce_15_1 ce_15_2 ce_15_3 cf_15_0 cf_15_1 cf_15_2 cf_15_3 u15 rs_15 rx_15 nxg he_15 hf_15
    clear HD
    go_wp2_with fail
    refine (unhide (TD0 _ u16)).mono ?_
    rintro e w17 ⟨gy, rfl, oy, hb⟩
    have bsy : w.heap.size ≤ w16.heap.size := u16.size
    have apsy := rowsApart rs_16 oy
    have apxy := rowsApart rx_16 oy
    have apgy := pcsApart rg_16 (pcOf oy)
    have nv_y_e : ∀ g, (Value.slice (some ⟨gy, 0, none⟩) f0.length f0.length).ownBlock = some g → g ≠ be := fun g hg => by have h1 := (oy.lt g hg).1; have h2 := (Array.getElem?_eq_some_iff.1 he_16).1; omega
    have nv_y_f : ∀ g, (Value.slice (some ⟨gy, 0, none⟩) f0.length f0.length).ownBlock = some g → g ≠ bf := fun g hg => by have h1 := (oy.lt g hg).1; have h2 := (Array.getElem?_eq_some_iff.1 hf_16).1; omega
    have u17 := u16.trans (hb.mono u16.size)
    have rs_17 := ownsRow_below rs_16 hb
    have rx_17 := ownsRow_below rx_16 hb
    have rg_17 := ownsPc_below rg_16 hb
    have he_17 := heapLater hb he_16
    have ce_17_0 := cellIn (i := 0) he_17 rfl
    have ce_17_1 := cellIn (i := 1) he_17 rfl
    have ce_17_2 := cellIn (i := 2) he_17 rfl
    have ce_17_3 := cellIn (i := 3) he_17 rfl
    have hf_17 := heapLater hb hf_16
    have cf_17_0 := cellIn (i := 0) hf_17 rfl
    have cf_17_1 := cellIn (i := 1) hf_17 rfl
    have cf_17_2 := cellIn (i := 2) hf_17 rfl
    have cf_17_3 := cellIn (i := 3) hf_17 rfl
    clear hb ce_16_0 ce_16_1 ce_16_2 ce_16_3 cf_16_0 cf_16_1 cf_16_2 cf_16_3 u16 rs_16 rx_16 rg_16 he_16 hf_16
    go_wp2_with fail
    refine (unhide (IM _ _ _ oy)).mono ?_
    rintro e w18 ⟨vh, rfl, oh, hb⟩
    try simp only at oh
    obtain ⟨qh, mh_, rfl, -⟩ := ownsPc_shape oh
    clear oy
    have bsh : w.heap.size ≤ w17.heap.size := u17.size
    have apsh := pcsApart (pcOf rs_17) oh
    have apxh := pcsApart (pcOf rx_17) oh
    have apgh := pcsApart rg_17 oh
    have nv_h_e : ∀ g, (Value.slice qh X.length mh_).ownBlock = some g → g ≠ be := fun g hg => by have h1 := (oh.lt g hg).1; have h2 := (Array.getElem?_eq_some_iff.1 he_17).1; omega
    have nv_h_f : ∀ g, (Value.slice qh X.length mh_).ownBlock = some g → g ≠ bf := fun g hg => by have h1 := (oh.lt g hg).1; have h2 := (Array.getElem?_eq_some_iff.1 hf_17).1; omega
    have u18 := u17.trans (hb.mono u17.size)
    have rs_18 := ownsRow_below rs_17 hb
    have rx_18 := ownsRow_below rx_17 hb
    have rg_18 := ownsPc_below rg_17 hb
    have he_18 := heapLater hb he_17
    have ce_18_0 := cellIn (i := 0) he_18 rfl
    have ce_18_1 := cellIn (i := 1) he_18 rfl
    have ce_18_2 := cellIn (i := 2) he_18 rfl
    have ce_18_3 := cellIn (i := 3) he_18 rfl
    have hf_18 := heapLater hb hf_17
    have cf_18_0 := cellIn (i := 0) hf_18 rfl
    have cf_18_1 := cellIn (i := 1) hf_18 rfl
    have cf_18_2 := cellIn (i := 2) hf_18 rfl
    have cf_18_3 := cellIn (i := 3) hf_18 rfl
    clear hb ce_17_0 ce_17_1 ce_17_2 ce_17_3 cf_17_0 cf_17_1 cf_17_2 cf_17_3 u17 rs_17 rx_17 rg_17 he_17 hf_17
    have nw_s_i : ∀ g, (Value.slice (some ⟨gs, 0, none⟩) X.length ms_).ownBlock = some g → g < w18.heap.size := fun g hg => (rs_18.lt g hg).2
    have nw_x_i : ∀ g, (Value.slice (some ⟨gx, 0, none⟩) f0.length f0.length).ownBlock = some g → g < w18.heap.size := fun g hg => (rx_18.lt g hg).2
    have nw_g_i : ∀ g, (Value.slice qg X.length mg_).ownBlock = some g → g < w18.heap.size := fun g hg => (rg_18.lt g hg).2
    have nw_h_i : ∀ g, (Value.slice qh X.length mh_).ownBlock = some g → g < w18.heap.size := fun g hg => (oh.lt g hg).2
    have lte : be < w18.heap.size := (Array.getElem?_eq_some_iff.1 he_18).1
    have ltf : bf < w18.heap.size := (Array.getElem?_eq_some_iff.1 hf_18).1
    go_wp2_with fail
    clear  lte ltf
    obtain ⟨w19, hV⟩ : ∃ V, V = w18.alloc (Obj.cells #[.int .i64 h1, .int .i64 h2, .int .i64 h3, .int .i64 h4] 29) := ⟨_, rfl⟩
    have hb : Below w18.heap.size w18 w19 := by rw [hV]; exact (Below.refl _ _).alloc (Nat.le_refl _) _
    have nh : w19.heap[w18.heap.size]? = some (.cells #[.int .i64 h1, .int .i64 h2, .int .i64 h3, .int .i64 h4] 29 (0, 0)) := by rw [hV]; exact heap_alloc_new w18 _
    obtain ⟨bi, hBi⟩ : ∃ b, b = w18.heap.size := ⟨_, rfl⟩
    have nv_s_i : ∀ g, (Value.slice (some ⟨gs, 0, none⟩) X.length ms_).ownBlock = some g → g ≠ bi := fun g hg => by have := nw_s_i g hg; omega
    have nv_x_i : ∀ g, (Value.slice (some ⟨gx, 0, none⟩) f0.length f0.length).ownBlock = some g → g ≠ bi := fun g hg => by have := nw_x_i g hg; omega
    have nv_g_i : ∀ g, (Value.slice qg X.length mg_).ownBlock = some g → g ≠ bi := fun g hg => by have := nw_g_i g hg; omega
    have nv_h_i : ∀ g, (Value.slice qh X.length mh_).ownBlock = some g → g ≠ bi := fun g hg => by have := nw_h_i g hg; omega
    rw [← hBi] at nh
    rw [← hV, ← hBi]
    clear hV hBi
    have u19 := u18.trans (hb.mono u18.size)
    have rs_19 := ownsRow_below rs_18 hb
    have rx_19 := ownsRow_below rx_18 hb
    have rg_19 := ownsPc_below rg_18 hb
    have rh_19 := ownsPc_below oh hb
    have he_19 := heapLater hb he_18
    have ce_19_0 := cellIn (i := 0) he_19 rfl
    have ce_19_1 := cellIn (i := 1) he_19 rfl
    have ce_19_2 := cellIn (i := 2) he_19 rfl
    have ce_19_3 := cellIn (i := 3) he_19 rfl
    have hf_19 := heapLater hb hf_18
    have cf_19_0 := cellIn (i := 0) hf_19 rfl
    have cf_19_1 := cellIn (i := 1) hf_19 rfl
    have cf_19_2 := cellIn (i := 2) hf_19 rfl
    have cf_19_3 := cellIn (i := 3) hf_19 rfl
    clear hb ce_18_0 ce_18_1 ce_18_2 ce_18_3 cf_18_0 cf_18_1 cf_18_2 cf_18_3 u18 rs_18 rx_18 rg_18 oh he_18 hf_18
    have hi_19 := nh
    have ci_19_0 := cellIn (i := 0) hi_19 rfl
    have ci_19_1 := cellIn (i := 1) hi_19 rfl
    have ci_19_2 := cellIn (i := 2) hi_19 rfl
    have ci_19_3 := cellIn (i := 3) hi_19 rfl
    clear nh
    clear nw_s_i nw_x_i nw_g_i nw_h_i
    refine (eqEntry_any (⟨h1, h2, h3, h4⟩ : QuadL) _).mono ?_
    rintro e w20 ⟨rfl, hb⟩
    have u20 := u19.trans (hb.mono u19.size)
    have rs_20 := ownsRow_below rs_19 hb
    have rx_20 := ownsRow_below rx_19 hb
    have rg_20 := ownsPc_below rg_19 hb
    have rh_20 := ownsPc_below rh_19 hb
    have he_20 := heapLater hb he_19
    have ce_20_0 := cellIn (i := 0) he_20 rfl
    have ce_20_1 := cellIn (i := 1) he_20 rfl
    have ce_20_2 := cellIn (i := 2) he_20 rfl
    have ce_20_3 := cellIn (i := 3) he_20 rfl
    have hf_20 := heapLater hb hf_19
    have cf_20_0 := cellIn (i := 0) hf_20 rfl
    have cf_20_1 := cellIn (i := 1) hf_20 rfl
    have cf_20_2 := cellIn (i := 2) hf_20 rfl
    have cf_20_3 := cellIn (i := 3) hf_20 rfl
    have hi_20 := heapLater hb hi_19
    have ci_20_0 := cellIn (i := 0) hi_20 rfl
    have ci_20_1 := cellIn (i := 1) hi_20 rfl
    have ci_20_2 := cellIn (i := 2) hi_20 rfl
    have ci_20_3 := cellIn (i := 3) hi_20 rfl
    clear hb ce_19_0 ce_19_1 ce_19_2 ce_19_3 cf_19_0 cf_19_1 cf_19_2 cf_19_3 ci_19_0 ci_19_1 ci_19_2 ci_19_3 u19 rs_19 rx_19 rg_19 rh_19 he_19 hf_19 hi_19
    go_wp2_with fail
    refine (eqEntryS_pc _ _ _ _ X _ rh_20 (pcOf rs_20) (by omega)).mono ?_
    rintro e w21 ⟨rfl, hb⟩
    have u21 := u20.trans (hb.mono u20.size)
    have rs_21 := ownsRow_below rs_20 hb
    have rx_21 := ownsRow_below rx_20 hb
    have rg_21 := ownsPc_below rg_20 hb
    have rh_21 := ownsPc_below rh_20 hb
    have he_21 := heapLater hb he_20
    have ce_21_0 := cellIn (i := 0) he_21 rfl
    have ce_21_1 := cellIn (i := 1) he_21 rfl
    have ce_21_2 := cellIn (i := 2) he_21 rfl
    have ce_21_3 := cellIn (i := 3) he_21 rfl
    have hf_21 := heapLater hb hf_20
    have cf_21_0 := cellIn (i := 0) hf_21 rfl
    have cf_21_1 := cellIn (i := 1) hf_21 rfl
    have cf_21_2 := cellIn (i := 2) hf_21 rfl
    have cf_21_3 := cellIn (i := 3) hf_21 rfl
    have hi_21 := heapLater hb hi_20
    have ci_21_0 := cellIn (i := 0) hi_21 rfl
    have ci_21_1 := cellIn (i := 1) hi_21 rfl
    have ci_21_2 := cellIn (i := 2) hi_21 rfl
    have ci_21_3 := cellIn (i := 3) hi_21 rfl
    clear hb ce_20_0 ce_20_1 ce_20_2 ce_20_3 cf_20_0 cf_20_1 cf_20_2 cf_20_3 ci_20_0 ci_20_1 ci_20_2 ci_20_3 u20 rs_20 rx_20 rg_20 rh_20 he_20 hf_20 hi_20
    have HD := hide (heldEntryS_pc _ _ 1 X.length w21 rg_21 (by omega) (by omega) (by omega))
    rw [← unhide Hmg] at HD
    go_wp2_with fail
    refine (unhide HD).mono ?_
    rintro e w22 ⟨rfl, hb⟩
    have u22 := u21.trans (hb.mono u21.size)
    have rs_22 := ownsRow_below rs_21 hb
    have rx_22 := ownsRow_below rx_21 hb
    have rg_22 := ownsPc_below rg_21 hb
    have rh_22 := ownsPc_below rh_21 hb
    have he_22 := heapLater hb he_21
    have ce_22_0 := cellIn (i := 0) he_22 rfl
    have ce_22_1 := cellIn (i := 1) he_22 rfl
    have ce_22_2 := cellIn (i := 2) he_22 rfl
    have ce_22_3 := cellIn (i := 3) he_22 rfl
    have hf_22 := heapLater hb hf_21
    have cf_22_0 := cellIn (i := 0) hf_22 rfl
    have cf_22_1 := cellIn (i := 1) hf_22 rfl
    have cf_22_2 := cellIn (i := 2) hf_22 rfl
    have cf_22_3 := cellIn (i := 3) hf_22 rfl
    have hi_22 := heapLater hb hi_21
    have ci_22_0 := cellIn (i := 0) hi_22 rfl
    have ci_22_1 := cellIn (i := 1) hi_22 rfl
    have ci_22_2 := cellIn (i := 2) hi_22 rfl
    have ci_22_3 := cellIn (i := 3) hi_22 rfl
    clear hb ce_21_0 ce_21_1 ce_21_2 ce_21_3 cf_21_0 cf_21_1 cf_21_2 cf_21_3 ci_21_0 ci_21_1 ci_21_2 ci_21_3 u21 rs_21 rx_21 rg_21 rh_21 he_21 hf_21 hi_21
    clear HD
    have t := z0.trans (u22.mono z0.size)
    clear rs_22 rx_22 rg_22 rh_22 he_22 hf_22 hi_22 ce_22_0 ce_22_1 ce_22_2 ce_22_3 cf_22_0 cf_22_1 cf_22_2 cf_22_3 ci_22_0 ci_22_1 ci_22_2 ci_22_3 u22  TD0 HF0
    go_wp2
    go_ret
    exact ⟨rfl, t⟩

set_option maxRecDepth 100000 in
theorem lifted (os : Os) (started : os.Started) (H : Type) (enc : TypeId × Value → H) :
    ReturnsInHanded {} Try.checked os 7 .any (Rows.fnExactTakeEntrySpec.pre6 enc Try.prog Try.f7 Rows.fnExactTakeEntryRow.domain false) (Rows.fnExactTakeEntrySpec.post enc Try.prog Try.f7 false true false false) := by
  refine returnsInHanded_of_change (C := Try.checked) own started (by kernel_rfl) Try.func7
    (ChangeSpec.witness6 (enc := enc) (C := Try.checked) false ⟨#[], #[.slice none 0 0], []⟩ 8 (by kernel_rfl) (by kernel_rfl) (by kernel_rfl) (by kernel_rfl)) ?_
  intro W base args ds gs before hval0 hW hcnd _
  have hval : ∀ (j : Nat) t v, Try.f7.params[j]? = some t → args[j]? = some v → Value.okWide Try.prog W .any base t v := hval0
  have hW' := hW
  obtain ⟨p, q, hA0, hV, rfl, hfz, hnd⟩ := hW
  have hA : DataW.TrodAll enc Try.prog W 0 (fun _ => true) true Try.f7.params.toList args.toList ds p := hA0
  rw [Try.params7] at hA hval
  obtain ⟨v0, vs0, d0, ds0, p0, q0, hargs, rfl, rfl, h0, r0⟩ := trodAll_cons hA
  obtain ⟨rfl, rfl, rfl⟩ := trodAll_nil r0
  obtain rfl : args = #[v0] := by cases args; simp_all
  obtain ⟨rfl, rfl⟩ := trodVars_none hV
  have lt0 : ∀ x ∈ p0, x.block < W.heap.size := by obtain ⟨m, hm⟩ := h0; exact DataW.trod_lt m _ _ _ hm
  obtain ⟨a0, c0, f0, rfl, w0, y0⟩ := open_EntryS (hval 0 42 v0 rfl rfl) h0
  clear hA0 hval0
  refine (walk W a0 c0 f0 w0 y0).mono fun e W' ⟨he, bel⟩ => ?_
  subst he
  exact ⟨_, rfl, _, _, _, [], _, [], hW', trodAll_mk1 (shut_bool Try.underlying4 _), (trodAll_cons_mk (Below.trod laidOut (by kernel_rfl) (of_decide_eq_true (by kernel_rfl)) h0 bel lt0) trodAll_mk0), rfl, bel.frame _, fun h => by cases h⟩

theorem over : Rows.fnExactTakeEntryRow.holds Try.pinned (OpenSpec.ofChange Rows.fnExactTakeEntrySpec) :=
  OpenClaim.holds_of_wide 7 Try.f7 rfl rfl rfl rfl rfl rfl rfl ⟨rfl, rfl, rfl, rfl, rfl⟩ rfl rfl rfl rfl rfl (by kernel_rfl) Try.func7 (by kernel_rfl)
    (of_decide_eq_true (by kernel_rfl)) (by unfold Func.isWrapper; first | (rw [if_pos (by decide +kernel)]; kernel_rfl) | (rw [if_neg (by decide +kernel)]; exact ⟨rfl, rfl⟩))
    (fun os started H enc _ => lifted os started H enc)

end Go.Proofs.Ytccafdoehjdbeaa.fnExactTakeEntry
namespace Go.Proofs.Ytccafdoehjdbeaa
theorem fnExactTakeEntry_holds : Rows.FnExactTakeEntrySaid := fnExactTakeEntry.over
#print axioms fnExactTakeEntry_holds
end Go.Proofs.Ytccafdoehjdbeaa
