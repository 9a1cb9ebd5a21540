/- For every list of entries handed in, spec.HalfOf and impl.HalfOf of the given code answer the same two lists, which own their memory, and the list is left as it was: the statement FnExactHalfOf holds at every argument. -/
import Derived.Test.YtccafdoehjdbeaaRows
import Derived.WalkKit
import Derived.ProofKit
import Derived.OpenShut
import Derived.ShutString
import Derived.Test.YtccafdoehjdbeaaSpecMerged
import Derived.Test.YtccafdoehjdbeaaRowBase
import Derived.Test.YtccafdoehjdbeaaImplShelf
import Derived.Test.YtccafdoehjdbeaaEntryPc
import Derived.Test.YtccafdoehjdbeaaEntryOpen
namespace Go.Proofs.Ytccafdoehjdbeaa.fnExactHalfOf
open Go.ChangeShapes Go.WideShapes Go.ChangeAt Go.RowKit
open Go.ChangeMaps (open_string shut_string)
open scoped Classical
set_option linter.unusedVariables false

theorem own : ownKnob Try.prog.godebug = none := by kernel_rfl
theorem laidOut : laidOutB Try.prog = true := by kernel_rfl

set_option maxRecDepth 100000 in
set_option maxHeartbeats 1600000 in
theorem walk (w : World) (a0 : Option Addr) (c0 : Nat) (f0 : List QuadL) (w0 : f0.length ≤ 9223372036854775807) (k0 : QuadsIn w w.heap.size a0 f0) :
    Calls Try.prog 8 #[.slice a0 f0.length c0] w fun e w' => e = .returned (.bool true) ∧ Below w.heap.size w w' := by
  have C0 := fun W (left : Int) (h0 : 0 ≤ left) (h1 : left ≤ 1048576) => hide (szEntryS_any a0 c0 f0 left W h0 h1 w0)
  have HK0 := hide k0
  clear k0
  go_enter Try.func8, Try.ntmps8
  go_wp2_with fail
  have z0 : Below w.heap.size w w := Below.refl _ _
  have zW : w.heap.size + 0 ≤ w.heap.size := Nat.le_refl _
  have HF0 := hide (quadsIn_on (unhide HK0) z0)
  clear HK0
  refine (unhide (C0 _ 1048576 (by omega) (by omega))).mono ?_
  rintro e w1 ⟨r0_, rfl, hr0, hcase, hb⟩
  have u1 : Below w.heap.size w w1 := hb
  clear hb C0
  rcases hcase with hr1 | ⟨hr00, hn0⟩
  · subst hr1
    clear HF0 
    go_wp2
    go_ret
    exact ⟨rfl, z0.trans (u1.mono z0.size)⟩
  · skip
    have TD0 := fun W (h : Below w.heap.size w W) => hide (toEntryS_any a0 c0 f0 W hn0 (quadsIn_on (unhide HF0) h))
    have SP := fun (W : World) (va : Value) (B : Nat) (h : W.ownsRow B 29 4 va f0.length (quadsC f0)) => hide (specHalf_any va B f0 W h (by omega))
    have IM := fun (W : World) (va : Value) (B : Nat) (h : W.ownsRow B 29 4 va f0.length (quadsC f0)) => hide (implHalf_two va B f0 W h (by omega))
    have XL : (f0.take (halfK f0)).length ≤ 1048576 := by simp; omega
    have YL : (f0.drop (halfK f0)).length ≤ 1048576 := by simp; omega
    generalize f0.take (halfK f0) = X at XL SP IM
    generalize f0.drop (halfK f0) = Y at YL SP IM
    go_wp2_with fail
    refine (unhide (TD0 _ u1)).mono ?_
    rintro e w2 ⟨ga, rfl, oa, hb⟩
    have bsa : w.heap.size ≤ w1.heap.size := u1.size
    have u2 := u1.trans (hb.mono u1.size)
    clear hb u1
    go_wp2_with fail
    refine (unhide (SP _ _ _ oa)).mono ?_
    rintro e w3 ⟨gs, ms_, gt, mt_, rfl, os, ot, hne, hb⟩
    clear oa
    have bss : w.heap.size ≤ w2.heap.size := u2.size
    have bst : w.heap.size ≤ w2.heap.size := u2.size
    have u3 := u2.trans (hb.mono u2.size)
    clear hb u2
    clear hne
    clear SP
    go_wp2_with fail
    refine (unhide (TD0 _ u3)).mono ?_
    rintro e w4 ⟨gx, rfl, ox, hb⟩
    have bsx : w.heap.size ≤ w3.heap.size := u3.size
    have apsx := rowsApart os ox
    have aptx := rowsApart ot ox
    have u4 := u3.trans (hb.mono u3.size)
    have rs_4 := ownsRow_below os hb
    have rt_4 := ownsRow_below ot hb
    clear hb u3 os ot
    go_wp2_with fail
    refine (unhide (IM _ _ _ ox)).mono ?_
    rintro e w5 ⟨vg, vk, rfl, og, ok, apgk, hb⟩
    try simp only at og
    obtain ⟨qg, mg_, rfl, -⟩ := ownsRow_shape og
    try simp only at ok
    obtain ⟨qk, mk_, rfl, -⟩ := ownsPc_shape ok
    have bsg : w.heap.size ≤ w4.heap.size := u4.size
    have apsg := rowsApart rs_4 og
    have aptg := rowsApart rt_4 og
    have apxg := rowsApart ox og
    have bsk : w.heap.size ≤ w4.heap.size := u4.size
    have apsk := pcsApart (pcOf rs_4) ok
    have aptk := pcsApart (pcOf rt_4) ok
    have apxk := pcsApart (pcOf ox) ok
    have u5 := u4.trans (hb.mono u4.size)
    have rs_5 := ownsRow_below rs_4 hb
    have rt_5 := ownsRow_below rt_4 hb
    have rx_5 := ownsRow_below ox hb
    clear hb u4 rs_4 rt_4 ox
    go_wp2_with fail
    refine (eqEntryS_any _ _ _ _ X _ og rs_5 (by omega)).mono ?_
    rintro e w6 ⟨rfl, hb⟩
    have u6 := u5.trans (hb.mono u5.size)
    have rs_6 := ownsRow_below rs_5 hb
    have rt_6 := ownsRow_below rt_5 hb
    have rx_6 := ownsRow_below rx_5 hb
    have rg_6 := ownsRow_below og hb
    have rk_6 := ownsPc_below ok hb
    clear hb u5 rs_5 rt_5 rx_5 og ok
    go_wp2_with fail
    refine (eqEntryS_pc _ _ _ _ Y _ rk_6 (pcOf rt_6) (by omega)).mono ?_
    rintro e w7 ⟨rfl, hb⟩
    have u7 := u6.trans (hb.mono u6.size)
    have rs_7 := ownsRow_below rs_6 hb
    have rt_7 := ownsRow_below rt_6 hb
    have rx_7 := ownsRow_below rx_6 hb
    have rg_7 := ownsRow_below rg_6 hb
    have rk_7 := ownsPc_below rk_6 hb
    clear hb u6 rs_6 rt_6 rx_6 rg_6 rk_6
    go_wp2_with fail
    refine (unhide (TD0 _ u7)).mono ?_
    rintro e w8 ⟨gc, rfl, oc, hb⟩
    have bsc : w.heap.size ≤ w7.heap.size := u7.size
    have apsc := rowsApart rs_7 oc
    have aptc := rowsApart rt_7 oc
    have apxc := rowsApart rx_7 oc
    have apgc := rowsApart rg_7 oc
    have apkc := pcsApart rk_7 (pcOf oc)
    have u8 := u7.trans (hb.mono u7.size)
    have rs_8 := ownsRow_below rs_7 hb
    have rt_8 := ownsRow_below rt_7 hb
    have rx_8 := ownsRow_below rx_7 hb
    have rg_8 := ownsRow_below rg_7 hb
    have rk_8 := ownsPc_below rk_7 hb
    clear hb u7 rs_7 rt_7 rx_7 rg_7 rk_7
    go_wp2_with fail
    refine (eqEntryS_any _ _ _ _ f0 _ rx_8 oc (by omega)).mono ?_
    rintro e w9 ⟨rfl, hb⟩
    have u9 := u8.trans (hb.mono u8.size)
    have rs_9 := ownsRow_below rs_8 hb
    have rt_9 := ownsRow_below rt_8 hb
    have rx_9 := ownsRow_below rx_8 hb
    have rg_9 := ownsRow_below rg_8 hb
    have rk_9 := ownsPc_below rk_8 hb
    have rc_9 := ownsRow_below oc hb
    clear hb u8 rs_8 rt_8 rx_8 rg_8 rk_8 oc
    clear rc_9
    obtain ⟨mx, hm⟩ : ∃ m : Nat, m = 1 + f0.length * 4 := ⟨_, rfl⟩
    have MK := hide (markEntryS_any _ _ 1 f0 w9 rx_9 (by omega) (by omega) (by omega))
    rw [← hm] at MK
    have Hmx := hide hm
    have mx9 : mx ≤ 4194801 := by omega
    have mx8 : 1 ≤ mx := by omega
    clear hm
    have mx0 : decide ((mx : Int) < 0) = false := decide_eq_false (by omega)
    have mx1 : ((mx : Int) != (mx : Int)) = false := by simp
    go_wp2_with fail
    refine (unhide MK).mono ?_
    rintro e w10 ⟨rfl, nx, hg⟩
    clear MK
    have u10 := u9.grown hg u9.size (fun j hj => Nat.le_trans bsx (rx_9.lt j hj).1)
    have rs_10 := rs_9.kept hg (apsx)
    have rt_10 := rt_9.kept hg (aptx)
    have rg_10 := rg_9.kept hg ((apComm apxg))
    have rk_10 := rk_9.kept hg ((apComm apxk))
    clear u9 rs_9 rt_9 rg_9 rk_9
    clear hg rx_9
    have nxx := nx
    clear nx
    go_wp2_with fail
    refine (eqEntryS_any _ _ _ _ X _ rg_10 rs_10 (by omega)).mono ?_
    rintro e w11 ⟨rfl, hb⟩
    have u11 := u10.trans (hb.mono u10.size)
    have rs_11 := ownsRow_below rs_10 hb
    have rt_11 := ownsRow_below rt_10 hb
    have rg_11 := ownsRow_below rg_10 hb
    have rk_11 := ownsPc_below rk_10 hb
    have rx_11 := ownsRow_below nxx hb
    clear hb u10 rs_10 rt_10 rg_10 rk_10 nxx
    go_wp2_with fail
    refine (eqEntryS_pc _ _ _ _ Y _ rk_11 (pcOf rt_11) (by omega)).mono ?_
    rintro e w12 ⟨rfl, hb⟩
    have u12 := u11.trans (hb.mono u11.size)
    have rs_12 := ownsRow_below rs_11 hb
    have rt_12 := ownsRow_below rt_11 hb
    have rg_12 := ownsRow_below rg_11 hb
    have rk_12 := ownsPc_below rk_11 hb
    have rx_12 := ownsRow_below rx_11 hb
    clear hb u11 rs_11 rt_11 rg_11 rk_11 rx_11
    obtain ⟨mg, hm⟩ : ∃ m : Nat, m = 1 + X.length * 4 := ⟨_, rfl⟩
    have MK := hide (markEntryS_any _ _ 1 X w12 rg_12 (by omega) (by omega) (by omega))
    rw [← hm] at MK
    have Hmg := hide hm
    have mg9 : mg ≤ 4194801 := by omega
    have mg8 : 1 ≤ mg := by omega
    clear hm
    have mg0 : decide ((mg : Int) < 0) = false := decide_eq_false (by omega)
    have mg1 : ((mg : Int) != (mg : Int)) = false := by simp
    go_wp2_with fail
    refine (unhide MK).mono ?_
    rintro e w13 ⟨rfl, nx, hg⟩
    clear MK
    have u13 := u12.grown hg u12.size (fun j hj => Nat.le_trans bsg (rg_12.lt j hj).1)
    have rs_13 := rs_12.kept hg (apsg)
    have rt_13 := rt_12.kept hg (aptg)
    have rk_13 := rk_12.kept hg ((apComm apgk))
    have rx_13 := rx_12.kept hg (apxg)
    clear u12 rs_12 rt_12 rk_12 rx_12
    clear hg rg_12
    have nxg := nx
    clear nx
    obtain ⟨mh, hm⟩ : ∃ m : Nat, m = mg + Y.length * 4 := ⟨_, rfl⟩
    have MK := hide (markEntryS_pc _ _ mg Y w13 rk_13 (by omega) (by omega) (by omega))
    rw [← hm] at MK
    have Hmh := hide hm
    have mh9 : mh ≤ 8389601 := by omega
    have mh8 : 1 ≤ mh := by omega
    clear hm
    have mh0 : decide ((mh : Int) < 0) = false := decide_eq_false (by omega)
    have mh1 : ((mh : Int) != (mh : Int)) = false := by simp
    go_wp2_with fail
    refine (unhide MK).mono ?_
    rintro e w14 ⟨rfl, nx, hg⟩
    clear MK
    have u14 := u13.grown hg u13.size (fun j hj => Nat.le_trans bsk (rk_13.lt j hj).1)
    have rs_14 := rs_13.kept hg (apsk)
    have rt_14 := rt_13.kept hg (aptk)
    have rx_14 := rx_13.kept hg (apxk)
    have rg_14 := nxg.kept hg (apgk)
    clear u13 rs_13 rt_13 rx_13 nxg
    clear hg rk_13
    have nxk := nx
    clear nx
    have HD := hide (heldEntryS_any _ _ 1 X.length w14 rg_14 (by omega) (by omega) (by omega))
    rw [← unhide Hmg] at HD
    go_wp2_with fail
    refine (unhide HD).mono ?_
    rintro e w15 ⟨rfl, hb⟩
    have u15 := u14.trans (hb.mono u14.size)
    have rs_15 := ownsRow_below rs_14 hb
    have rt_15 := ownsRow_below rt_14 hb
    have rx_15 := ownsRow_below rx_14 hb
    have rg_15 := ownsRow_below rg_14 hb
    have rk_15 := ownsPc_below nxk hb
    clear hb u14 rs_14 rt_14 rx_14 rg_14 nxk
    clear HD
    have HD := hide (heldEntryS_pc _ _ mg Y.length w15 rk_15 (by omega) (by omega) (by omega))
    rw [← unhide Hmh] at HD
    go_wp2_with fail
    refine (unhide HD).mono ?_
    rintro e w16 ⟨rfl, hb⟩
    have u16 := u15.trans (hb.mono u15.size)
    have rs_16 := ownsRow_below rs_15 hb
    have rt_16 := ownsRow_below rt_15 hb
    have rx_16 := ownsRow_below rx_15 hb
    have rg_16 := ownsRow_below rg_15 hb
    have rk_16 := ownsPc_below rk_15 hb
    clear hb u15 rs_15 rt_15 rx_15 rg_15 rk_15
    clear HD
    go_wp2_with fail
    refine (unhide (TD0 _ u16)).mono ?_
    rintro e w17 ⟨gy, rfl, oy, hb⟩
    have bsy : w.heap.size ≤ w16.heap.size := u16.size
    have apsy := rowsApart rs_16 oy
    have apty := rowsApart rt_16 oy
    have apxy := rowsApart rx_16 oy
    have apgy := rowsApart rg_16 oy
    have apky := pcsApart rk_16 (pcOf oy)
    have u17 := u16.trans (hb.mono u16.size)
    have rs_17 := ownsRow_below rs_16 hb
    have rt_17 := ownsRow_below rt_16 hb
    have rx_17 := ownsRow_below rx_16 hb
    have rg_17 := ownsRow_below rg_16 hb
    have rk_17 := ownsPc_below rk_16 hb
    clear hb u16 rs_16 rt_16 rx_16 rg_16 rk_16
    go_wp2_with fail
    refine (unhide (IM _ _ _ oy)).mono ?_
    rintro e w18 ⟨vh, vl, rfl, oh, ol, aphl, hb⟩
    try simp only at oh
    obtain ⟨qh, mh_, rfl, -⟩ := ownsRow_shape oh
    try simp only at ol
    obtain ⟨ql, ml_, rfl, -⟩ := ownsPc_shape ol
    clear oy
    have bsh : w.heap.size ≤ w17.heap.size := u17.size
    have apsh := rowsApart rs_17 oh
    have apth := rowsApart rt_17 oh
    have apxh := rowsApart rx_17 oh
    have apgh := rowsApart rg_17 oh
    have apkh := pcsApart rk_17 (pcOf oh)
    have bsl : w.heap.size ≤ w17.heap.size := u17.size
    have apsl := pcsApart (pcOf rs_17) ol
    have aptl := pcsApart (pcOf rt_17) ol
    have apxl := pcsApart (pcOf rx_17) ol
    have apgl := pcsApart (pcOf rg_17) ol
    have apkl := pcsApart rk_17 ol
    have u18 := u17.trans (hb.mono u17.size)
    have rs_18 := ownsRow_below rs_17 hb
    have rt_18 := ownsRow_below rt_17 hb
    have rx_18 := ownsRow_below rx_17 hb
    have rg_18 := ownsRow_below rg_17 hb
    have rk_18 := ownsPc_below rk_17 hb
    clear hb u17 rs_17 rt_17 rx_17 rg_17 rk_17
    go_wp2_with fail
    refine (eqEntryS_any _ _ _ _ X _ oh rs_18 (by omega)).mono ?_
    rintro e w19 ⟨rfl, hb⟩
    have u19 := u18.trans (hb.mono u18.size)
    have rs_19 := ownsRow_below rs_18 hb
    have rt_19 := ownsRow_below rt_18 hb
    have rx_19 := ownsRow_below rx_18 hb
    have rg_19 := ownsRow_below rg_18 hb
    have rk_19 := ownsPc_below rk_18 hb
    have rh_19 := ownsRow_below oh hb
    have rl_19 := ownsPc_below ol hb
    clear hb u18 rs_18 rt_18 rx_18 rg_18 rk_18 oh ol
    go_wp2_with fail
    refine (eqEntryS_pc _ _ _ _ Y _ rl_19 (pcOf rt_19) (by omega)).mono ?_
    rintro e w20 ⟨rfl, hb⟩
    have u20 := u19.trans (hb.mono u19.size)
    have rs_20 := ownsRow_below rs_19 hb
    have rt_20 := ownsRow_below rt_19 hb
    have rx_20 := ownsRow_below rx_19 hb
    have rg_20 := ownsRow_below rg_19 hb
    have rk_20 := ownsPc_below rk_19 hb
    have rh_20 := ownsRow_below rh_19 hb
    have rl_20 := ownsPc_below rl_19 hb
    clear hb u19 rs_19 rt_19 rx_19 rg_19 rk_19 rh_19 rl_19
    have HD := hide (heldEntryS_any _ _ 1 X.length w20 rg_20 (by omega) (by omega) (by omega))
    rw [← unhide Hmg] at HD
    go_wp2_with fail
    refine (unhide HD).mono ?_
    rintro e w21 ⟨rfl, hb⟩
    have u21 := u20.trans (hb.mono u20.size)
    have rs_21 := ownsRow_below rs_20 hb
    have rt_21 := ownsRow_below rt_20 hb
    have rx_21 := ownsRow_below rx_20 hb
    have rg_21 := ownsRow_below rg_20 hb
    have rk_21 := ownsPc_below rk_20 hb
    have rh_21 := ownsRow_below rh_20 hb
    have rl_21 := ownsPc_below rl_20 hb
    clear hb u20 rs_20 rt_20 rx_20 rg_20 rk_20 rh_20 rl_20
    clear HD
    have HD := hide (heldEntryS_pc _ _ mg Y.length w21 rk_21 (by omega) (by omega) (by omega))
    rw [← unhide Hmh] at HD
    go_wp2_with fail
    refine (unhide HD).mono ?_
    rintro e w22 ⟨rfl, hb⟩
    have u22 := u21.trans (hb.mono u21.size)
    have rs_22 := ownsRow_below rs_21 hb
    have rt_22 := ownsRow_below rt_21 hb
    have rx_22 := ownsRow_below rx_21 hb
    have rg_22 := ownsRow_below rg_21 hb
    have rk_22 := ownsPc_below rk_21 hb
    have rh_22 := ownsRow_below rh_21 hb
    have rl_22 := ownsPc_below rl_21 hb
    clear hb u21 rs_21 rt_21 rx_21 rg_21 rk_21 rh_21 rl_21
    clear HD
    have t := z0.trans (u22.mono z0.size)
    clear rs_22 rt_22 rx_22 rg_22 rk_22 rh_22 rl_22 u22  TD0 HF0
    go_wp2
    go_ret
    exact ⟨rfl, t⟩

set_option maxRecDepth 100000 in
theorem lifted (os : Os) (started : os.Started) (H : Type) (enc : TypeId × Value → H) :
    ReturnsInHanded {} Try.checked os 8 .any (Rows.fnExactHalfOfSpec.pre6 enc Try.prog Try.f8 Rows.fnExactHalfOfRow.domain false) (Rows.fnExactHalfOfSpec.post enc Try.prog Try.f8 false true false false) := by
  refine returnsInHanded_of_change (C := Try.checked) own started (by kernel_rfl) Try.func8
    (ChangeSpec.witness6 (enc := enc) (C := Try.checked) false ⟨#[], #[.slice none 0 0], []⟩ 8 (by kernel_rfl) (by kernel_rfl) (by kernel_rfl) (by kernel_rfl)) ?_
  intro W base args ds gs before hval0 hW hcnd _
  have hval : ∀ (j : Nat) t v, Try.f8.params[j]? = some t → args[j]? = some v → Value.okWide Try.prog W .any base t v := hval0
  have hW' := hW
  obtain ⟨p, q, hA0, hV, rfl, hfz, hnd⟩ := hW
  have hA : DataW.TrodAll enc Try.prog W 0 (fun _ => true) true Try.f8.params.toList args.toList ds p := hA0
  rw [Try.params8] at hA hval
  obtain ⟨v0, vs0, d0, ds0, p0, q0, hargs, rfl, rfl, h0, r0⟩ := trodAll_cons hA
  obtain ⟨rfl, rfl, rfl⟩ := trodAll_nil r0
  obtain rfl : args = #[v0] := by cases args; simp_all
  obtain ⟨rfl, rfl⟩ := trodVars_none hV
  have lt0 : ∀ x ∈ p0, x.block < W.heap.size := by obtain ⟨m, hm⟩ := h0; exact DataW.trod_lt m _ _ _ hm
  obtain ⟨a0, c0, f0, rfl, w0, y0⟩ := open_EntryS (hval 0 42 v0 rfl rfl) h0
  clear hA0 hval0
  refine (walk W a0 c0 f0 w0 y0).mono fun e W' ⟨he, bel⟩ => ?_
  subst he
  exact ⟨_, rfl, _, _, _, [], _, [], hW', trodAll_mk1 (shut_bool Try.underlying4 _), (trodAll_cons_mk (Below.trod laidOut (by kernel_rfl) (of_decide_eq_true (by kernel_rfl)) h0 bel lt0) trodAll_mk0), rfl, bel.frame _, fun h => by cases h⟩

theorem over : Rows.fnExactHalfOfRow.holds Try.pinned (OpenSpec.ofChange Rows.fnExactHalfOfSpec) :=
  OpenClaim.holds_of_wide 8 Try.f8 rfl rfl rfl rfl rfl rfl rfl ⟨rfl, rfl, rfl, rfl, rfl⟩ rfl rfl rfl rfl rfl (by kernel_rfl) Try.func8 (by kernel_rfl)
    (of_decide_eq_true (by kernel_rfl)) (by unfold Func.isWrapper; first | (rw [if_pos (by decide +kernel)]; kernel_rfl) | (rw [if_neg (by decide +kernel)]; exact ⟨rfl, rfl⟩))
    (fun os started H enc _ => lifted os started H enc)

end Go.Proofs.Ytccafdoehjdbeaa.fnExactHalfOf
namespace Go.Proofs.Ytccafdoehjdbeaa
theorem fnExactHalfOf_holds : Rows.FnExactHalfOfSaid := fnExactHalfOf.over
#print axioms fnExactHalfOf_holds
end Go.Proofs.Ytccafdoehjdbeaa
