/- For every two lists of entries handed in, spec.Merged and impl.Merged of the given code answer the same list, which owns its memory, and neither is written: the statement FnExactMerged holds at every argument. -/
import Derived.Test.YtccafdoehjdbeaaRows
import Derived.WalkKit
import Derived.ProofKit
import Derived.OpenShut
import Derived.ShutString
import Derived.Test.YtccafdoehjdbeaaSpecMerged
import Derived.Test.YtccafdoehjdbeaaRowBase
import Derived.Test.YtccafdoehjdbeaaImplShelf
import Derived.Test.YtccafdoehjdbeaaEntryOpen
namespace Go.Proofs.Ytccafdoehjdbeaa.fnExactMerged
open Go.ChangeShapes Go.WideShapes Go.ChangeAt Go.RowKit
open Go.ChangeMaps (open_string shut_string)
open scoped Classical
set_option linter.unusedVariables false

theorem own : ownKnob Try.prog.godebug = none := by kernel_rfl
theorem laidOut : laidOutB Try.prog = true := by kernel_rfl

set_option maxRecDepth 100000 in
set_option maxHeartbeats 1600000 in
theorem walk (w : World) (a0 : Option Addr) (c0 : Nat) (f0 : List QuadL) (a1 : Option Addr) (c1 : Nat) (f1 : List QuadL) (w0 : f0.length ≤ 9223372036854775807) (k0 : QuadsIn w w.heap.size a0 f0) (w1 : f1.length ≤ 9223372036854775807) (k1 : QuadsIn w w.heap.size a1 f1) :
    Calls Try.prog 9 #[.slice a0 f0.length c0, .slice a1 f1.length c1] w fun e w' => e = .returned (.bool true) ∧ Below w.heap.size w w' := by
  have C0 := fun W (left : Int) (h0 : 0 ≤ left) (h1 : left ≤ 1048576) => hide (szEntryS_any a0 c0 f0 left W h0 h1 w0)
  have HK0 := hide k0
  clear k0
  have C1 := fun W (left : Int) (h0 : 0 ≤ left) (h1 : left ≤ 1048576) => hide (szEntryS_any a1 c1 f1 left W h0 h1 w1)
  have HK1 := hide k1
  clear k1
  go_enter Try.func9, Try.ntmps9
  go_wp2_with fail
  have z0 : Below w.heap.size w w := Below.refl _ _
  have zW : w.heap.size + 0 ≤ w.heap.size := Nat.le_refl _
  have HF0 := hide (quadsIn_on (unhide HK0) z0)
  clear HK0
  have HF1 := hide (quadsIn_on (unhide HK1) z0)
  clear HK1
  refine (unhide (C0 _ 1048576 (by omega) (by omega))).mono ?_
  rintro e w1 ⟨r0_, rfl, hr0, hcase, hb⟩
  have u1 : Below w.heap.size w w1 := hb
  clear hb C0
  rcases hcase with hr1 | ⟨hr00, hn0⟩
  · subst hr1
    clear HF0 HF1 C1
    go_wp2
    go_ret
    exact ⟨rfl, z0.trans (u1.mono z0.size)⟩
  · skip
    go_wp2_with fail
    refine (unhide (C1 _ r0_ (by omega) (by omega))).mono ?_
    rintro e w2 ⟨r1_, rfl, hr1, hcase, hb⟩
    have u2 : Below w.heap.size w w2 := u1.trans (hb.mono u1.size)
    clear hb C1
    rcases hcase with hr1 | ⟨hr01, hn1⟩
    · subst hr1
      clear HF0 HF1 
      go_wp2
      go_ret
      exact ⟨rfl, z0.trans (u2.mono z0.size)⟩
    · skip
      clear  u1
      have TD0 := fun W (h : Below w.heap.size w W) => hide (toEntryS_any a0 c0 f0 W hn0 (quadsIn_on (unhide HF0) h))
      have TD1 := fun W (h : Below w.heap.size w W) => hide (toEntryS_any a1 c1 f1 W hn1 (quadsIn_on (unhide HF1) h))
      have SP := fun (W : World) (va vb : Value) (A B : Nat) (h : W.ownsRow A 29 4 va f0.length (quadsC f0)) (k : W.ownsRow B 29 4 vb f1.length (quadsC f1)) => hide (specMerged_any va vb A B f0 f1 W h k (by omega) (by omega))
      have IM := fun (W : World) (va vb : Value) (A B : Nat) (h : W.ownsRow A 29 4 va f0.length (quadsC f0)) (k : W.ownsRow B 29 4 vb f1.length (quadsC f1)) => hide (implMerged_any va vb A B f0 f1 W h k (by omega) (by omega))
      have XL : (mergedQ f0 f1).length ≤ 1048656 := by have := mergedQ_len2 f0 f1; omega
      generalize mergedQ f0 f1 = X at XL SP IM
      go_wp2_with fail
      refine (unhide (TD0 _ u2)).mono ?_
      rintro e w3 ⟨ga, rfl, oa, hb⟩
      have bsa : w.heap.size ≤ w2.heap.size := u2.size
      have u3 := u2.trans (hb.mono u2.size)
      clear hb u2
      go_wp2_with fail
      refine (unhide (TD1 _ u3)).mono ?_
      rintro e w4 ⟨gb, rfl, ob, hb⟩
      have bsb : w.heap.size ≤ w3.heap.size := u3.size
      have apab := rowsApart oa ob
      have u4 := u3.trans (hb.mono u3.size)
      have ra_4 := ownsRow_below oa hb
      clear hb u3 oa
      go_wp2_with fail
      refine (unhide (SP _ _ _ _ _ ra_4 ob)).mono ?_
      rintro e w5 ⟨gs, ms_, rfl, os, hb⟩
      clear ra_4
      clear ob
      have bss : w.heap.size ≤ w4.heap.size := u4.size
      have u5 := u4.trans (hb.mono u4.size)
      clear hb u4
      clear SP
      go_wp2_with fail
      refine (unhide (TD0 _ u5)).mono ?_
      rintro e w6 ⟨gx, rfl, ox, hb⟩
      have bsx : w.heap.size ≤ w5.heap.size := u5.size
      have apsx := rowsApart os ox
      have u6 := u5.trans (hb.mono u5.size)
      have rs_6 := ownsRow_below os hb
      clear hb u5 os
      go_wp2_with fail
      refine (unhide (TD1 _ u6)).mono ?_
      rintro e w7 ⟨gy, rfl, oy, hb⟩
      have bsy : w.heap.size ≤ w6.heap.size := u6.size
      have apsy := rowsApart rs_6 oy
      have apxy := rowsApart ox oy
      have u7 := u6.trans (hb.mono u6.size)
      have rs_7 := ownsRow_below rs_6 hb
      have rx_7 := ownsRow_below ox hb
      clear hb u6 rs_6 ox
      go_wp2_with fail
      refine (unhide (IM _ _ _ _ _ rx_7 oy)).mono ?_
      rintro e w8 ⟨vg, rfl, og, hb⟩
      try simp only at og
      obtain ⟨qg, mg_, rfl, -⟩ := ownsRow_shape og
      have bsg : w.heap.size ≤ w7.heap.size := u7.size
      have apsg := rowsApart rs_7 og
      have apxg := rowsApart rx_7 og
      have apyg := rowsApart oy og
      have u8 := u7.trans (hb.mono u7.size)
      have rs_8 := ownsRow_below rs_7 hb
      have rx_8 := ownsRow_below rx_7 hb
      have ry_8 := ownsRow_below oy hb
      clear hb u7 rs_7 rx_7 oy
      go_wp2_with fail
      refine (eqEntryS_any _ _ _ _ X _ og rs_8 (by omega)).mono ?_
      rintro e w9 ⟨rfl, hb⟩
      have u9 := u8.trans (hb.mono u8.size)
      have rs_9 := ownsRow_below rs_8 hb
      have rx_9 := ownsRow_below rx_8 hb
      have ry_9 := ownsRow_below ry_8 hb
      have rg_9 := ownsRow_below og hb
      clear hb u8 rs_8 rx_8 ry_8 og
      go_wp2_with fail
      refine (unhide (TD0 _ u9)).mono ?_
      rintro e w10 ⟨gc, rfl, oc, hb⟩
      have bsc : w.heap.size ≤ w9.heap.size := u9.size
      have apsc := rowsApart rs_9 oc
      have apxc := rowsApart rx_9 oc
      have apyc := rowsApart ry_9 oc
      have apgc := rowsApart rg_9 oc
      have u10 := u9.trans (hb.mono u9.size)
      have rs_10 := ownsRow_below rs_9 hb
      have rx_10 := ownsRow_below rx_9 hb
      have ry_10 := ownsRow_below ry_9 hb
      have rg_10 := ownsRow_below rg_9 hb
      clear hb u9 rs_9 rx_9 ry_9 rg_9
      go_wp2_with fail
      refine (eqEntryS_any _ _ _ _ f0 _ rx_10 oc (by omega)).mono ?_
      rintro e w11 ⟨rfl, hb⟩
      have u11 := u10.trans (hb.mono u10.size)
      have rs_11 := ownsRow_below rs_10 hb
      have rx_11 := ownsRow_below rx_10 hb
      have ry_11 := ownsRow_below ry_10 hb
      have rg_11 := ownsRow_below rg_10 hb
      have rc_11 := ownsRow_below oc hb
      clear hb u10 rs_10 rx_10 ry_10 rg_10 oc
      clear rc_11
      go_wp2_with fail
      refine (unhide (TD1 _ u11)).mono ?_
      rintro e w12 ⟨gd, rfl, od, hb⟩
      have bsd : w.heap.size ≤ w11.heap.size := u11.size
      have apsd := rowsApart rs_11 od
      have apxd := rowsApart rx_11 od
      have apyd := rowsApart ry_11 od
      have apgd := rowsApart rg_11 od
      have u12 := u11.trans (hb.mono u11.size)
      have rs_12 := ownsRow_below rs_11 hb
      have rx_12 := ownsRow_below rx_11 hb
      have ry_12 := ownsRow_below ry_11 hb
      have rg_12 := ownsRow_below rg_11 hb
      clear hb u11 rs_11 rx_11 ry_11 rg_11
      go_wp2_with fail
      refine (eqEntryS_any _ _ _ _ f1 _ ry_12 od (by omega)).mono ?_
      rintro e w13 ⟨rfl, hb⟩
      have u13 := u12.trans (hb.mono u12.size)
      have rs_13 := ownsRow_below rs_12 hb
      have rx_13 := ownsRow_below rx_12 hb
      have ry_13 := ownsRow_below ry_12 hb
      have rg_13 := ownsRow_below rg_12 hb
      have rd_13 := ownsRow_below od hb
      clear hb u12 rs_12 rx_12 ry_12 rg_12 od
      clear rd_13
      obtain ⟨mx, hm⟩ : ∃ m : Nat, m = 1 + f0.length * 4 := ⟨_, rfl⟩
      have MK := hide (markEntryS_any _ _ 1 f0 w13 rx_13 (by omega) (by omega) (by omega))
      rw [← hm] at MK
      have Hmx := hide hm
      have mx9 : mx ≤ 4194801 := by omega
      have mx8 : 1 ≤ mx := by omega
      clear hm
      have mx0 : decide ((mx : Int) < 0) = false := decide_eq_false (by omega)
      have mx1 : ((mx : Int) != (mx : Int)) = false := by simp
      go_wp2_with fail
      refine (unhide MK).mono ?_
      rintro e w14 ⟨rfl, nx, hg⟩
      clear MK
      have u14 := u13.grown hg u13.size (fun j hj => Nat.le_trans bsx (rx_13.lt j hj).1)
      have rs_14 := rs_13.kept hg (apsx)
      have ry_14 := ry_13.kept hg ((apComm apxy))
      have rg_14 := rg_13.kept hg ((apComm apxg))
      clear u13 rs_13 ry_13 rg_13
      clear hg rx_13
      have nxx := nx
      clear nx
      obtain ⟨my, hm⟩ : ∃ m : Nat, m = mx + f1.length * 4 := ⟨_, rfl⟩
      have MK := hide (markEntryS_any _ _ mx f1 w14 ry_14 (by omega) (by omega) (by omega))
      rw [← hm] at MK
      have Hmy := hide hm
      have my9 : my ≤ 8389601 := by omega
      have my8 : 1 ≤ my := by omega
      clear hm
      have my0 : decide ((my : Int) < 0) = false := decide_eq_false (by omega)
      have my1 : ((my : Int) != (my : Int)) = false := by simp
      go_wp2_with fail
      refine (unhide MK).mono ?_
      rintro e w15 ⟨rfl, nx, hg⟩
      clear MK
      have u15 := u14.grown hg u14.size (fun j hj => Nat.le_trans bsy (ry_14.lt j hj).1)
      have rs_15 := rs_14.kept hg (apsy)
      have rg_15 := rg_14.kept hg ((apComm apyg))
      have rx_15 := nxx.kept hg (apxy)
      clear u14 rs_14 rg_14 nxx
      clear hg ry_14
      have nxy := nx
      clear nx
      go_wp2_with fail
      refine (eqEntryS_any _ _ _ _ X _ rg_15 rs_15 (by omega)).mono ?_
      rintro e w16 ⟨rfl, hb⟩
      have u16 := u15.trans (hb.mono u15.size)
      have rs_16 := ownsRow_below rs_15 hb
      have rg_16 := ownsRow_below rg_15 hb
      have rx_16 := ownsRow_below rx_15 hb
      have ry_16 := ownsRow_below nxy hb
      clear hb u15 rs_15 rg_15 rx_15 nxy
      obtain ⟨mg, hm⟩ : ∃ m : Nat, m = 1 + X.length * 4 := ⟨_, rfl⟩
      have MK := hide (markEntryS_any _ _ 1 X w16 rg_16 (by omega) (by omega) (by omega))
      rw [← hm] at MK
      have Hmg := hide hm
      have mg9 : mg ≤ 4194801 := by omega
      have mg8 : 1 ≤ mg := by omega
      clear hm
      have mg0 : decide ((mg : Int) < 0) = false := decide_eq_false (by omega)
      have mg1 : ((mg : Int) != (mg : Int)) = false := by simp
      go_wp2_with fail
      refine (unhide MK).mono ?_
      rintro e w17 ⟨rfl, nx, hg⟩
      clear MK
      have u17 := u16.grown hg u16.size (fun j hj => Nat.le_trans bsg (rg_16.lt j hj).1)
      have rs_17 := rs_16.kept hg (apsg)
      have rx_17 := rx_16.kept hg (apxg)
      have ry_17 := ry_16.kept hg (apyg)
      clear u16 rs_16 rx_16 ry_16
      clear hg rg_16
      have nxg := nx
      clear nx
      have HD := hide (heldEntryS_any _ _ 1 X.length w17 nxg (by omega) (by omega) (by omega))
      rw [← unhide Hmg] at HD
      go_wp2_with fail
      refine (unhide HD).mono ?_
      rintro e w18 ⟨rfl, hb⟩
      have u18 := u17.trans (hb.mono u17.size)
      have rs_18 := ownsRow_below rs_17 hb
      have rx_18 := ownsRow_below rx_17 hb
      have ry_18 := ownsRow_below ry_17 hb
      have rg_18 := ownsRow_below nxg hb
      clear hb u17 rs_17 rx_17 ry_17 nxg
      clear HD
      go_wp2_with fail
      refine (unhide (TD0 _ u18)).mono ?_
      rintro e w19 ⟨ge, rfl, oe, hb⟩
      have bse : w.heap.size ≤ w18.heap.size := u18.size
      have apse := rowsApart rs_18 oe
      have apxe := rowsApart rx_18 oe
      have apye := rowsApart ry_18 oe
      have apge := rowsApart rg_18 oe
      have u19 := u18.trans (hb.mono u18.size)
      have rs_19 := ownsRow_below rs_18 hb
      have rx_19 := ownsRow_below rx_18 hb
      have ry_19 := ownsRow_below ry_18 hb
      have rg_19 := ownsRow_below rg_18 hb
      clear hb u18 rs_18 rx_18 ry_18 rg_18
      go_wp2_with fail
      refine (unhide (TD1 _ u19)).mono ?_
      rintro e w20 ⟨gf, rfl, of, hb⟩
      have bsf : w.heap.size ≤ w19.heap.size := u19.size
      have apsf := rowsApart rs_19 of
      have apxf := rowsApart rx_19 of
      have apyf := rowsApart ry_19 of
      have apgf := rowsApart rg_19 of
      have apef := rowsApart oe of
      have u20 := u19.trans (hb.mono u19.size)
      have rs_20 := ownsRow_below rs_19 hb
      have rx_20 := ownsRow_below rx_19 hb
      have ry_20 := ownsRow_below ry_19 hb
      have rg_20 := ownsRow_below rg_19 hb
      have re_20 := ownsRow_below oe hb
      clear hb u19 rs_19 rx_19 ry_19 rg_19 oe
      go_wp2_with fail
      refine (unhide (IM _ _ _ _ _ re_20 of)).mono ?_
      rintro e w21 ⟨vh, rfl, oh, hb⟩
      try simp only at oh
      obtain ⟨qh, mh_, rfl, -⟩ := ownsRow_shape oh
      clear re_20
      clear of
      have bsh : w.heap.size ≤ w20.heap.size := u20.size
      have apsh := rowsApart rs_20 oh
      have apxh := rowsApart rx_20 oh
      have apyh := rowsApart ry_20 oh
      have apgh := rowsApart rg_20 oh
      have u21 := u20.trans (hb.mono u20.size)
      have rs_21 := ownsRow_below rs_20 hb
      have rx_21 := ownsRow_below rx_20 hb
      have ry_21 := ownsRow_below ry_20 hb
      have rg_21 := ownsRow_below rg_20 hb
      clear hb u20 rs_20 rx_20 ry_20 rg_20
      go_wp2_with fail
      refine (eqEntryS_any _ _ _ _ X _ oh rs_21 (by omega)).mono ?_
      rintro e w22 ⟨rfl, hb⟩
      have u22 := u21.trans (hb.mono u21.size)
      have rs_22 := ownsRow_below rs_21 hb
      have rx_22 := ownsRow_below rx_21 hb
      have ry_22 := ownsRow_below ry_21 hb
      have rg_22 := ownsRow_below rg_21 hb
      have rh_22 := ownsRow_below oh hb
      clear hb u21 rs_21 rx_21 ry_21 rg_21 oh
      have HD := hide (heldEntryS_any _ _ 1 X.length w22 rg_22 (by omega) (by omega) (by omega))
      rw [← unhide Hmg] at HD
      go_wp2_with fail
      refine (unhide HD).mono ?_
      rintro e w23 ⟨rfl, hb⟩
      have u23 := u22.trans (hb.mono u22.size)
      have rs_23 := ownsRow_below rs_22 hb
      have rx_23 := ownsRow_below rx_22 hb
      have ry_23 := ownsRow_below ry_22 hb
      have rg_23 := ownsRow_below rg_22 hb
      have rh_23 := ownsRow_below rh_22 hb
      clear hb u22 rs_22 rx_22 ry_22 rg_22 rh_22
      clear HD
      have t := z0.trans (u23.mono z0.size)
      clear rs_23 rx_23 ry_23 rg_23 rh_23 u23  TD0 HF0 TD1 HF1
      go_wp2
      go_ret
      exact ⟨rfl, t⟩

set_option maxRecDepth 100000 in
theorem lifted (os : Os) (started : os.Started) (H : Type) (enc : TypeId × Value → H) :
    ReturnsInHanded {} Try.checked os 9 .any (Rows.fnExactMergedSpec.pre6 enc Try.prog Try.f9 Rows.fnExactMergedRow.domain false) (Rows.fnExactMergedSpec.post enc Try.prog Try.f9 false true false false) := by
  refine returnsInHanded_of_change (C := Try.checked) own started (by kernel_rfl) Try.func9
    (ChangeSpec.witness6 (enc := enc) (C := Try.checked) false ⟨#[], #[.slice none 0 0, .slice none 0 0], []⟩ 8 (by kernel_rfl) (by kernel_rfl) (by kernel_rfl) (by kernel_rfl)) ?_
  intro W base args ds gs before hval0 hW hcnd _
  have hval : ∀ (j : Nat) t v, Try.f9.params[j]? = some t → args[j]? = some v → Value.okWide Try.prog W .any base t v := hval0
  have hW' := hW
  obtain ⟨p, q, hA0, hV, rfl, hfz, hnd⟩ := hW
  have hA : DataW.TrodAll enc Try.prog W 0 (fun _ => true) true Try.f9.params.toList args.toList ds p := hA0
  rw [Try.params9] at hA hval
  obtain ⟨v0, vs0, d0, ds0, p0, q0, hargs, rfl, rfl, h0, r0⟩ := trodAll_cons hA
  obtain ⟨v1, vs1, d1, ds1, p1, q1, rfl, rfl, rfl, h1, r1⟩ := trodAll_cons r0
  obtain ⟨rfl, rfl, rfl⟩ := trodAll_nil r1
  obtain rfl : args = #[v0, v1] := by cases args; simp_all
  obtain ⟨rfl, rfl⟩ := trodVars_none hV
  have lt0 : ∀ x ∈ p0, x.block < W.heap.size := by obtain ⟨m, hm⟩ := h0; exact DataW.trod_lt m _ _ _ hm
  obtain ⟨a0, c0, f0, rfl, w0, y0⟩ := open_EntryS (hval 0 42 v0 rfl rfl) h0
  have lt1 : ∀ x ∈ p1, x.block < W.heap.size := by obtain ⟨m, hm⟩ := h1; exact DataW.trod_lt m _ _ _ hm
  obtain ⟨a1, c1, f1, rfl, w1, y1⟩ := open_EntryS (hval 1 42 v1 rfl rfl) h1
  clear hA0 hval0
  refine (walk W a0 c0 f0 a1 c1 f1 w0 y0 w1 y1).mono fun e W' ⟨he, bel⟩ => ?_
  subst he
  exact ⟨_, rfl, _, _, _, [], _, [], hW', trodAll_mk1 (shut_bool Try.underlying4 _), (trodAll_cons_mk (Below.trod laidOut (by kernel_rfl) (of_decide_eq_true (by kernel_rfl)) h0 bel lt0) (trodAll_cons_mk (Below.trod laidOut (by kernel_rfl) (of_decide_eq_true (by kernel_rfl)) h1 bel lt1) trodAll_mk0)), rfl, bel.frame _, fun h => by cases h⟩

theorem over : Rows.fnExactMergedRow.holds Try.pinned (OpenSpec.ofChange Rows.fnExactMergedSpec) :=
  OpenClaim.holds_of_wide 9 Try.f9 rfl rfl rfl rfl rfl rfl rfl ⟨rfl, rfl, rfl, rfl, rfl⟩ rfl rfl rfl rfl rfl (by kernel_rfl) Try.func9 (by kernel_rfl)
    (of_decide_eq_true (by kernel_rfl)) (by unfold Func.isWrapper; first | (rw [if_pos (by decide +kernel)]; kernel_rfl) | (rw [if_neg (by decide +kernel)]; exact ⟨rfl, rfl⟩))
    (fun os started H enc _ => lifted os started H enc)

end Go.Proofs.Ytccafdoehjdbeaa.fnExactMerged
namespace Go.Proofs.Ytccafdoehjdbeaa
theorem fnExactMerged_holds : Rows.FnExactMergedSaid := fnExactMerged.over
#print axioms fnExactMerged_holds
end Go.Proofs.Ytccafdoehjdbeaa
