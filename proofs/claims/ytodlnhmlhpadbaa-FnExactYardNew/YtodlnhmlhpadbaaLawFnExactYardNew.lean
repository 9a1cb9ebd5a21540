/- The program's YardNew answers as the specification, field by field, and its answer owns its memory. No condition. -/
import Derived.Test.YtodlnhmlhpadbaaRows
import Derived.WalkKit
import Derived.ProofKit
import Derived.OpenShut
import Derived.ShutString
import Derived.Test.YtodlnhmlhpadbaaS45
import Derived.Test.YtodlnhmlhpadbaaS46
namespace Go.Proofs.Ytodlnhmlhpadbaa.fnExactYardNew
open Go.ChangeShapes Go.WideShapes Go.ChangeAt Go.RowKit
open Go.ChangeMaps (open_string shut_string)
open scoped Classical
set_option linter.unusedVariables false

theorem own : ownKnob Try.prog.godebug = none := by kernel_rfl
theorem laidOut : laidOutB Try.prog = true := by kernel_rfl

set_option maxRecDepth 100000 in
set_option maxHeartbeats 1600000 in
theorem walk (w : World)   :
    Calls Try.prog 3 #[] w fun e w' => e = .returned (.bool true) ∧ Below w.heap.size w w' := by
  have IM := fun W => hide (implYardNewX W)
  have SP := fun W => hide (specYardNew_any W)
  have hfew : YardFew (⟨0, 1, [[], [], [], []], []⟩ : YardL) := ⟨by decide, by decide⟩
  have FW := hide hfew
  have SZ := hide (sizeY_few hfew)
  clear hfew
  dsimp only [yardV, yardC, yardNew] at IM SP
  have z0 : Below w.heap.size w w := Below.refl _ _
  have u0 : Below w.heap.size w w := Below.refl _ _
  have SU : Hid (w.heap.size ≤ w.heap.size) := hide (Nat.le_refl _)
  go_enter Try.func3, Try.ntmps3
  go_wp2_with fail
  refine (unhide (SP _)).mono ?_
  rintro e w1 ⟨vss, uss, rfl, os, hb⟩
  obtain ⟨qs, ms, rfl, -⟩ := ownsPc_shape os.sh.out.own
  dsimp only [List.length_cons, List.length_nil] at os ⊢
  have nt := id os
  clear os
  have u1 := u0.trans (hb.mono u0.size)
  have s0 := hide hb.size
  clear hb u0
  have ts_1 := nt
  clear nt
  clear SP
  go_wp2_with fail
  obtain ⟨w2, hV⟩ : ∃ V, V = w1.alloc (Obj.cells #[.int .i64 0, .int .i64 1, .slice qs 4 ms, .slice none 0 0] 25) := ⟨_, rfl⟩
  have hb : Below w1.heap.size w1 w2 := by rw [hV]; exact (Below.refl _ _).alloc (Nat.le_refl _) _
  have nh : w2.heap[w1.heap.size]? = some (.cells #[.int .i64 0, .int .i64 1, .slice qs 4 ms, .slice none 0 0] 25 (0, 0)) := by rw [hV]; exact heap_alloc_new w1 _
  have nz : Hid (w2.heap.size = w1.heap.size + 1) := hide (by rw [hV]; simp)
  obtain ⟨bs, hBs⟩ : ∃ b, b = w1.heap.size := ⟨_, rfl⟩
  rw [← hBs] at nh
  rw [← hV, ← hBs]
  have Bs := hide hBs
  have Ns := nz
  clear hV hBs nz
  have u2 := u1.trans (hb.mono u1.size)
  have s1 := hide hb.size
  have ts_2 := yardX_below ts_1 hb
  clear hb u1 ts_1
  have hs_2 := nh
  have cs_2_0 := cellIn (i := 0) hs_2 rfl
  have cs_2_1 := cellIn (i := 1) hs_2 rfl
  have cs_2_2 := cellIn (i := 2) hs_2 rfl
  have cs_2_3 := cellIn (i := 3) hs_2 rfl
  clear nh
  refine (unhide (IM _)).mono ?_
  rintro e w3 ⟨vsg, vrg, usg, rfl, og, hb⟩
  obtain ⟨qg, mg, rfl, -⟩ := ownsPc_shape og.sh.out.own
  obtain ⟨pg, ng, rfl, -⟩ := ownsPc_shape og.rn.out.own
  dsimp only [List.length_cons, List.length_nil] at og ⊢
  have nt := id og
  clear og
  have u3 := u2.trans (hb.mono u2.size)
  have s2 := hide hb.size
  have ts_3 := yardX_below ts_2 hb
  have hs_3 := heapLater hb hs_2
  have cs_3_0 := cellIn (i := 0) hs_3 rfl
  have cs_3_1 := cellIn (i := 1) hs_3 rfl
  have cs_3_2 := cellIn (i := 2) hs_3 rfl
  have cs_3_3 := cellIn (i := 3) hs_3 rfl
  clear hb cs_2_0 cs_2_1 cs_2_2 cs_2_3 u2 ts_2 hs_2
  have tg_3 := nt
  clear nt
  have lts : bs < w3.heap.size := (Array.getElem?_eq_some_iff.1 hs_3).1
  go_wp2_with fail
  clear  lts
  obtain ⟨w4, hV⟩ : ∃ V, V = w3.alloc (Obj.cells #[.int .i64 0, .int .i64 1, .slice qg 4 mg, .slice pg 0 ng] 25) := ⟨_, rfl⟩
  have hb : Below w3.heap.size w3 w4 := by rw [hV]; exact (Below.refl _ _).alloc (Nat.le_refl _) _
  have nh : w4.heap[w3.heap.size]? = some (.cells #[.int .i64 0, .int .i64 1, .slice qg 4 mg, .slice pg 0 ng] 25 (0, 0)) := by rw [hV]; exact heap_alloc_new w3 _
  have nz : Hid (w4.heap.size = w3.heap.size + 1) := hide (by rw [hV]; simp)
  obtain ⟨bg, hBg⟩ : ∃ b, b = w3.heap.size := ⟨_, rfl⟩
  rw [← hBg] at nh
  rw [← hV, ← hBg]
  have Bg := hide hBg
  have Ng := nz
  clear hV hBg nz
  have u4 := u3.trans (hb.mono u3.size)
  have s3 := hide hb.size
  have ts_4 := yardX_below ts_3 hb
  have tg_4 := yardX_below tg_3 hb
  have hs_4 := heapLater hb hs_3
  have cs_4_0 := cellIn (i := 0) hs_4 rfl
  have cs_4_1 := cellIn (i := 1) hs_4 rfl
  have cs_4_2 := cellIn (i := 2) hs_4 rfl
  have cs_4_3 := cellIn (i := 3) hs_4 rfl
  clear hb cs_3_0 cs_3_1 cs_3_2 cs_3_3 u3 ts_3 tg_3 hs_3
  have hg_4 := nh
  have cg_4_0 := cellIn (i := 0) hg_4 rfl
  have cg_4_1 := cellIn (i := 1) hg_4 rfl
  have cg_4_2 := cellIn (i := 2) hg_4 rfl
  have cg_4_3 := cellIn (i := 3) hg_4 rfl
  clear nh
  refine (eqYard_any _ _ _ _ _ _ _ _ _ _ _ _ (⟨0, 1, [[], [], [], []], []⟩ : YardL) _ tg_4 ts_4 (unhide FW)).mono ?_
  rintro e w5 ⟨rfl, hb⟩
  have u5 := u4.trans (hb.mono u4.size)
  have s4 := hide hb.size
  have ts_5 := yardX_below ts_4 hb
  have tg_5 := yardX_below tg_4 hb
  have hs_5 := heapLater hb hs_4
  have cs_5_0 := cellIn (i := 0) hs_5 rfl
  have cs_5_1 := cellIn (i := 1) hs_5 rfl
  have cs_5_2 := cellIn (i := 2) hs_5 rfl
  have cs_5_3 := cellIn (i := 3) hs_5 rfl
  have hg_5 := heapLater hb hg_4
  have cg_5_0 := cellIn (i := 0) hg_5 rfl
  have cg_5_1 := cellIn (i := 1) hg_5 rfl
  have cg_5_2 := cellIn (i := 2) hg_5 rfl
  have cg_5_3 := cellIn (i := 3) hg_5 rfl
  clear hb cs_4_0 cs_4_1 cs_4_2 cs_4_3 cg_4_0 cg_4_1 cg_4_2 cg_4_3 u4 ts_4 tg_4 hs_4 hg_4
  obtain ⟨mg, hm⟩ : ∃ m : Nat, m = 1 + sizeY (⟨0, 1, [[], [], [], []], []⟩ : YardL) := ⟨_, rfl⟩
  have MK := hide (markYard_any _ _ _ _ 1 _ _ (⟨0, 1, [[], [], [], []], []⟩ : YardL) w5 tg_5 (unhide FW) (by omega) (by have := unhide SZ; omega))
  try dsimp only [yardV, yardC, quadV] at MK
  try dsimp only at MK
  rw [← hm] at MK
  have Hmg := hide hm
  have mg9 : mg ≤ 12000000 := by rw [hm]; have := unhide SZ; omega
  have mg8 : 1 ≤ mg := by omega
  clear hm
  have mg0 : decide ((mg : Int) < 0) = false := decide_eq_false (by omega)
  have mg1 : ((mg : Int) != (mg : Int)) = false := by simp
  go_wp2_with fail
  refine (unhide MK).mono ?_
  rintro e w6 ⟨rfl, nx, hw⟩
  clear MK
  have u6 := within_below u5 hw (by have e0 := unhide s0; have e1 := unhide s1; have f := unhide SU; omega) u5.size
  have s5 := hide hw.size
  have lbs : bs < w2.heap.size := by have f := unhide Bs; have g := unhide Ns; omega
  have ts_6 := yardX_frame ts_5 hw (.inl (by have e1 := unhide s1; omega))
  have hs_6 := box_frame hs_5 hw (.inl (by have f := unhide Bs; have g := lbs; omega))
  have cs_6_0 := cellIn (i := 0) hs_6 rfl
  have cs_6_1 := cellIn (i := 1) hs_6 rfl
  have cs_6_2 := cellIn (i := 2) hs_6 rfl
  have cs_6_3 := cellIn (i := 3) hs_6 rfl
  have hg_6 := box_frame hg_5 hw (.inr (by have f := unhide Bg; omega))
  have cg_6_0 := cellIn (i := 0) hg_6 rfl
  have cg_6_1 := cellIn (i := 1) hg_6 rfl
  have cg_6_2 := cellIn (i := 2) hg_6 rfl
  have cg_6_3 := cellIn (i := 3) hg_6 rfl
  clear hw cs_5_0 cs_5_1 cs_5_2 cs_5_3 cg_5_0 cg_5_1 cg_5_2 cg_5_3 u5 ts_5 hs_5 hg_5
  clear tg_5 lbs
  have tg_6 := nx
  clear nx
  have HD := hide (heldYard_any _ _ _ _ 1 _ _ (⟨0, 1, [[], [], [], []], []⟩ : YardL) w6 tg_6 (unhide FW) (by omega) (by have := unhide SZ; omega))
  try dsimp only [yardV, yardC, quadV] at HD
  rw [← unhide Hmg] at HD
  go_wp2_with fail
  refine (unhide HD).mono ?_
  rintro e w7 ⟨rfl, hb⟩
  have u7 := u6.trans (hb.mono u6.size)
  have s6 := hide hb.size
  have ts_7 := yardX_below ts_6 hb
  have tg_7 := yardX_below tg_6 hb
  have hs_7 := heapLater hb hs_6
  have cs_7_0 := cellIn (i := 0) hs_7 rfl
  have cs_7_1 := cellIn (i := 1) hs_7 rfl
  have cs_7_2 := cellIn (i := 2) hs_7 rfl
  have cs_7_3 := cellIn (i := 3) hs_7 rfl
  have hg_7 := heapLater hb hg_6
  have cg_7_0 := cellIn (i := 0) hg_7 rfl
  have cg_7_1 := cellIn (i := 1) hg_7 rfl
  have cg_7_2 := cellIn (i := 2) hg_7 rfl
  have cg_7_3 := cellIn (i := 3) hg_7 rfl
  clear hb cs_6_0 cs_6_1 cs_6_2 cs_6_3 cg_6_0 cg_6_1 cg_6_2 cg_6_3 u6 ts_6 tg_6 hs_6 hg_6
  clear HD
  go_wp2_with fail
  refine (unhide (IM _)).mono ?_
  rintro e w8 ⟨vsh, vrh, ush, rfl, oh, hb⟩
  obtain ⟨qh, mh, rfl, -⟩ := ownsPc_shape oh.sh.out.own
  obtain ⟨ph, nh, rfl, -⟩ := ownsPc_shape oh.rn.out.own
  dsimp only [List.length_cons, List.length_nil] at oh ⊢
  have nt := id oh
  clear oh
  have u8 := u7.trans (hb.mono u7.size)
  have s7 := hide hb.size
  have ts_8 := yardX_below ts_7 hb
  have tg_8 := yardX_below tg_7 hb
  have hs_8 := heapLater hb hs_7
  have cs_8_0 := cellIn (i := 0) hs_8 rfl
  have cs_8_1 := cellIn (i := 1) hs_8 rfl
  have cs_8_2 := cellIn (i := 2) hs_8 rfl
  have cs_8_3 := cellIn (i := 3) hs_8 rfl
  have hg_8 := heapLater hb hg_7
  have cg_8_0 := cellIn (i := 0) hg_8 rfl
  have cg_8_1 := cellIn (i := 1) hg_8 rfl
  have cg_8_2 := cellIn (i := 2) hg_8 rfl
  have cg_8_3 := cellIn (i := 3) hg_8 rfl
  clear hb cs_7_0 cs_7_1 cs_7_2 cs_7_3 cg_7_0 cg_7_1 cg_7_2 cg_7_3 u7 ts_7 tg_7 hs_7 hg_7
  have th_8 := nt
  clear nt
  have lts : bs < w8.heap.size := (Array.getElem?_eq_some_iff.1 hs_8).1
  have ltg : bg < w8.heap.size := (Array.getElem?_eq_some_iff.1 hg_8).1
  go_wp2_with fail
  clear  lts ltg
  obtain ⟨w9, hV⟩ : ∃ V, V = w8.alloc (Obj.cells #[.int .i64 0, .int .i64 1, .slice qh 4 mh, .slice ph 0 nh] 25) := ⟨_, rfl⟩
  have hb : Below w8.heap.size w8 w9 := by rw [hV]; exact (Below.refl _ _).alloc (Nat.le_refl _) _
  have nh : w9.heap[w8.heap.size]? = some (.cells #[.int .i64 0, .int .i64 1, .slice qh 4 mh, .slice ph 0 nh] 25 (0, 0)) := by rw [hV]; exact heap_alloc_new w8 _
  have nz : Hid (w9.heap.size = w8.heap.size + 1) := hide (by rw [hV]; simp)
  obtain ⟨bh, hBh⟩ : ∃ b, b = w8.heap.size := ⟨_, rfl⟩
  rw [← hBh] at nh
  rw [← hV, ← hBh]
  have Bh := hide hBh
  have Nh := nz
  clear hV hBh nz
  have u9 := u8.trans (hb.mono u8.size)
  have s8 := hide hb.size
  have ts_9 := yardX_below ts_8 hb
  have tg_9 := yardX_below tg_8 hb
  have th_9 := yardX_below th_8 hb
  have hs_9 := heapLater hb hs_8
  have cs_9_0 := cellIn (i := 0) hs_9 rfl
  have cs_9_1 := cellIn (i := 1) hs_9 rfl
  have cs_9_2 := cellIn (i := 2) hs_9 rfl
  have cs_9_3 := cellIn (i := 3) hs_9 rfl
  have hg_9 := heapLater hb hg_8
  have cg_9_0 := cellIn (i := 0) hg_9 rfl
  have cg_9_1 := cellIn (i := 1) hg_9 rfl
  have cg_9_2 := cellIn (i := 2) hg_9 rfl
  have cg_9_3 := cellIn (i := 3) hg_9 rfl
  clear hb cs_8_0 cs_8_1 cs_8_2 cs_8_3 cg_8_0 cg_8_1 cg_8_2 cg_8_3 u8 ts_8 tg_8 th_8 hs_8 hg_8
  have hh_9 := nh
  have ch_9_0 := cellIn (i := 0) hh_9 rfl
  have ch_9_1 := cellIn (i := 1) hh_9 rfl
  have ch_9_2 := cellIn (i := 2) hh_9 rfl
  have ch_9_3 := cellIn (i := 3) hh_9 rfl
  clear nh
  refine (eqYard_any _ _ _ _ _ _ _ _ _ _ _ _ (⟨0, 1, [[], [], [], []], []⟩ : YardL) _ th_9 ts_9 (unhide FW)).mono ?_
  rintro e w10 ⟨rfl, hb⟩
  have u10 := u9.trans (hb.mono u9.size)
  have s9 := hide hb.size
  have ts_10 := yardX_below ts_9 hb
  have tg_10 := yardX_below tg_9 hb
  have th_10 := yardX_below th_9 hb
  have hs_10 := heapLater hb hs_9
  have cs_10_0 := cellIn (i := 0) hs_10 rfl
  have cs_10_1 := cellIn (i := 1) hs_10 rfl
  have cs_10_2 := cellIn (i := 2) hs_10 rfl
  have cs_10_3 := cellIn (i := 3) hs_10 rfl
  have hg_10 := heapLater hb hg_9
  have cg_10_0 := cellIn (i := 0) hg_10 rfl
  have cg_10_1 := cellIn (i := 1) hg_10 rfl
  have cg_10_2 := cellIn (i := 2) hg_10 rfl
  have cg_10_3 := cellIn (i := 3) hg_10 rfl
  have hh_10 := heapLater hb hh_9
  have ch_10_0 := cellIn (i := 0) hh_10 rfl
  have ch_10_1 := cellIn (i := 1) hh_10 rfl
  have ch_10_2 := cellIn (i := 2) hh_10 rfl
  have ch_10_3 := cellIn (i := 3) hh_10 rfl
  clear hb cs_9_0 cs_9_1 cs_9_2 cs_9_3 cg_9_0 cg_9_1 cg_9_2 cg_9_3 ch_9_0 ch_9_1 ch_9_2 ch_9_3 u9 ts_9 tg_9 th_9 hs_9 hg_9 hh_9
  have HD := hide (heldYard_any _ _ _ _ 1 _ _ (⟨0, 1, [[], [], [], []], []⟩ : YardL) w10 tg_10 (unhide FW) (by omega) (by have := unhide SZ; omega))
  try dsimp only [yardV, yardC, quadV] at HD
  rw [← unhide Hmg] at HD
  go_wp2_with fail
  refine (unhide HD).mono ?_
  rintro e w11 ⟨rfl, hb⟩
  have u11 := u10.trans (hb.mono u10.size)
  have s10 := hide hb.size
  have ts_11 := yardX_below ts_10 hb
  have tg_11 := yardX_below tg_10 hb
  have th_11 := yardX_below th_10 hb
  have hs_11 := heapLater hb hs_10
  have cs_11_0 := cellIn (i := 0) hs_11 rfl
  have cs_11_1 := cellIn (i := 1) hs_11 rfl
  have cs_11_2 := cellIn (i := 2) hs_11 rfl
  have cs_11_3 := cellIn (i := 3) hs_11 rfl
  have hg_11 := heapLater hb hg_10
  have cg_11_0 := cellIn (i := 0) hg_11 rfl
  have cg_11_1 := cellIn (i := 1) hg_11 rfl
  have cg_11_2 := cellIn (i := 2) hg_11 rfl
  have cg_11_3 := cellIn (i := 3) hg_11 rfl
  have hh_11 := heapLater hb hh_10
  have ch_11_0 := cellIn (i := 0) hh_11 rfl
  have ch_11_1 := cellIn (i := 1) hh_11 rfl
  have ch_11_2 := cellIn (i := 2) hh_11 rfl
  have ch_11_3 := cellIn (i := 3) hh_11 rfl
  clear hb cs_10_0 cs_10_1 cs_10_2 cs_10_3 cg_10_0 cg_10_1 cg_10_2 cg_10_3 ch_10_0 ch_10_1 ch_10_2 ch_10_3 u10 ts_10 tg_10 th_10 hs_10 hg_10 hh_10
  clear HD
  have t := z0.trans (u11.mono z0.size)
  clear ts_11 tg_11 th_11 hs_11 hg_11 hh_11 cs_11_0 cs_11_1 cs_11_2 cs_11_3 cg_11_0 cg_11_1 cg_11_2 cg_11_3 ch_11_0 ch_11_1 ch_11_2 ch_11_3 u11
  go_wp2
  go_ret
  exact ⟨rfl, t⟩

set_option maxRecDepth 100000 in
theorem lifted (os : Os) (started : os.Started) (H : Type) (enc : TypeId × Value → H) :
    ReturnsInHanded {} Try.checked os 3 .any (Rows.fnExactYardNewSpec.pre6 enc Try.prog Try.f3 Rows.fnExactYardNewRow.domain false) (Rows.fnExactYardNewSpec.post enc Try.prog Try.f3 false true false false) := by
  refine returnsInHanded_of_change (C := Try.checked) own started (by kernel_rfl) Try.func3
    (ChangeSpec.witness6 (enc := enc) (C := Try.checked) false ⟨#[], #[], []⟩ 8 (by kernel_rfl) (by kernel_rfl) (by kernel_rfl) (by kernel_rfl)) ?_
  intro W base args ds gs before hval0 hW hcnd _
  have hval : ∀ (j : Nat) t v, Try.f3.params[j]? = some t → args[j]? = some v → Value.okWide Try.prog W .any base t v := hval0
  have hW' := hW
  obtain ⟨p, q, hA0, hV, rfl, hfz, hnd⟩ := hW
  have hA : DataW.TrodAll enc Try.prog W 0 (fun _ => true) true Try.f3.params.toList args.toList ds p := hA0
  rw [Try.params3] at hA hval
  obtain ⟨ha_, rfl, rfl⟩ := trodAll_nil hA
  obtain rfl : args = #[] := by cases args; simp_all
  obtain ⟨rfl, rfl⟩ := trodVars_none hV
  clear hA0 hval0
  refine (walk W  ).mono fun e W' ⟨he, bel⟩ => ?_
  subst he
  exact ⟨_, rfl, _, _, _, [], _, [], hW', trodAll_mk1 (shut_bool Try.underlying4 _), trodAll_mk0, rfl, bel.frame _, fun h => by cases h⟩

theorem over : Rows.fnExactYardNewRow.holds Try.pinned (OpenSpec.ofChange Rows.fnExactYardNewSpec) :=
  OpenClaim.holds_of_wide 3 Try.f3 rfl rfl rfl rfl rfl rfl rfl ⟨rfl, rfl, rfl, rfl, rfl⟩ rfl rfl rfl rfl rfl (by kernel_rfl) Try.func3 (by kernel_rfl)
    (of_decide_eq_true (by kernel_rfl)) (by unfold Func.isWrapper; first | (rw [if_pos (by decide +kernel)]; kernel_rfl) | (rw [if_neg (by decide +kernel)]; exact ⟨rfl, rfl⟩))
    (fun os started H enc _ => lifted os started H enc)

end Go.Proofs.Ytodlnhmlhpadbaa.fnExactYardNew
namespace Go.Proofs.Ytodlnhmlhpadbaa
theorem fnExactYardNew_holds : Rows.FnExactYardNewSaid := fnExactYardNew.over
#print axioms fnExactYardNew_holds
end Go.Proofs.Ytodlnhmlhpadbaa
