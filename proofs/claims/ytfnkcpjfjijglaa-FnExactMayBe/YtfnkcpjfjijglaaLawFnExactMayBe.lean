/- At every argument the law FnExactMayBe answers true: the program MayBe answers as the one of the specification does, its answer is its own memory, and nothing that was there is written. -/
import Derived.Test.YtfnkcpjfjijglaaRows
import Derived.WalkKit
import Derived.ProofKit
import Derived.OpenShut
import Derived.ShutString
import Derived.Test.YtfnkcpjfjijglaaSpecMayBe
import Derived.Test.YtfnkcpjfjijglaaImplMayBe
import Derived.Test.YtfnkcpjfjijglaaOpenDisk
namespace Go.Proofs.Ytfnkcpjfjijglaa.fnExactMayBe
open Go.ChangeShapes Go.WideShapes Go.ChangeAt Go.RowKit
open Go.ChangeMaps (open_string shut_string)
open scoped Classical
set_option linter.unusedVariables false

theorem own : ownKnob Try.prog.godebug = none := by kernel_rfl
theorem laidOut : laidOutB Try.prog = true := by kernel_rfl

set_option maxRecDepth 100000 in
set_option maxHeartbeats 1600000 in
theorem walk (w : World) (a0 : Option Addr) (c0 : Nat) (f0 : List FileL) (a1 : Option Addr) (c1 : Nat) (f1 : List FileL) (w0 : f0.length ≤ 9223372036854775807) (v0 : FewF f0 9223372036854775807) (k0 : FilesIn w w.heap.size a0 f0) (w1 : f1.length ≤ 9223372036854775807) (v1 : FewF f1 9223372036854775807) (k1 : FilesIn w w.heap.size a1 f1) :
    Calls Try.prog 5 #[.agg #[.slice a0 f0.length c0], .agg #[.slice a1 f1.length c1]] w fun e w' => e = .returned (.bool true) ∧ Below w.heap.size w w' := by
  have C0 := fun W (left : Int) (h0 : 0 ≤ left) (h1 : left ≤ 1048576) (h : FilesIn W W.heap.size a0 f0) => hide (szDisk_any a0 c0 f0 left W h0 h1 w0 v0 h)
  have HK0 := hide k0
  have C1 := fun W (left : Int) (h0 : 0 ≤ left) (h1 : left ≤ 1048576) (h : FilesIn W W.heap.size a1 f1) => hide (szDisk_any a1 c1 f1 left W h0 h1 w1 v1 h)
  have HK1 := hide k1
  clear k0 v0 k1 v1
  go_enter Try.func5, Try.ntmps5
  go_wp2_with fail
  obtain ⟨W0, hW0⟩ : ∃ W0, W0 = (w.alloc (Obj.cells #[Value.slice a0 f0.length c0] 37)).alloc (Obj.cells #[Value.slice a1 f1.length c1] 37) := ⟨_, rfl⟩
  have Y0 : Hid (W0.cell? ⟨w.heap.size, 0, none⟩ = some (.slice a0 f0.length c0)) := by rw [hW0]; exact hide (by rw [World.cell?_of_block (Below.heap_alloc _ _ _ (by simp)), cell_of_row _ _ 0 _ _ _ (alloc_at _ _ _ (by simp))]; rfl)
  have Y1 : Hid (W0.cell? ⟨w.heap.size + 1, 0, none⟩ = some (.slice a1 f1.length c1)) := by rw [hW0]; exact hide (by rw [cell_of_row _ _ 0 _ _ _ (alloc_at _ _ _ (by simp))]; rfl)
  have z0 : Below w.heap.size w W0 := by rw [hW0]; exact ((Below.refl _ _).alloc (by simp) _).alloc (by simp) _
  have zW : w.heap.size + 2 ≤ W0.heap.size := by rw [hW0]; simp
  rw [← hW0]
  clear hW0
  have HF0 := hide (filesIn_on (unhide HK0) z0)
  clear HK0
  have HF1 := hide (filesIn_on (unhide HK1) z0)
  clear HK1
  refine (unhide (C0 _ 1048576 (by omega) (by omega) (unhide HF0))).mono ?_
  rintro e w1 ⟨r0_, rfl, hr0, hcase, hb⟩
  have u1 : Below W0.heap.size W0 w1 := hb
  clear hb C0
  rcases hcase with hr1 | ⟨hr00, hn0, hl0⟩
  · subst hr1
    clear HF0 HF1 C1
    go_wp2
    go_ret
    exact ⟨rfl, z0.trans (u1.mono z0.size)⟩
  · skip
    have y0_1 := cell_later u1 (unhide Y0)
    have y1_1 := cell_later u1 (unhide Y1)
    go_wp2_with fail
    refine (unhide (C1 _ r0_ (by omega) (by omega) (filesIn_on (unhide HF1) u1))).mono ?_
    rintro e w2 ⟨r1_, rfl, hr1, hcase, hb⟩
    have u2 : Below W0.heap.size W0 w2 := u1.trans (hb.mono u1.size)
    clear hb C1
    rcases hcase with hr1 | ⟨hr01, hn1, hl1⟩
    · subst hr1
      clear HF0 HF1 
      go_wp2
      go_ret
      exact ⟨rfl, z0.trans (u2.mono z0.size)⟩
    · skip
      clear y0_1 y1_1 u1
      have TD0 := fun W (h : Below W0.heap.size W0 W) => hide (toDisk_any a0 c0 f0 W hn0 (filesIn_on (unhide HF0) h))
      have TD1 := fun W (h : Below W0.heap.size W0 W) => hide (toDisk_any a1 c1 f1 W hn1 (filesIn_on (unhide HF1) h))
      have y0_2 := cell_later u2 (unhide Y0)
      have y1_2 := cell_later u2 (unhide Y1)
      go_wp2_with fail
      go_region_held3 (fun w' => w'.cell? ⟨w.heap.size, 0, none⟩ = some (.slice a0 f0.length c0) ∧ w'.cell? ⟨w.heap.size + 1, 0, none⟩ = some (.slice a1 f1.length c1))
        (refine ⟨?_, ?_⟩ <;> first | go_keep | exact cell_later hbA (y0_2) | exact cell_later hbB (cell_later hbA (y0_2)) | exact cell_later hbC (cell_later hbB (cell_later hbA (y0_2))) | exact cell_later hbA (y1_2) | exact cell_later hbB (cell_later hbA (y1_2)) | exact cell_later hbC (cell_later hbB (cell_later hbA (y1_2))))
        (first
          | (go_at_call_of 15 (Value.agg #[Value.slice a0 f0.length c0]); refine (unhide (TD0 _ u2.drew)).mono ?_; rintro e wA ⟨ga, rfl, oa, hbA⟩; have TA := (u2.drew).trans (hbA.mono u2.size))
          | (go_at_call_of 15 (Value.agg #[Value.slice a1 f1.length c1]); refine (unhide (TD1 _ TA)).mono ?_; rintro e wB ⟨gb, rfl, ob, hbB⟩)
          | (go_at_call 22; refine (specMayBe_any _ _ _ _ f0 f1 _ (ownsRow_below oa hbB) ob (by omega) (by omega) hl0 hl1).mono ?_; rintro e wC ⟨rfl, hbC⟩))
      have hb : Below w2.heap.size w2 wC := ((((Below.refl _ _).drew).trans hbA).trans (hbB.mono (hbA.size))).trans (hbC.mono (Nat.le_trans (hbA.size) hbB.size))
      clear hbA hbB hbC
      have u3 := u2.trans (hb.mono u2.size)
      have y0_3 := cell_later u3 (unhide Y0)
      have y1_3 := cell_later u3 (unhide Y1)
      clear hb y0_2 y1_2 u2
      clear oa ob
      go_wp2_with fail
      refine (unhide (TD0 _ u3)).mono ?_
      rintro e w4 ⟨gx, rfl, ox, hb⟩
      have bsx : W0.heap.size ≤ wC.heap.size := u3.size
      have u4 := u3.trans (hb.mono u3.size)
      have y0_4 := cell_later u4 (unhide Y0)
      have y1_4 := cell_later u4 (unhide Y1)
      clear hb y0_3 y1_3 u3
      have hws0 : w.heap.size < w4.heap.size := by have := u4.size; omega
      have hws1 : w.heap.size + 1 < w4.heap.size := by have := u4.size; omega
      go_wp2_with fail
      clear hws0 hws1 
      obtain ⟨w5, hV⟩ : ∃ V, V = w4.alloc (Obj.cells #[.slice (some ⟨gx, 0, none⟩) f0.length f0.length] 26) := ⟨_, rfl⟩
      have hb : Below w4.heap.size w4 w5 := by rw [hV]; exact (Below.refl _ _).alloc (Nat.le_refl _) _
      have nh : w5.heap[w4.heap.size]? = some (.cells #[.slice (some ⟨gx, 0, none⟩) f0.length f0.length] 26 (0, 0)) := by rw [hV]; exact heap_alloc_new w4 _
      obtain ⟨bx, hBx⟩ : ∃ b, b = w4.heap.size := ⟨_, rfl⟩
      rw [← hBx] at nh
      rw [← hV, ← hBx]
      clear hV hBx
      have u5 := u4.trans (hb.mono u4.size)
      have y0_5 := cell_later u5 (unhide Y0)
      have y1_5 := cell_later u5 (unhide Y1)
      have rx_5 := ownsRow_below ox hb
      clear hb y0_4 y1_4 u4 ox
      have hx_5 := nh
      have cx_5 := cell_one hx_5
      clear nh
      refine (unhide (TD1 _ u5)).mono ?_
      rintro e w6 ⟨gt, rfl, ot, hb⟩
      have bst : W0.heap.size ≤ w5.heap.size := u5.size
      have apxt := rows_apart3 rx_5 ot
      have u6 := u5.trans (hb.mono u5.size)
      have y0_6 := cell_later u6 (unhide Y0)
      have y1_6 := cell_later u6 (unhide Y1)
      have rx_6 := ownsRow_below rx_5 hb
      have hx_6 := heap_later hb hx_5
      have cx_6 := cell_one hx_6
      clear hb y0_5 y1_5 u5 rx_5 hx_5 cx_5
      have ltx : bx < w6.heap.size := (Array.getElem?_eq_some_iff.1 hx_6).1
      have hws0 : w.heap.size < w6.heap.size := by have := u6.size; omega
      have hws1 : w.heap.size + 1 < w6.heap.size := by have := u6.size; omega
      go_wp2_with fail
      clear hws0 hws1 ltx
      obtain ⟨w7, hV⟩ : ∃ V, V = w6.alloc (Obj.cells #[.slice (some ⟨gt, 0, none⟩) f1.length f1.length] 26) := ⟨_, rfl⟩
      have hb : Below w6.heap.size w6 w7 := by rw [hV]; exact (Below.refl _ _).alloc (Nat.le_refl _) _
      have nh : w7.heap[w6.heap.size]? = some (.cells #[.slice (some ⟨gt, 0, none⟩) f1.length f1.length] 26 (0, 0)) := by rw [hV]; exact heap_alloc_new w6 _
      obtain ⟨bt, hBt⟩ : ∃ b, b = w6.heap.size := ⟨_, rfl⟩
      rw [← hBt] at nh
      rw [← hV, ← hBt]
      clear hV hBt
      have u7 := u6.trans (hb.mono u6.size)
      have y0_7 := cell_later u7 (unhide Y0)
      have y1_7 := cell_later u7 (unhide Y1)
      have rx_7 := ownsRow_below rx_6 hb
      have rt_7 := ownsRow_below ot hb
      have hx_7 := heap_later hb hx_6
      have cx_7 := cell_one hx_7
      clear hb y0_6 y1_6 u6 rx_6 ot hx_6 cx_6
      have ht_7 := nh
      have ct_7 := cell_one ht_7
      clear nh
      refine (implMayBe_any _ _ _ _ f0 f1 _ rx_7 rt_7 (by omega) (by omega) hl0 hl1).mono ?_
      rintro e w8 ⟨rfl, hb⟩
      have u8 := u7.trans (hb.mono u7.size)
      have y0_8 := cell_later u8 (unhide Y0)
      have y1_8 := cell_later u8 (unhide Y1)
      have rx_8 := ownsRow_below rx_7 hb
      have rt_8 := ownsRow_below rt_7 hb
      have hx_8 := heap_later hb hx_7
      have cx_8 := cell_one hx_8
      have ht_8 := heap_later hb ht_7
      have ct_8 := cell_one ht_8
      clear hb y0_7 y1_7 u7 rx_7 rt_7 hx_7 ht_7 cx_7 ct_7
      generalize decide (mayBe f0 f1) = r0
      go_wp2_with fail
      go_region_held3 (fun w' => w'.cell? ⟨w.heap.size, 0, none⟩ = some (.slice a0 f0.length c0) ∧ w'.cell? ⟨bx, 0, none⟩ = some (.slice (some ⟨gx, 0, none⟩) f0.length f0.length))
        (refine ⟨?_, ?_⟩ <;> first | go_keep | exact cell_later hbA (y0_8) | exact cell_later hbB (cell_later hbA (y0_8)) | exact cell_later hbA (cx_8) | exact cell_later hbB (cell_later hbA (cx_8)))
        (first
          | (go_at_call 15; refine (unhide (TD0 _ u8.drew)).mono ?_; rintro e wA9 ⟨gc, rfl, oc, hbA⟩)
          | (go_at_call 17; refine (eqDisk_any _ _ _ _ f0 _ (ownsRow_below (World.ownsRow.drew rx_8) hbA) oc (by omega)).mono ?_; rintro e wB9 ⟨rfl, hbB⟩))
      have hb : Below w8.heap.size w8 wB9 := (((Below.refl _ _).drew).trans hbA).trans (hbB.mono (hbA.size))
      clear hbA hbB
      have u9 := u8.trans (hb.mono u8.size)
      have y0_9 := cell_later u9 (unhide Y0)
      have y1_9 := cell_later u9 (unhide Y1)
      have rx_9 := ownsRow_below rx_8 hb
      have rt_9 := ownsRow_below rt_8 hb
      have hx_9 := heap_later hb hx_8
      have cx_9 := cell_one hx_9
      have ht_9 := heap_later hb ht_8
      have ct_9 := cell_one ht_9
      clear hb y0_8 y1_8 u8 rx_8 rt_8 hx_8 ht_8 cx_8 ct_8
      clear oc
      go_wp2_with fail
      go_region_held3 (fun w' => w'.cell? ⟨w.heap.size + 1, 0, none⟩ = some (.slice a1 f1.length c1) ∧ w'.cell? ⟨bt, 0, none⟩ = some (.slice (some ⟨gt, 0, none⟩) f1.length f1.length))
        (refine ⟨?_, ?_⟩ <;> first | go_keep | exact cell_later hbA (y1_9) | exact cell_later hbB (cell_later hbA (y1_9)) | exact cell_later hbA (ct_9) | exact cell_later hbB (cell_later hbA (ct_9)))
        (first
          | (go_at_call 15; refine (unhide (TD1 _ u9.drew)).mono ?_; rintro e wA10 ⟨gd, rfl, od, hbA⟩)
          | (go_at_call 17; refine (eqDisk_any _ _ _ _ f1 _ (ownsRow_below (World.ownsRow.drew rt_9) hbA) od (by omega)).mono ?_; rintro e wB10 ⟨rfl, hbB⟩))
      have hb : Below wB9.heap.size wB9 wB10 := (((Below.refl _ _).drew).trans hbA).trans (hbB.mono (hbA.size))
      clear hbA hbB
      have u10 := u9.trans (hb.mono u9.size)
      have y0_10 := cell_later u10 (unhide Y0)
      have y1_10 := cell_later u10 (unhide Y1)
      have rx_10 := ownsRow_below rx_9 hb
      have rt_10 := ownsRow_below rt_9 hb
      have hx_10 := heap_later hb hx_9
      have cx_10 := cell_one hx_10
      have ht_10 := heap_later hb ht_9
      have ct_10 := cell_one ht_10
      clear hb y0_9 y1_9 u9 rx_9 rt_9 hx_9 ht_9 cx_9 ct_9
      clear od
      have t := z0.trans (u10.mono z0.size)
      clear rx_10 rt_10 hx_10 ht_10 cx_10 ct_10 u10 y0_10 y1_10 TD0 HF0 TD1 HF1
      go_wp2
      go_ret
      exact ⟨rfl, t⟩

set_option maxRecDepth 100000 in
theorem lifted (os : Os) (started : os.Started) (H : Type) (enc : TypeId × Value → H) :
    ReturnsInHanded {} Try.checked os 5 .any (Rows.fnExactMayBeSpec.pre6 enc Try.prog Try.f5 Rows.fnExactMayBeRow.domain false) (Rows.fnExactMayBeSpec.post enc Try.prog Try.f5 false true false false) := by
  refine returnsInHanded_of_change (C := Try.checked) own started (by kernel_rfl) Try.func5
    (ChangeSpec.witness6 (enc := enc) (C := Try.checked) false ⟨#[], #[.agg #[.slice none 0 0], .agg #[.slice none 0 0]], []⟩ 8 (by kernel_rfl) (by kernel_rfl) (by kernel_rfl) (by kernel_rfl)) ?_
  intro W base args ds gs before hval0 hW hcnd _
  have hval : ∀ (j : Nat) t v, Try.f5.params[j]? = some t → args[j]? = some v → Value.okWide Try.prog W .any base t v := hval0
  have hW' := hW
  obtain ⟨p, q, hA0, hV, rfl, hfz, hnd⟩ := hW
  have hA : DataW.TrodAll enc Try.prog W 0 (fun _ => true) true Try.f5.params.toList args.toList ds p := hA0
  rw [Try.params5] at hA hval
  obtain ⟨v0, vs0, d0, ds0, p0, q0, hargs, rfl, rfl, h0, r0⟩ := trodAll_cons hA
  obtain ⟨v1, vs1, d1, ds1, p1, q1, rfl, rfl, rfl, h1, r1⟩ := trodAll_cons r0
  obtain ⟨rfl, rfl, rfl⟩ := trodAll_nil r1
  obtain rfl : args = #[v0, v1] := by cases args; simp_all
  obtain ⟨rfl, rfl⟩ := trodVars_none hV
  have lt0 : ∀ x ∈ p0, x.block < W.heap.size := by obtain ⟨m, hm⟩ := h0; exact DataW.trod_lt m _ _ _ hm
  obtain ⟨a0, c0, f0, rfl, w0, x0, y0⟩ := open_disk (hval 0 37 v0 rfl rfl) h0
  have lt1 : ∀ x ∈ p1, x.block < W.heap.size := by obtain ⟨m, hm⟩ := h1; exact DataW.trod_lt m _ _ _ hm
  obtain ⟨a1, c1, f1, rfl, w1, x1, y1⟩ := open_disk (hval 1 37 v1 rfl rfl) h1
  clear hA0 hval0
  refine (walk W a0 c0 f0 a1 c1 f1 w0 x0 y0 w1 x1 y1).mono fun e W' ⟨he, bel⟩ => ?_
  subst he
  exact ⟨_, rfl, _, _, _, [], _, [], hW', trodAll_mk1 (shut_bool Try.underlying4 _), (trodAll_cons_mk (Below.trod laidOut (by kernel_rfl) (of_decide_eq_true (by kernel_rfl)) h0 bel lt0) (trodAll_cons_mk (Below.trod laidOut (by kernel_rfl) (of_decide_eq_true (by kernel_rfl)) h1 bel lt1) trodAll_mk0)), rfl, bel.frame _, fun h => by cases h⟩

theorem over : Rows.fnExactMayBeRow.holds Try.pinned (OpenSpec.ofChange Rows.fnExactMayBeSpec) :=
  OpenClaim.holds_of_wide 5 Try.f5 rfl rfl rfl rfl rfl rfl rfl ⟨rfl, rfl, rfl, rfl, rfl⟩ rfl rfl rfl rfl rfl (by kernel_rfl) Try.func5 (by kernel_rfl)
    (of_decide_eq_true (by kernel_rfl)) (by unfold Func.isWrapper; first | (rw [if_pos (by decide +kernel)]; kernel_rfl) | (rw [if_neg (by decide +kernel)]; exact ⟨rfl, rfl⟩))
    (fun os started H enc _ => lifted os started H enc)

end Go.Proofs.Ytfnkcpjfjijglaa.fnExactMayBe
namespace Go.Proofs.Ytfnkcpjfjijglaa
theorem fnExactMayBe_holds : Rows.FnExactMayBeSaid := fnExactMayBe.over
#print axioms fnExactMayBe_holds
end Go.Proofs.Ytfnkcpjfjijglaa
