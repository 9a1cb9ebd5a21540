/- At every argument the law FnExactDiskOk answers true: the program DiskOk answers as the one of the specification does, its answer is its own memory, and nothing that was there is written. -/
import Derived.Test.YtapdmngljokdmaaRows
import Derived.WalkKit
import Derived.ProofKit
import Derived.OpenShut
import Derived.ShutString
import Derived.Test.YtapdmngljokdmaaSpecDisk2
import Derived.Test.YtapdmngljokdmaaImplDisk
import Derived.Test.YtapdmngljokdmaaOpenDisk
namespace Go.Proofs.Ytapdmngljokdmaa.fnExactDiskOk
open Go.ChangeShapes Go.WideShapes Go.ChangeAt Go.RowKit
open Go.ChangeMaps (open_string shut_string)
open scoped Classical
set_option linter.unusedVariables false

theorem own : ownKnob Try.prog.godebug = none := by kernel_rfl
theorem laidOut : laidOutB Try.prog = true := by kernel_rfl

set_option maxRecDepth 100000 in
set_option maxHeartbeats 1600000 in
theorem walk (w : World) (a0 : Option Addr) (c0 : Nat) (f0 : List FileL) (w0 : f0.length ≤ 9223372036854775807) (v0 : FewF f0 9223372036854775807) (k0 : FilesIn w w.heap.size a0 f0) :
    Calls Try.prog 4 #[.agg #[.slice a0 f0.length c0]] w fun e w' => e = .returned (.bool true) ∧ Below w.heap.size w w' := by
  have C0 := fun W (h : FilesIn W W.heap.size a0 f0) => hide (szDisk_any a0 c0 f0 1048576 W (by omega) (by omega) w0 v0 h)
  have HK := hide k0
  clear k0 v0
  go_enter Try.func4, Try.ntmps4
  go_wp2_with fail
  obtain ⟨W0, hW0⟩ : ∃ W0, W0 = w.alloc (Obj.cells #[Value.slice a0 f0.length c0] 40) := ⟨_, rfl⟩
  have Y0 : Hid (W0.cell? ⟨w.heap.size, 0, none⟩ = some (.slice a0 f0.length c0)) := by rw [hW0]; exact hide (by rw [cell_of_row _ _ 0 _ _ _ (heap_alloc_new w _)]; rfl)
  have z0 : Below w.heap.size w W0 := by rw [hW0]; exact (Below.refl _ _).alloc (Nat.le_refl _) _
  have z1 : w.heap.size < W0.heap.size := by rw [hW0]; simp
  rw [← hW0]
  clear hW0
  have HK0 := hide (filesIn_on (unhide HK) z0)
  clear HK
  refine (unhide (C0 _ (unhide HK0))).mono ?_
  rintro e w1 ⟨r, rfl, hr, hcase, hb⟩
  rcases hcase with hr1 | ⟨hr0, hn1, hl1⟩
  · subst hr1
    clear HK0 C0
    go_wp2
    go_ret
    exact ⟨rfl, z0.trans (hb.mono z0.size)⟩
  · have u1 : Below W0.heap.size W0 w1 := hb
    have TD := fun W (h : Below W0.heap.size W0 W) => hide (toDisk_any a0 c0 f0 W hn1 (filesIn_on (unhide HK0) h))
    clear C0 hb
    have y1 := cell_later u1 (unhide Y0)
    go_wp2_with fail
    refine (unhide (TD _ u1)).mono ?_
    rintro e w2 ⟨ga, rfl, oa, hb⟩
    have bsa : W0.heap.size ≤ w1.heap.size := u1.size
    have u2 := u1.trans (hb.mono u1.size)
    have y2 := cell_later u2 (unhide Y0)
    clear hb y1 u1
    go_wp2_with fail
    refine (specDiskOk_any _ _ f0 _ oa (by omega) hl1).mono ?_
    rintro e w3 ⟨rfl, hb⟩
    clear oa
    have u3 := u2.trans (hb.mono u2.size)
    have y3 := cell_later u3 (unhide Y0)
    clear hb y2 u2
    go_wp2_with fail
    refine (unhide (TD _ u3)).mono ?_
    rintro e w4 ⟨gb, rfl, ob, hb⟩
    have bsb : W0.heap.size ≤ w3.heap.size := u3.size
    have u4 := u3.trans (hb.mono u3.size)
    have y4 := cell_later u4 (unhide Y0)
    clear hb y3 u3
    have hws : w.heap.size < w4.heap.size := Nat.lt_of_lt_of_le z1 u4.size
    go_wp2_with fail
    clear hws 
    obtain ⟨w5, hV⟩ : ∃ V, V = w4.alloc (Obj.cells #[.slice (some ⟨gb, 0, none⟩) f0.length f0.length] 26) := ⟨_, rfl⟩
    have hb : Below w4.heap.size w4 w5 := by rw [hV]; exact (Below.refl _ _).alloc (Nat.le_refl _) _
    have nh : w5.heap[w4.heap.size]? = some (.cells #[.slice (some ⟨gb, 0, none⟩) f0.length f0.length] 26 (0, 0)) := by rw [hV]; exact heap_alloc_new w4 _
    obtain ⟨bx, hBx⟩ : ∃ b, b = w4.heap.size := ⟨_, rfl⟩
    rw [← hBx] at nh
    rw [← hV, ← hBx]
    clear hV hBx
    have u5 := u4.trans (hb.mono u4.size)
    have y5 := cell_later u5 (unhide Y0)
    have rb_5 := ownsRow_below ob hb
    clear hb y4 u4 ob
    have hx_5 := nh
    have cx_5 := cell_one hx_5
    clear nh
    refine (implDiskOk_any _ _ f0 _ rb_5 (by omega) hl1).mono ?_
    rintro e w6 ⟨rfl, hb⟩
    have u6 := u5.trans (hb.mono u5.size)
    have y6 := cell_later u6 (unhide Y0)
    have rb_6 := ownsRow_below rb_5 hb
    have hx_6 := heap_later hb hx_5
    have cx_6 := cell_one hx_6
    clear hb y5 u5 rb_5 hx_5 cx_5
    generalize decide (diskOk f0) = r0
    go_wp2_with fail
    go_region_held3 (fun w' => w'.cell? ⟨w.heap.size, 0, none⟩ = some (.slice a0 f0.length c0) ∧ w'.cell? ⟨bx, 0, none⟩ = some (.slice (some ⟨gb, 0, none⟩) f0.length f0.length))
      (refine ⟨?_, ?_⟩ <;> first | go_keep | exact cell_later hbA (y6) | exact cell_later hbB (cell_later hbA (y6)) | exact cell_later hbA (cx_6) | exact cell_later hbB (cell_later hbA (cx_6)))
      (first
        | (go_at_call 23; refine (unhide (TD _ u6.drew)).mono ?_; rintro e wA7 ⟨gc, rfl, oc, hbA⟩)
        | (go_at_call 24; refine (eqDisk_any _ _ _ _ f0 _ (ownsRow_below (World.ownsRow.drew rb_6) hbA) oc (by omega)).mono ?_; rintro e wB7 ⟨rfl, hbB⟩))
    have hb : Below w6.heap.size w6 wB7 := (((Below.refl _ _).drew).trans hbA).trans (hbB.mono hbA.size)
    clear hbA hbB
    have u7 := u6.trans (hb.mono u6.size)
    have y7 := cell_later u7 (unhide Y0)
    have rb_7 := ownsRow_below rb_6 hb
    have hx_7 := heap_later hb hx_6
    have cx_7 := cell_one hx_7
    clear hb y6 u6 rb_6 hx_6 cx_6
    clear oc
    have t := z0.trans (u7.mono z0.size)
    clear rb_7 hx_7 cx_7 u7 y7 TD HK0
    go_wp2
    go_ret
    exact ⟨rfl, t⟩

set_option maxRecDepth 100000 in
theorem lifted (os : Os) (started : os.Started) (H : Type) (enc : TypeId × Value → H) :
    ReturnsInHanded {} Try.checked os 4 .any (Rows.fnExactDiskOkSpec.pre6 enc Try.prog Try.f4 Rows.fnExactDiskOkRow.domain false) (Rows.fnExactDiskOkSpec.post enc Try.prog Try.f4 false true false false) := by
  refine returnsInHanded_of_change (C := Try.checked) own started (by kernel_rfl) Try.func4
    (ChangeSpec.witness6 (enc := enc) (C := Try.checked) false ⟨#[], #[.agg #[.slice none 0 0]], []⟩ 8 (by kernel_rfl) (by kernel_rfl) (by kernel_rfl) (by kernel_rfl)) ?_
  intro W base args ds gs before hval0 hW hcnd _
  have hval : ∀ (j : Nat) t v, Try.f4.params[j]? = some t → args[j]? = some v → Value.okWide Try.prog W .any base t v := hval0
  have hW' := hW
  obtain ⟨p, q, hA0, hV, rfl, hfz, hnd⟩ := hW
  have hA : DataW.TrodAll enc Try.prog W 0 (fun _ => true) true Try.f4.params.toList args.toList ds p := hA0
  rw [Try.params4] at hA hval
  obtain ⟨v0, vs0, d0, ds0, p0, q0, hargs, rfl, rfl, h0, r0⟩ := trodAll_cons hA
  obtain ⟨rfl, rfl, rfl⟩ := trodAll_nil r0
  obtain rfl : args = #[v0] := by cases args; simp_all
  obtain ⟨rfl, rfl⟩ := trodVars_none hV
  have lt0 : ∀ x ∈ p0, x.block < W.heap.size := by obtain ⟨m, hm⟩ := h0; exact DataW.trod_lt m _ _ _ hm
  obtain ⟨a0, c0, f0, rfl, w0, x0, y0⟩ := open_disk (hval 0 40 v0 rfl rfl) h0
  clear hA0 hval0
  refine (walk W a0 c0 f0 w0 x0 y0).mono fun e W' ⟨he, bel⟩ => ?_
  subst he
  exact ⟨_, rfl, _, _, _, [], _, [], hW', trodAll_mk1 (shut_bool Try.underlying4 _), (trodAll_cons_mk (Below.trod laidOut (by kernel_rfl) (of_decide_eq_true (by kernel_rfl)) h0 bel lt0) trodAll_mk0), rfl, bel.frame _, fun h => by cases h⟩

theorem over : Rows.fnExactDiskOkRow.holds Try.pinned (OpenSpec.ofChange Rows.fnExactDiskOkSpec) :=
  OpenClaim.holds_of_wide 4 Try.f4 rfl rfl rfl rfl rfl rfl rfl ⟨rfl, rfl, rfl, rfl, rfl⟩ rfl rfl rfl rfl rfl (by kernel_rfl) Try.func4 (by kernel_rfl)
    (of_decide_eq_true (by kernel_rfl)) (by unfold Func.isWrapper; first | (rw [if_pos (by decide +kernel)]; kernel_rfl) | (rw [if_neg (by decide +kernel)]; exact ⟨rfl, rfl⟩))
    (fun os started H enc _ => lifted os started H enc)

end Go.Proofs.Ytapdmngljokdmaa.fnExactDiskOk
namespace Go.Proofs.Ytapdmngljokdmaa
theorem fnExactDiskOk_holds : Rows.FnExactDiskOkSaid := fnExactDiskOk.over
#print axioms fnExactDiskOk_holds
end Go.Proofs.Ytapdmngljokdmaa
