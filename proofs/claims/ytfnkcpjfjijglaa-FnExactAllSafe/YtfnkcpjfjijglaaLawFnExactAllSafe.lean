/- At every argument the law FnExactAllSafe answers true: the program AllSafe answers as the one of the specification does, its answer is its own memory, and nothing that was there is written. -/
import Derived.Test.YtfnkcpjfjijglaaRows
import Derived.WalkKit
import Derived.ProofKit
import Derived.OpenShut
import Derived.ShutString
import Derived.Test.YtfnkcpjfjijglaaSpecCrash
import Derived.Test.YtfnkcpjfjijglaaImplCrash
import Derived.Test.YtfnkcpjfjijglaaOpenDisk
namespace Go.Proofs.Ytfnkcpjfjijglaa.fnExactAllSafe
open Go.ChangeShapes Go.WideShapes Go.ChangeAt Go.RowKit
open Go.ChangeMaps (open_string shut_string)
open scoped Classical
set_option linter.unusedVariables false

theorem own : ownKnob Try.prog.godebug = none := by kernel_rfl
theorem laidOut : laidOutB Try.prog = true := by kernel_rfl

set_option maxRecDepth 100000 in
set_option maxHeartbeats 1600000 in
theorem walk (w : World) (a0 : Option Addr) (c0 : Nat) (f0 : List FileL) (w0 : f0.length ≤ 9223372036854775807) (v0 : FewF f0 9223372036854775807) (k0 : FilesIn w w.heap.size a0 f0) :
    Calls Try.prog 6 #[.agg #[.slice a0 f0.length c0]] w fun e w' => e = .returned (.bool true) ∧ Below w.heap.size w w' := by
  have C0 := fun W (left : Int) (h0 : 0 ≤ left) (h1 : left ≤ 1048576) (h : FilesIn W W.heap.size a0 f0) => hide (szDisk_any a0 c0 f0 left W h0 h1 w0 v0 h)
  have HK0 := hide k0
  clear k0 v0
  go_enter Try.func6, Try.ntmps6
  go_wp2_with fail
  obtain ⟨W0, hW0⟩ : ∃ W0, W0 = w.alloc (Obj.cells #[Value.slice a0 f0.length c0] 37) := ⟨_, rfl⟩
  have Y0 : Hid (W0.cell? ⟨w.heap.size, 0, none⟩ = some (.slice a0 f0.length c0)) := by rw [hW0]; exact hide (by rw [cell_of_row _ _ 0 _ _ _ (alloc_at _ _ _ (by simp))]; rfl)
  have z0 : Below w.heap.size w W0 := by rw [hW0]; exact (Below.refl _ _).alloc (by simp) _
  have zW : w.heap.size + 1 ≤ W0.heap.size := by rw [hW0]; simp
  rw [← hW0]
  clear hW0
  have HF0 := hide (filesIn_on (unhide HK0) z0)
  clear HK0
  refine (unhide (C0 _ 1048576 (by omega) (by omega) (unhide HF0))).mono ?_
  rintro e w1 ⟨r0_, rfl, hr0, hcase, hb⟩
  have u1 : Below W0.heap.size W0 w1 := hb
  clear hb C0
  rcases hcase with hr1 | ⟨hr00, hn0, hl0⟩
  · subst hr1
    clear HF0 
    go_wp2
    go_ret
    exact ⟨rfl, z0.trans (u1.mono z0.size)⟩
  · skip
    have TD0 := fun W (h : Below W0.heap.size W0 W) => hide (toDisk_any a0 c0 f0 W hn0 (filesIn_on (unhide HF0) h))
    have y0_1 := cell_later u1 (unhide Y0)
    go_wp2_with fail
    refine (unhide (TD0 _ u1)).mono ?_
    rintro e w2 ⟨ga, rfl, oa, hb⟩
    have bsa : W0.heap.size ≤ w1.heap.size := u1.size
    have u2 := u1.trans (hb.mono u1.size)
    have y0_2 := cell_later u2 (unhide Y0)
    clear hb y0_1 u1
    go_wp2_with fail
    refine (specAllSafe_any _ _ f0 _ oa (by omega) hl0).mono ?_
    rintro e w3 ⟨rfl, hb⟩
    clear oa
    have u3 := u2.trans (hb.mono u2.size)
    have y0_3 := cell_later u3 (unhide Y0)
    clear hb y0_2 u2
    go_wp2_with fail
    refine (unhide (TD0 _ u3)).mono ?_
    rintro e w4 ⟨gb, rfl, ob, hb⟩
    have bsb : W0.heap.size ≤ w3.heap.size := u3.size
    have u4 := u3.trans (hb.mono u3.size)
    have y0_4 := cell_later u4 (unhide Y0)
    clear hb y0_3 u3
    have hws0 : w.heap.size < w4.heap.size := by have := u4.size; omega
    go_wp2_with fail
    clear hws0 
    obtain ⟨w5, hV⟩ : ∃ V, V = w4.alloc (Obj.cells #[.slice (some ⟨gb, 0, none⟩) f0.length f0.length] 26) := ⟨_, rfl⟩
    have hb : Below w4.heap.size w4 w5 := by rw [hV]; exact (Below.refl _ _).alloc (Nat.le_refl _) _
    have nh : w5.heap[w4.heap.size]? = some (.cells #[.slice (some ⟨gb, 0, none⟩) f0.length f0.length] 26 (0, 0)) := by rw [hV]; exact heap_alloc_new w4 _
    obtain ⟨bx, hBx⟩ : ∃ b, b = w4.heap.size := ⟨_, rfl⟩
    rw [← hBx] at nh
    rw [← hV, ← hBx]
    clear hV hBx
    have u5 := u4.trans (hb.mono u4.size)
    have y0_5 := cell_later u5 (unhide Y0)
    have rb_5 := ownsRow_below ob hb
    clear hb y0_4 u4 ob
    have hx_5 := nh
    have cx_5 := cell_one hx_5
    clear nh
    refine (implAllSafe_any _ _ f0 _ rb_5 (by omega) hl0).mono ?_
    rintro e w6 ⟨rfl, hb⟩
    have u6 := u5.trans (hb.mono u5.size)
    have y0_6 := cell_later u6 (unhide Y0)
    have rb_6 := ownsRow_below rb_5 hb
    have hx_6 := heap_later hb hx_5
    have cx_6 := cell_one hx_6
    clear hb y0_5 u5 rb_5 hx_5 cx_5
    generalize decide (allSafeF f0) = r0
    go_wp2_with fail
    go_region_held3 (fun w' => w'.cell? ⟨w.heap.size, 0, none⟩ = some (.slice a0 f0.length c0) ∧ w'.cell? ⟨bx, 0, none⟩ = some (.slice (some ⟨gb, 0, none⟩) f0.length f0.length))
      (refine ⟨?_, ?_⟩ <;> first | go_keep | exact cell_later hbA (y0_6) | exact cell_later hbB (cell_later hbA (y0_6)) | exact cell_later hbA (cx_6) | exact cell_later hbB (cell_later hbA (cx_6)))
      (first
        | (go_at_call 15; refine (unhide (TD0 _ u6.drew)).mono ?_; rintro e wA7 ⟨gc, rfl, oc, hbA⟩)
        | (go_at_call 17; refine (eqDisk_any _ _ _ _ f0 _ (ownsRow_below (World.ownsRow.drew rb_6) hbA) oc (by omega)).mono ?_; rintro e wB7 ⟨rfl, hbB⟩))
    have hb : Below w6.heap.size w6 wB7 := (((Below.refl _ _).drew).trans hbA).trans (hbB.mono (hbA.size))
    clear hbA hbB
    have u7 := u6.trans (hb.mono u6.size)
    have y0_7 := cell_later u7 (unhide Y0)
    have rb_7 := ownsRow_below rb_6 hb
    have hx_7 := heap_later hb hx_6
    have cx_7 := cell_one hx_7
    clear hb y0_6 u6 rb_6 hx_6 cx_6
    clear oc
    have t := z0.trans (u7.mono z0.size)
    clear rb_7 hx_7 cx_7 u7 y0_7 TD0 HF0
    go_wp2
    go_ret
    exact ⟨rfl, t⟩

set_option maxRecDepth 100000 in
theorem lifted (os : Os) (started : os.Started) (H : Type) (enc : TypeId × Value → H) :
    ReturnsInHanded {} Try.checked os 6 .any (Rows.fnExactAllSafeSpec.pre6 enc Try.prog Try.f6 Rows.fnExactAllSafeRow.domain false) (Rows.fnExactAllSafeSpec.post enc Try.prog Try.f6 false true false false) := by
  refine returnsInHanded_of_change (C := Try.checked) own started (by kernel_rfl) Try.func6
    (ChangeSpec.witness6 (enc := enc) (C := Try.checked) false ⟨#[], #[.agg #[.slice none 0 0]], []⟩ 8 (by kernel_rfl) (by kernel_rfl) (by kernel_rfl) (by kernel_rfl)) ?_
  intro W base args ds gs before hval0 hW hcnd _
  have hval : ∀ (j : Nat) t v, Try.f6.params[j]? = some t → args[j]? = some v → Value.okWide Try.prog W .any base t v := hval0
  have hW' := hW
  obtain ⟨p, q, hA0, hV, rfl, hfz, hnd⟩ := hW
  have hA : DataW.TrodAll enc Try.prog W 0 (fun _ => true) true Try.f6.params.toList args.toList ds p := hA0
  rw [Try.params6] at hA hval
  obtain ⟨v0, vs0, d0, ds0, p0, q0, hargs, rfl, rfl, h0, r0⟩ := trodAll_cons hA
  obtain ⟨rfl, rfl, rfl⟩ := trodAll_nil r0
  obtain rfl : args = #[v0] := by cases args; simp_all
  obtain ⟨rfl, rfl⟩ := trodVars_none hV
  have lt0 : ∀ x ∈ p0, x.block < W.heap.size := by obtain ⟨m, hm⟩ := h0; exact DataW.trod_lt m _ _ _ hm
  obtain ⟨a0, c0, f0, rfl, w0, x0, y0⟩ := open_disk (hval 0 37 v0 rfl rfl) h0
  clear hA0 hval0
  refine (walk W a0 c0 f0 w0 x0 y0).mono fun e W' ⟨he, bel⟩ => ?_
  subst he
  exact ⟨_, rfl, _, _, _, [], _, [], hW', trodAll_mk1 (shut_bool Try.underlying4 _), (trodAll_cons_mk (Below.trod laidOut (by kernel_rfl) (of_decide_eq_true (by kernel_rfl)) h0 bel lt0) trodAll_mk0), rfl, bel.frame _, fun h => by cases h⟩

theorem over : Rows.fnExactAllSafeRow.holds Try.pinned (OpenSpec.ofChange Rows.fnExactAllSafeSpec) :=
  OpenClaim.holds_of_wide 6 Try.f6 rfl rfl rfl rfl rfl rfl rfl ⟨rfl, rfl, rfl, rfl, rfl⟩ rfl rfl rfl rfl rfl (by kernel_rfl) Try.func6 (by kernel_rfl)
    (of_decide_eq_true (by kernel_rfl)) (by unfold Func.isWrapper; first | (rw [if_pos (by decide +kernel)]; kernel_rfl) | (rw [if_neg (by decide +kernel)]; exact ⟨rfl, rfl⟩))
    (fun os started H enc _ => lifted os started H enc)

end Go.Proofs.Ytfnkcpjfjijglaa.fnExactAllSafe
namespace Go.Proofs.Ytfnkcpjfjijglaa
theorem fnExactAllSafe_holds : Rows.FnExactAllSafeSaid := fnExactAllSafe.over
#print axioms fnExactAllSafe_holds
end Go.Proofs.Ytfnkcpjfjijglaa
