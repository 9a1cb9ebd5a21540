/- For every list of entries handed in, spec.ShelfOk and impl.ShelfOk of the given code answer the same, and the list is left as it was: the statement FnExactShelfOk holds at every argument. -/
import Derived.Test.YtccafdoehjdbeaaRows
import Derived.WalkKit
import Derived.ProofKit
import Derived.OpenShut
import Derived.ShutString
import Derived.Test.YtccafdoehjdbeaaSpecMerged
import Derived.Test.YtccafdoehjdbeaaRowBase
import Derived.Test.YtccafdoehjdbeaaImplShelf
import Derived.Test.YtccafdoehjdbeaaEntryOpen
namespace Go.Proofs.Ytccafdoehjdbeaa.fnExactShelfOk
open Go.ChangeShapes Go.WideShapes Go.ChangeAt Go.RowKit
open Go.ChangeMaps (open_string shut_string)
open scoped Classical
set_option linter.unusedVariables false

theorem own : ownKnob Try.prog.godebug = none := by kernel_rfl
theorem laidOut : laidOutB Try.prog = true := by kernel_rfl

set_option maxRecDepth 100000 in
set_option maxHeartbeats 1600000 in
theorem walk (w : World) (a0 : Option Addr) (c0 : Nat) (f0 : List QuadL) (w0 : f0.length ≤ 9223372036854775807) (k0 : QuadsIn w w.heap.size a0 f0) :
    Calls Try.prog 5 #[.slice a0 f0.length c0] w fun e w' => e = .returned (.bool true) ∧ Below w.heap.size w w' := by
  have C0 := fun W (left : Int) (h0 : 0 ≤ left) (h1 : left ≤ 1048576) => hide (szEntryS_any a0 c0 f0 left W h0 h1 w0)
  have HK0 := hide k0
  clear k0
  go_enter Try.func5, Try.ntmps5
  go_wp2_with fail
  have z0 : Below w.heap.size w w := Below.refl _ _
  have zW : w.heap.size + 0 ≤ w.heap.size := Nat.le_refl _
  have HF0 := hide (quadsIn_on (unhide HK0) z0)
  clear HK0
  refine (unhide (C0 _ 1048576 (by omega) (by omega))).mono ?_
  rintro e w1 ⟨r0_, rfl, hr0, hcase, hb⟩
  have u1 : Below w.heap.size w w1 := hb
  clear hb C0
  rcases hcase with hr1 | ⟨hr00, hn0⟩
  · subst hr1
    clear HF0 
    go_wp2
    go_ret
    exact ⟨rfl, z0.trans (u1.mono z0.size)⟩
  · skip
    have TD0 := fun W (h : Below w.heap.size w W) => hide (toEntryS_any a0 c0 f0 W hn0 (quadsIn_on (unhide HF0) h))
    obtain ⟨bb, hbb⟩ : ∃ b : Bool, (b = true ↔ shelfOk f0) := by classical exact ⟨decide (shelfOk f0), by simp⟩
    have bne : (bb != bb) = false := by simp
    have ONE : ∀ r : Bool, (r = true ↔ shelfOk f0) → r = bb := fun r h => by cases r <;> cases bb <;> simp_all
    have ONEH := hide ONE
    clear ONE hbb
    go_wp2_with fail
    refine (unhide (TD0 _ u1)).mono ?_
    rintro e w2 ⟨ga, rfl, oa, hb⟩
    have bsa : w.heap.size ≤ w1.heap.size := u1.size
    have u2 := u1.trans (hb.mono u1.size)
    clear hb u1
    go_wp2_with fail
    refine (specShelfOk_any _ _ f0 _ oa (by omega)).mono ?_
    rintro e w3 ⟨rs, rfl, hrs, hb⟩
    clear oa
    have u3 := u2.trans (hb.mono u2.size)
    clear hb u2
    have es := unhide ONEH rs hrs
    subst es
    clear hrs
    go_wp2_with fail
    refine (unhide (TD0 _ u3)).mono ?_
    rintro e w4 ⟨gb, rfl, ob, hb⟩
    have bsb : w.heap.size ≤ w3.heap.size := u3.size
    have u4 := u3.trans (hb.mono u3.size)
    clear hb u3
    go_wp2_with fail
    refine (implShelfOk_any _ _ f0 _ ob (by omega)).mono ?_
    rintro e w5 ⟨ri, rfl, hri, hb⟩
    have u5 := u4.trans (hb.mono u4.size)
    have rb_5 := ownsRow_below ob hb
    clear hb u4 ob
    have ei := unhide ONEH ri hri
    subst ei
    clear hri
    go_wp2_with fail
    refine (unhide (TD0 _ u5)).mono ?_
    rintro e w6 ⟨gc, rfl, oc, hb⟩
    have bsc : w.heap.size ≤ w5.heap.size := u5.size
    have apbc := rowsApart rb_5 oc
    have u6 := u5.trans (hb.mono u5.size)
    have rb_6 := ownsRow_below rb_5 hb
    clear hb u5 rb_5
    go_wp2_with fail
    refine (eqEntryS_any _ _ _ _ f0 _ rb_6 oc (by omega)).mono ?_
    rintro e w7 ⟨rfl, hb⟩
    have u7 := u6.trans (hb.mono u6.size)
    have rb_7 := ownsRow_below rb_6 hb
    have rc_7 := ownsRow_below oc hb
    clear hb u6 rb_6 oc
    have t := z0.trans (u7.mono z0.size)
    clear rb_7 rc_7 u7  TD0 HF0
    go_wp2
    go_ret
    exact ⟨rfl, t⟩

set_option maxRecDepth 100000 in
theorem lifted (os : Os) (started : os.Started) (H : Type) (enc : TypeId × Value → H) :
    ReturnsInHanded {} Try.checked os 5 .any (Rows.fnExactShelfOkSpec.pre6 enc Try.prog Try.f5 Rows.fnExactShelfOkRow.domain false) (Rows.fnExactShelfOkSpec.post enc Try.prog Try.f5 false true false false) := by
  refine returnsInHanded_of_change (C := Try.checked) own started (by kernel_rfl) Try.func5
    (ChangeSpec.witness6 (enc := enc) (C := Try.checked) false ⟨#[], #[.slice none 0 0], []⟩ 8 (by kernel_rfl) (by kernel_rfl) (by kernel_rfl) (by kernel_rfl)) ?_
  intro W base args ds gs before hval0 hW hcnd _
  have hval : ∀ (j : Nat) t v, Try.f5.params[j]? = some t → args[j]? = some v → Value.okWide Try.prog W .any base t v := hval0
  have hW' := hW
  obtain ⟨p, q, hA0, hV, rfl, hfz, hnd⟩ := hW
  have hA : DataW.TrodAll enc Try.prog W 0 (fun _ => true) true Try.f5.params.toList args.toList ds p := hA0
  rw [Try.params5] at hA hval
  obtain ⟨v0, vs0, d0, ds0, p0, q0, hargs, rfl, rfl, h0, r0⟩ := trodAll_cons hA
  obtain ⟨rfl, rfl, rfl⟩ := trodAll_nil r0
  obtain rfl : args = #[v0] := by cases args; simp_all
  obtain ⟨rfl, rfl⟩ := trodVars_none hV
  have lt0 : ∀ x ∈ p0, x.block < W.heap.size := by obtain ⟨m, hm⟩ := h0; exact DataW.trod_lt m _ _ _ hm
  obtain ⟨a0, c0, f0, rfl, w0, y0⟩ := open_EntryS (hval 0 42 v0 rfl rfl) h0
  clear hA0 hval0
  refine (walk W a0 c0 f0 w0 y0).mono fun e W' ⟨he, bel⟩ => ?_
  subst he
  exact ⟨_, rfl, _, _, _, [], _, [], hW', trodAll_mk1 (shut_bool Try.underlying4 _), (trodAll_cons_mk (Below.trod laidOut (by kernel_rfl) (of_decide_eq_true (by kernel_rfl)) h0 bel lt0) trodAll_mk0), rfl, bel.frame _, fun h => by cases h⟩

theorem over : Rows.fnExactShelfOkRow.holds Try.pinned (OpenSpec.ofChange Rows.fnExactShelfOkSpec) :=
  OpenClaim.holds_of_wide 5 Try.f5 rfl rfl rfl rfl rfl rfl rfl ⟨rfl, rfl, rfl, rfl, rfl⟩ rfl rfl rfl rfl rfl (by kernel_rfl) Try.func5 (by kernel_rfl)
    (of_decide_eq_true (by kernel_rfl)) (by unfold Func.isWrapper; first | (rw [if_pos (by decide +kernel)]; kernel_rfl) | (rw [if_neg (by decide +kernel)]; exact ⟨rfl, rfl⟩))
    (fun os started H enc _ => lifted os started H enc)

end Go.Proofs.Ytccafdoehjdbeaa.fnExactShelfOk
namespace Go.Proofs.Ytccafdoehjdbeaa
theorem fnExactShelfOk_holds : Rows.FnExactShelfOkSaid := fnExactShelfOk.over
#print axioms fnExactShelfOk_holds
end Go.Proofs.Ytccafdoehjdbeaa
