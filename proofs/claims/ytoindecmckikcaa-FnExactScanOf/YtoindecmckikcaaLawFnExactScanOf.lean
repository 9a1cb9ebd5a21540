/- At every text the law FnExactScanOf answers true: the program ScanOf answers as the one of the specification does, its answer is its own memory, and nothing that was there is written. -/
import Derived.Test.YtoindecmckikcaaRows
import Derived.WalkKit
import Derived.ProofKit
import Derived.OpenShut
import Derived.ShutString
import Derived.Test.YtoindecmckikcaaSpecScan
import Derived.Test.YtoindecmckikcaaImplScan
import Derived.Test.YtoindecmckikcaaMarksOne
namespace Go.Proofs.Ytoindecmckikcaa.fnExactScanOf
open Go.ChangeShapes Go.WideShapes Go.ChangeAt Go.RowKit
open Go.ChangeMaps (open_string shut_string)
set_option linter.unusedVariables false

theorem own : ownKnob Try.prog.godebug = none := by kernel_rfl

set_option maxRecDepth 100000 in
set_option maxHeartbeats 1600000 in
theorem walk (a0 : ByteArray) (w0 : a0.size ≤ maxLen) (w : World) :
    Calls Try.prog 6 #[.string a0] w fun e w' => e = .returned (.bool true) ∧ Below w.heap.size w w' := by
  by_cases hbig : 1048576 < a0.size
  · have hB : decide ((1048576 : Int) < (a0.size : Int)) = true := by simp; omega
    go_enter Try.func6, Try.ntmps6
    go_wp2
    go_ret
    exact ⟨rfl, Below.refl _ _⟩
  · have hB : decide ((1048576 : Int) < (a0.size : Int)) = false := by simp; omega
    have hfew := scanR_few a0.data.toList
    have cS := fun W => hide (specScanOf_any a0 W (by omega))
    have cI := fun W => hide (implScanOf_any a0 W (by omega))
    generalize scanR a0.data.toList = r at hfew cS cI
    obtain ⟨ps, nx⟩ := r
    replace hfew : ps.length ≤ 60000 := hfew
    have hq1 : ((((1 + ps.length : Nat) : Int)) != ((1 + ps.length : Nat) : Int)) = false := by simp
    have hq0 : decide (((1 + ps.length : Nat) : Int) < 0) = false := by simp; omega
    have hnx : ((nx : Int) != (nx : Int)) = false := by simp
    go_enter Try.func6, Try.ntmps6
    go_wp2_with fail
    refine (unhide (cS _)).mono ?_
    rintro e w1 ⟨vs, rfl, hos, hb1⟩
    go_wp2_with fail
    refine (unhide (cI _)).mono ?_
    rintro e w2 ⟨vg, rfl, hog, hb2⟩
    have hos2 := ownsRow_below hos hb2
    have hap := rows_apart hos hog
    go_wp2_with fail
    refine (eqStrs_any vg vs _ _ ps _ hog hos2 (by omega)).mono ?_
    rintro e w3 ⟨rfl, hb3⟩
    have hos3 := ownsRow_below hos2 hb3
    have hog3 := ownsRow_below hog hb3
    go_wp2_with fail
    refine (markStrs_one vg _ ps _ hog3 (by omega)).mono ?_
    rintro e w4 ⟨rfl, hog4, hg4⟩
    have hos4 := hos3.kept hg4 hap
    go_wp2_with fail
    refine (heldStrs_one vg _ ps.length _ hog4 (by omega)).mono ?_
    rintro e w5 ⟨rfl, hb5⟩
    have hos5 := ownsRow_below hos4 hb5
    have hog5 := ownsRow_below hog4 hb5
    go_wp2_with fail
    refine (unhide (cI _)).mono ?_
    rintro e w6 ⟨vh, rfl, hoh, hb6⟩
    have hos6 := ownsRow_below hos5 hb6
    have hog6 := ownsRow_below hog5 hb6
    go_wp2_with fail
    refine (eqStrs_any vh vs _ _ ps _ hoh hos6 (by omega)).mono ?_
    rintro e w7 ⟨rfl, hb7⟩
    have hog7 := ownsRow_below hog6 hb7
    go_wp2_with fail
    refine (heldStrs_one vg _ ps.length _ hog7 (by omega)).mono ?_
    rintro e w8 ⟨rfl, hb8⟩
    have t1 : Below w.heap.size w w3 := hb1.trans ((hb2.mono hb1.size).trans (hb3.mono (Nat.le_trans hb1.size hb2.size)))
    have t2 : Below w.heap.size w w4 := t1.grown hg4 t1.size (fun k hk => Nat.le_trans hb1.size (hog3.lt k hk).1)
    have t3 : Below w.heap.size w w5 := t2.trans (hb5.mono t2.size)
    have t4 : Below w.heap.size w w6 := t3.trans (hb6.mono t3.size)
    have t5 : Below w.heap.size w w7 := t4.trans (hb7.mono t4.size)
    have t6 : Below w.heap.size w w8 := t5.trans (hb8.mono t5.size)
    clear hos hog hos2 hog3 hos3 hos4 hog4 hos5 hog5 hos6 hog6 hog7 hoh
    go_wp2
    go_ret
    exact ⟨rfl, t6⟩

set_option maxRecDepth 100000 in
theorem lifted (os : Os) (started : os.Started) (H : Type) (enc : TypeId × Value → H) :
    ReturnsInHanded {} Try.checked os 6 .any (Rows.fnExactScanOfSpec.pre6 enc Try.prog Try.f6 Rows.fnExactScanOfRow.domain false) (Rows.fnExactScanOfSpec.post enc Try.prog Try.f6 false true false false) := by
  refine returnsInHanded_of_change (C := Try.checked) own started (by kernel_rfl) Try.func6
    (ChangeSpec.witness6 (enc := enc) (C := Try.checked) false ⟨#[], #[.string ByteArray.empty], []⟩ 8 (by kernel_rfl) (by kernel_rfl) (by kernel_rfl) (by kernel_rfl)) ?_
  intro W base args ds gs before hval0 hW hcnd _
  have hval : ∀ (j : Nat) t v, Try.f6.params[j]? = some t → args[j]? = some v → Value.okWide Try.prog W .any base t v := hval0
  have hW' := hW
  obtain ⟨p, q, hA0, hV, rfl, hfz, hnd⟩ := hW
  have hA : DataW.TrodAll enc Try.prog W 0 (fun _ => true) true Try.f6.params.toList args.toList ds p := hA0
  rw [Try.params6] at hA hval
  obtain ⟨v0, vs0, d0, ds0, p0, q0, hargs, rfl, rfl, h0, r0⟩ := trodAll_cons hA
  obtain ⟨rfl, rfl, rfl⟩ := trodAll_nil r0
  obtain rfl : args = #[v0] := by cases args; simp_all
  obtain ⟨rfl, rfl⟩ := trodVars_none hV
  obtain ⟨a0, rfl, rfl, rfl, w0⟩ := open_string Try.underlying9 (hval 0 9 v0 rfl rfl) h0
  clear hA0 hval0
  refine (walk a0 w0 W).mono fun e W' ⟨he, bel⟩ => ?_
  subst he
  exact ⟨_, rfl, _, _, _, [], _, [], hW', trodAll_mk1 (shut_bool Try.underlying4 _), (trodAll_cons_mk (shut_string Try.underlying9 w0) trodAll_mk0), rfl, bel.frame _, fun h => by cases h⟩

theorem over : Rows.fnExactScanOfRow.holds Try.pinned (OpenSpec.ofChange Rows.fnExactScanOfSpec) :=
  OpenClaim.holds_of_wide 6 Try.f6 rfl rfl rfl rfl rfl rfl rfl ⟨rfl, rfl, rfl, rfl, rfl⟩ rfl rfl rfl rfl rfl (by kernel_rfl) Try.func6 (by kernel_rfl)
    (of_decide_eq_true (by kernel_rfl)) (by unfold Func.isWrapper; first | (rw [if_pos (by decide +kernel)]; kernel_rfl) | (rw [if_neg (by decide +kernel)]; exact ⟨rfl, rfl⟩))
    (fun os started H enc _ => lifted os started H enc)

end Go.Proofs.Ytoindecmckikcaa.fnExactScanOf
namespace Go.Proofs.Ytoindecmckikcaa
theorem fnExactScanOf_holds : Rows.FnExactScanOfSaid := fnExactScanOf.over
#print axioms fnExactScanOf_holds
end Go.Proofs.Ytoindecmckikcaa
