/- At every line the law FnExactPartsOf answers true: the program's PartsOf answers as the specification's does, its answer is its own memory, and nothing that was there is written. -/
import Derived.Test.YtpkcblnkgonnoahRows
import Derived.WalkKit
import Derived.Test.YtpkcblnkgonnoahPSpec
import Derived.Test.YtpkcblnkgonnoahPImpl
import Derived.Test.YtpkcblnkgonnoahMarkS
import Derived.ProofKit
import Derived.OpenShut
import Derived.ShutString
namespace Go.Proofs.Ytpkcblnkgonnoah.fnExactPartsOf
open Go.ChangeShapes Go.WideShapes Go.ChangeAt Go.RowKit
open Go.ChangeMaps (open_string shut_string)
set_option linter.unusedVariables false      -- a walk need not use every 'w<i>' (that an integer argument fits its kind)

theorem own : ownKnob Try.prog.godebug = none := by kernel_rfl

theorem implParts_all (s : ByteArray) (w : World) : Calls Try.prog 6 #[.string s] w fun e w' => ∃ v, e = .returned (.tuple #[v, .bool (PRes s.data.toList).1]) ∧ w'.ownsRow w.heap.size 9 1 v (PRes s.data.toList).2.length (strs (PRes s.data.toList).2) ∧ Below w.heap.size w w' := by
  by_cases h : s.size ≤ 600
  · exact implParts_any s w h
  · rw [PRes_long _ (by rw [Array.length_toList]; exact Nat.lt_of_not_le h)]
    exact implParts_long s w (by omega)
theorem specParts_all (s : ByteArray) (w : World) : Calls Try.prog 5 #[.string s] w fun e w' => ∃ v, e = .returned (.tuple #[v, .bool (PRes s.data.toList).1]) ∧ w'.ownsRow w.heap.size 9 1 v (PRes s.data.toList).2.length (strs (PRes s.data.toList).2) ∧ Below w.heap.size w w' := by
  by_cases h : s.size ≤ 600
  · exact specParts_any s w h
  · rw [PRes_long _ (by rw [Array.length_toList]; exact Nat.lt_of_not_le h)]
    exact specParts_long s w (by omega)
theorem PRes_few (l : List UInt8) : (PRes l).2.length ≤ 12 := by
  unfold PRes; split
  · rename_i h; exact h.2.2
  · exact Nat.zero_le _
theorem markStrs_one (va : Value) (ba : Nat) (ps : List (List UInt8)) (w : World) (hA : w.ownsRow ba 9 1 va ps.length (strs ps)) (hl : ps.length ≤ 100000) :
    Calls Try.prog 8 #[va, .int .i64 1] w fun e w' => e = .returned (.int .i64 ((1 + ps.length : Nat) : Int)) ∧ w'.ownsRow ba 9 1 va ps.length (strs (marks 1 ps.length)) ∧ w.grownBy w' va.ownBlock :=
  markStrs_any va ba 1 ps w hA hl (by omega) (by omega)
theorem heldStrs_one (va : Value) (ba n : Nat) (w : World) (hA : w.ownsRow ba 9 1 va n (strs (marks 1 n))) (hl : n ≤ 100000) :
    Calls Try.prog 9 #[va, .int .i64 1] w fun e w' => e = .returned (.int .i64 ((1 + n : Nat) : Int)) ∧ Below w.heap.size w w' :=
  heldStrs_any va ba 1 n w hA hl (by omega) (by omega)
theorem rows_apart {w w' : World} {B e e' size size' n n' : Nat} {v v' : Value} {xs xs' : List Value} (h : w.ownsRow B e size v n xs) (h' : w'.ownsRow w.heap.size e' size' v' n' xs') : v.ownBlock = none ∨ v.ownBlock ≠ v'.ownBlock := by
  cases hv : v.ownBlock with
  | none => exact .inl rfl
  | some g =>
    refine .inr (fun e => ?_)
    have h1 := (h.lt g hv).2
    have h2 := (h'.lt g e.symm).1
    omega

theorem walk (a0 : ByteArray) (w0 : a0.size ≤ maxLen) (w : World) :
    Calls Try.prog 3 #[.string a0] w fun e w' => e = .returned (.bool true) ∧ Below w.heap.size w w' := by
  by_cases hbig : 1048576 < a0.size
  · have hB : decide ((1048576 : Int) < (a0.size : Int)) = true := by simp; omega
    go_enter Try.func3, Try.ntmps3
    go_wp2
    go_ret
    exact ⟨rfl, Below.refl _ _⟩
  · have hB : decide ((1048576 : Int) < (a0.size : Int)) = false := by simp; omega
    have hfew := PRes_few a0.data.toList
    have cS := hide (specParts_all a0)
    have cI := hide (implParts_all a0)
    generalize PRes a0.data.toList = r at hfew cS cI
    obtain ⟨rb, ps⟩ := r
    replace hfew : ps.length ≤ 12 := hfew
    have hq1 : ((((1 + ps.length : Nat) : Int)) != ((1 + ps.length : Nat) : Int)) = false := by simp
    have hq0 : decide (((1 + ps.length : Nat) : Int) < 0) = false := by simp; omega
    go_enter Try.func3, Try.ntmps3
    go_wp2_with fail
    refine (unhide cS _).mono ?_
    rintro e w1 ⟨vs, rfl, hos, hb1⟩
    go_wp2_with fail
    refine (unhide cI _).mono ?_
    rintro e w2 ⟨vg, rfl, hog, hb2⟩
    have hos2 := ownsRow_below hos hb2
    have hap := rows_apart hos hog
    go_wp2_with fail
    refine (eqStrs_any vg vs _ _ ps _ hog hos2 (by omega)).mono ?_
    rintro e w3 ⟨rfl, hb3⟩
    have hos3 := ownsRow_below hos2 hb3
    have hog3 := ownsRow_below hog hb3
    go_wp2_with fail
    refine (markStrs_one vg _ ps _ hog3 (by omega)).mono ?_
    rintro e w4 ⟨rfl, hog4, hg4⟩
    have hos4 := hos3.kept hg4 hap
    go_wp2_with fail
    refine (heldStrs_one vg _ ps.length _ hog4 (by omega)).mono ?_
    rintro e w5 ⟨rfl, hb5⟩
    have hos5 := ownsRow_below hos4 hb5
    have hog5 := ownsRow_below hog4 hb5
    go_wp2_with fail
    refine (unhide cI _).mono ?_
    rintro e w6 ⟨vh, rfl, hoh, hb6⟩
    have hos6 := ownsRow_below hos5 hb6
    have hog6 := ownsRow_below hog5 hb6
    go_wp2_with fail
    refine (eqStrs_any vh vs _ _ ps _ hoh hos6 (by omega)).mono ?_
    rintro e w7 ⟨rfl, hb7⟩
    have hog7 := ownsRow_below hog6 hb7
    go_wp2_with fail
    refine (heldStrs_one vg _ ps.length _ hog7 (by omega)).mono ?_
    rintro e w8 ⟨rfl, hb8⟩
    have t1 : Below w.heap.size w w3 := hb1.trans ((hb2.mono hb1.size).trans (hb3.mono (Nat.le_trans hb1.size hb2.size)))
    have t2 : Below w.heap.size w w4 := t1.grown hg4 t1.size (fun k hk => Nat.le_trans hb1.size (hog3.lt k hk).1)
    have t3 : Below w.heap.size w w5 := t2.trans (hb5.mono t2.size)
    have t4 : Below w.heap.size w w6 := t3.trans (hb6.mono t3.size)
    have t5 : Below w.heap.size w w7 := t4.trans (hb7.mono t4.size)
    have t6 : Below w.heap.size w w8 := t5.trans (hb8.mono t5.size)
    clear hos hog hos2 hog3 hos3 hos4 hog4 hos5 hog5 hos6 hog6 hog7 hoh
    go_wp2
    go_ret
    exact ⟨rfl, t6⟩

/-! ### THE ROW's STEP: WRITTEN OUT: LEAVE IT -/
set_option maxRecDepth 100000 in
theorem lifted (os : Os) (started : os.Started) (H : Type) (enc : TypeId × Value → H) :
    ReturnsInHanded {} Try.checked os 3 .any (Rows.fnExactPartsOfSpec.pre6 enc Try.prog Try.f3 Rows.fnExactPartsOfRow.domain false) (Rows.fnExactPartsOfSpec.post enc Try.prog Try.f3 false true false false) := by
  refine returnsInHanded_of_change (C := Try.checked) own started (by kernel_rfl) Try.func3
    (ChangeSpec.witness6 (enc := enc) (C := Try.checked) false ⟨#[], #[.string ByteArray.empty], []⟩ 8 (by kernel_rfl) (by kernel_rfl) (by kernel_rfl) (by kernel_rfl)) ?_
  intro W base args ds gs before hval0 hW hcnd _
  have hval : ∀ (j : Nat) t v, Try.f3.params[j]? = some t → args[j]? = some v → Value.okWide Try.prog W .any base t v := hval0
  have hW' := hW
  obtain ⟨p, q, hA0, hV, rfl, hfz, hnd⟩ := hW
  have hA : DataW.TrodAll enc Try.prog W 0 (fun _ => true) true Try.f3.params.toList args.toList ds p := hA0
  rw [Try.params3] at hA hval
  obtain ⟨v0, vs0, d0, ds0, p0, q0, hargs, rfl, rfl, h0, r0⟩ := trodAll_cons hA
  obtain ⟨rfl, rfl, rfl⟩ := trodAll_nil r0
  obtain rfl : args = #[v0] := by cases args; simp_all
  obtain ⟨rfl, rfl⟩ := trodVars_none hV
  obtain ⟨a0, rfl, rfl, rfl, w0⟩ := open_string Try.underlying9 (hval 0 9 v0 rfl rfl) h0
  clear hA0 hval0
  refine (walk a0 w0 W).mono fun e W' ⟨he, bel⟩ => ?_
  subst he
  exact ⟨_, rfl, _, _, _, [], _, [], hW', trodAll_mk1 (shut_bool Try.underlying4 _), (trodAll_cons_mk (shut_string Try.underlying9 w0) trodAll_mk0), rfl, bel.frame _, fun h => by cases h⟩

theorem over : Rows.fnExactPartsOfRow.holds Try.pinned (OpenSpec.ofChange Rows.fnExactPartsOfSpec) :=
  OpenClaim.holds_of_wide 3 Try.f3 rfl rfl rfl rfl rfl rfl rfl ⟨rfl, rfl, rfl, rfl, rfl⟩ rfl rfl rfl rfl rfl (by kernel_rfl) Try.func3 (by kernel_rfl)
    (of_decide_eq_true (by kernel_rfl)) (by unfold Func.isWrapper; first | (rw [if_pos (by decide +kernel)]; kernel_rfl) | (rw [if_neg (by decide +kernel)]; exact ⟨rfl, rfl⟩))
    (fun os started H enc _ => lifted os started H enc)

end Go.Proofs.Ytpkcblnkgonnoah.fnExactPartsOf
namespace Go.Proofs.Ytpkcblnkgonnoah
theorem fnExactPartsOf_holds : Rows.FnExactPartsOfSaid := fnExactPartsOf.over
#print axioms fnExactPartsOf_holds
end Go.Proofs.Ytpkcblnkgonnoah
