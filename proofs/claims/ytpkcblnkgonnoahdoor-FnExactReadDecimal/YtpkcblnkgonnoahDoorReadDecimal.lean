/- At every text the law FnExactReadDecimal answers true: the program's ReadDecimal answers as the specification's does; the listed tables and errors of Go's library hold what the program's text lays in them. -/
import Derived.Test.YtpkcblnkgonnoahDoorLaid
import Derived.Test.YtpkcblnkgonnoahDoorRdW
namespace Go.Proofs.YtpkcblnkgonnoahDoor.fnExactReadDecimal
open Go.ChangeShapes Go.WideShapes Go.ChangeAt Go.RowKit
open Go.ChangeMaps (open_string shut_string)
set_option linter.unusedVariables false

theorem laid_iface {n nm : String} {d : DataW Unit} {r : List (String × DataW Unit)} {W : World} {g ti : Nat} {ms : Array (String × TypeId)} (h : laidMet Tryd.prog ((n, .iface nm d) :: r) W)
    (hg : Tryd.prog.globalNamed n = some g) (ht : (Tryd.prog.globals[g]?).map (·.type) = some ti) (hi : Tryd.prog.underlying ti = some (.interface ms)) : ∃ u v, W.cell? ⟨g, 0, none⟩ = some (.iface u v) := by
  obtain ⟨ps, ⟨g0, t0, cs0, f0, p0, q0, hg0, ht0, hv0, hd0, _, e0⟩, _, _⟩ := h
  obtain rfl := Option.some.inj (hg.symm.trans hg0)
  obtain rfl := Option.some.inj (ht.symm.trans ht0)
  obtain ⟨l0⟩ := cs0
  obtain ⟨f1, u, v, hl, _, _⟩ := iface_of_trod hi hd0
  replace hl : l0 = [.iface u v] := hl
  subst hl
  exact ⟨u, v, by simpa using World.var?_cell hg0 hv0 0⟩
theorem errs {W : World} (h : laidMetH Tryd.prog Rows.fnExactReadDecimalRow.laid W) : Pow W ∧ (∃ u v, W.cell? ⟨0, 0, none⟩ = some (.iface u v)) ∧ (∃ u v, W.cell? ⟨1, 0, none⟩ = some (.iface u v)) := by
  have h1 : laidMet Tryd.prog Rows.fnExactReadDecimalRow.laid W := h
  have h2 := laidMet.tail (laidMet.tail h1)
  have h3 := laidMet.tail h2
  have h4 := laidMet.tail h3
  exact ⟨pow_tail h2, laid_iface (g := 0) (ti := 30) h4 (by kernel_rfl) (by kernel_rfl) Tryd.underlying30, laid_iface (g := 1) (ti := 30) h3 (by kernel_rfl) (by kernel_rfl) Tryd.underlying30⟩

set_option maxHeartbeats 400000 in
theorem walk (s : ByteArray) (w : World) (ht : Pow w) (c0 : ∃ u v, w.cell? ⟨0, 0, none⟩ = some (.iface u v)) (c1 : ∃ u v, w.cell? ⟨1, 0, none⟩ = some (.iface u v)) :
    Calls Tryd.prog 4 #[.string s] w fun e w' => e = .returned (.bool true) ∧ Below w.heap.size w w' := by
  by_cases hbig : 1048576 < s.size
  · have hB : decide ((1048576 : Int) < (s.size : Int)) = true := by simp; omega
    clear ht c0 c1
    go_enter Tryd.func4, Tryd.ntmps4
    go_wp2
    go_ret
    exact ⟨rfl, Below.refl _ _⟩
  · have hB : decide ((1048576 : Int) < (s.size : Int)) = false := by simp; omega
    have key : ∀ w1, Below w.heap.size w w1 → Calls Tryd.prog 8 #[.string s] w1 fun e w' => e = .returned (rdRes s.data.toList) ∧ Below w1.heap.size w1 w' := fun w1 hb1 => by
      obtain ⟨u0, v0, c0⟩ := c0
      obtain ⟨u1, v1, c1⟩ := c1
      exact implRd_any s w1 (by omega) (fun w' hb' => pow_below (hb1.trans (hb'.mono hb1.size)) ht) _ _ (cell_later hb1 c0) (.inr ⟨_, _, rfl⟩) (cell_later hb1 c1) (.inr ⟨_, _, rfl⟩)
    have K := hide key
    clear ht c0 c1 key
    cases hr : rd s.data.toList with
    | none =>
      have R := hide (rdRes_none _ hr)
      clear hr
      go_enter Tryd.func4, Tryd.ntmps4
      go_wp2_with fail
      refine (specRd_any s _).mono ?_
      rintro e w1 ⟨rfl, hb1⟩
      rw [unhide R]
      go_wp2_with fail
      refine (unhide K w1 hb1).mono ?_
      rintro e w2 ⟨rfl, hb2⟩
      rw [unhide R]
      go_wp2
      go_ret
      exact ⟨rfl, hb1.trans (hb2.mono hb1.size)⟩
    | some n =>
      have R := hide (rdRes_some _ _ hr)
      clear hr
      go_enter Tryd.func4, Tryd.ntmps4
      go_wp2_with fail
      refine (specRd_any s _).mono ?_
      rintro e w1 ⟨rfl, hb1⟩
      rw [unhide R]
      go_wp2_with fail
      refine (unhide K w1 hb1).mono ?_
      rintro e w2 ⟨rfl, hb2⟩
      rw [unhide R]
      go_wp2
      go_ret
      exact ⟨rfl, hb1.trans (hb2.mono hb1.size)⟩

theorem contract (H : Type) (enc : TypeId × Value → H) (W : World) (base : Nat) (args : Array Value) (ds gs : List (DataW H)) (before : List MemPlace)
    (hval : ∀ (j : Nat) t v, Tryd.f4.params[j]? = some t → args[j]? = some v → Value.okWide Tryd.prog W .any base t v)
    (hW : DataW.Whole enc Tryd.prog Tryd.f4.params.toList Rows.fnExactReadDecimalSpec.vars false W args.toList ds gs before) (hL : laidMetH Tryd.prog Rows.fnExactReadDecimalRow.laid W) :
    Calls Tryd.prog 4 args W fun e W' => ∃ v, e = .returned v ∧ Rows.fnExactReadDecimalSpec.post enc Tryd.prog Tryd.f4 false true false false W args v W' := by
  have hW' := hW
  obtain ⟨p, q, hA0, hV, rfl, hfz, hnd⟩ := hW
  have hA : DataW.TrodAll enc Tryd.prog W 0 (fun _ => true) true Tryd.f4.params.toList args.toList ds p := hA0
  rw [Tryd.params4] at hA hval
  obtain ⟨v0, vs0, d0, ds0, p0, q0, hargs, rfl, rfl, h0, r0⟩ := trodAll_cons hA
  obtain ⟨rfl, rfl, rfl⟩ := trodAll_nil r0
  obtain rfl : args = #[v0] := by cases args; simp_all
  obtain ⟨rfl, rfl⟩ := trodVars_none hV
  obtain ⟨s, rfl, rfl, rfl, ws⟩ := open_string Tryd.underlying9 (hval 0 9 v0 rfl rfl) h0
  clear hA0
  obtain ⟨l1, l2, l3⟩ := errs hL
  refine (walk s W l1 l2 l3).mono fun e W' ⟨he, bel⟩ => ?_
  subst he
  exact ⟨_, rfl, _, _, _, [], _, [], hW', trodAll_mk1 (shut_bool Tryd.underlying4 _), trodAll_cons_mk (shut_string Tryd.underlying9 ws) trodAll_mk0, rfl, bel.frame _, fun h => by cases h⟩

def errText : DataW Unit → ByteArray
  | .iface _ (.ptr (.agg [.lit (.string l)])) => ⟨l.toArray⟩
  | _ => ByteArray.empty
/-- The start, the tables and the errors laid into it. -/
def start (w : World) (low : Nat) : World := patch (patch (patch (patch (patch w 2 (datCells Rows.laid_internal_strconv_uint64pow10)) 3 (datCells Rows.laid_math_bits_deBruijn32tab)) 4 (datCells Rows.laid_math_bits_deBruijn64tab)) 0 #[.iface 62 (.pointer (some ⟨low, 0, none⟩))]) 1 #[.iface 62 (.pointer (some ⟨low + 1, 0, none⟩))]
theorem laid_met (os : Os) : laidMet Tryd.prog Rows.fnExactReadDecimalRow.laid ((start (World.holding Tryd.prog os ⟨#[.cells #[.string (errText Rows.laid_strconv_ErrSyntax)] 64, .cells #[.string (errText Rows.laid_strconv_ErrRange)] 64], #[], []⟩) 10).forCall (fun _ _ => 0) ⟨#[], #[.string ByteArray.empty], []⟩).memory :=
  laidMet_of_run' 8 (by kernel_rfl) (by kernel_rfl)
theorem reads (os : Os) {H : Type} (enc : TypeId × Value → H) : ∃ places, DataW.whole enc Tryd.prog ((start (World.holding Tryd.prog os ⟨#[.cells #[.string (errText Rows.laid_strconv_ErrSyntax)] 64, .cells #[.string (errText Rows.laid_strconv_ErrRange)] 64], #[], []⟩) 10).forCall (fun _ _ => 0) ⟨#[], #[.string ByteArray.empty], []⟩).memory Tryd.f4.params.toList Rows.fnExactReadDecimalSpec.vars false #[Value.string ByteArray.empty].toList 8 = some ([.lit (.string [])], [], places) :=
  ⟨[], by kernel_rfl⟩

set_option maxRecDepth 100000 in
theorem lifted (os : Os) (started : os.Started) (H : Type) (enc : TypeId × Value → H) (F : Stop.Interp) :
    ReturnsInHanded {} Tryd.checked os 4 .any ((OpenSpec.ofChange Rows.fnExactReadDecimalSpec).preRow enc Tryd.prog Tryd.f4 Rows.fnExactReadDecimalRow.domain false Rows.fnExactReadDecimalRow.laid) (((OpenSpec.ofChange Rows.fnExactReadDecimalSpec).at F).post enc Tryd.prog Tryd.f4 false true false false) := by
  obtain ⟨places, hx⟩ := reads os enc
  refine returnsInHanded_of_row (C := Tryd.checked) (s := OpenSpec.ofChange Rows.fnExactReadDecimalSpec) own started (by kernel_rfl) Tryd.func4
    (witness_row_at (enc := enc) (C := Tryd.checked) false (start (World.holding Tryd.prog os ⟨#[.cells #[.string (errText Rows.laid_strconv_ErrSyntax)] 64, .cells #[.string (errText Rows.laid_strconv_ErrRange)] 64], #[], []⟩) 10) #[.string ByteArray.empty] rfl (by kernel_rfl) (by kernel_rfl) (by kernel_rfl)
      (OpenSpec.preRow_of_cond 8 hx (by kernel_rfl) (fun k hk => by cases hk) (by kernel_rfl) (laid_met os))) ?_
  intro W base args ds gs before hval hW _ _ _ hL _ _
  exact contract H enc W base args ds gs before hval hW hL

theorem said : Rows.FnExactReadDecimalSaid :=
  OpenClaim.holds_of_cond 4 Tryd.f4 rfl rfl rfl rfl rfl rfl rfl ⟨rfl, rfl, rfl, rfl, rfl⟩ rfl rfl rfl rfl rfl (by kernel_rfl) Tryd.func4 (by kernel_rfl)
    (of_decide_eq_true (by kernel_rfl)) (by unfold Func.isWrapper; first | (rw [if_pos (by decide +kernel)]; kernel_rfl) | (rw [if_neg (by decide +kernel)]; exact ⟨rfl, rfl⟩))
    (fun os started H enc _ F => by rw [OpenClaim.pre_eq_preRow]; exact lifted os started H enc F)

theorem plain (f : FuncId) (fn : Func) (hf : Tryd.pinned.checked.prog.funcNamed Rows.fnExactReadDecimalRow.func = some f) (hfn : Tryd.pinned.checked.prog.funcs[f]? = some fn) :
    Rows.fnExactReadDecimalCard.stood.looks = Tryd.pinned.checked.prog.looks [] ∧ ∀ (j : Nat) t, fn.params[j]? = some t → Tryd.pinned.checked.prog.wantsStandIn t = false := by
  obtain rfl : f = 4 := Option.some.inj ((show Tryd.prog.funcNamed Rows.fnExactReadDecimalRow.func = some 4 by kernel_rfl).symm.trans hf) |>.symm
  obtain rfl : fn = Tryd.f4 := (Option.some.inj (Tryd.func4.symm.trans hfn)).symm
  refine ⟨by kernel_rfl, fun j t ht => ?_⟩
  rw [Tryd.params4] at ht
  obtain rfl : t = 9 := by simpa using Array.mem_of_getElem? ht
  exact (show Tryd.prog.wantsStandIn 9 = false by kernel_rfl)
end Go.Proofs.YtpkcblnkgonnoahDoor.fnExactReadDecimal
namespace Go.Proofs.YtpkcblnkgonnoahDoor
theorem fnExactReadDecimal_holds : Rows.FnExactReadDecimalCardSaid :=
  Claim7.holds_tied_plain_at .later [] _ _ _ _ fnExactReadDecimal.said (fun _ h => by cases h) (by kernel_rfl) (fun _ h => by cases h) fnExactReadDecimal_row_tie rfl ⟨rfl, rfl⟩ (by kernel_rfl) rfl fnExactReadDecimal.plain (by kernel_rfl)
#print axioms fnExactReadDecimal_holds
end Go.Proofs.YtpkcblnkgonnoahDoor
