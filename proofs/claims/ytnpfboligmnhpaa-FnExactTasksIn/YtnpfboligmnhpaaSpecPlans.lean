/- The walks of the specification's BeforeOf, BehindOf and Reaches. -/
import Derived.Test.YtnpfboligmnhpaaSpecBefore
namespace Go.Proofs.Ytnpfboligmnhpaa
open Go.RowKit
open scoped Classical
set_option linter.unusedVariables false
attribute [local go_sem ↓] Go.wp_at_zero Go.wp_at_succ

theorem fault_ex (p : PlanL) : ∃ r : Int, FaultIs p r ∧ 0 ≤ r ∧ r ≤ 4 := by
  by_cases h1 : manyOk p
  · by_cases h2 : edgesIn p
    · by_cases h3 : onceOk p
      · by_cases h4 : noCycle p
        · exact ⟨0, .inr (.inr (.inr (.inr ⟨rfl, h1, h2, h3, h4⟩))), by omega, by omega⟩
        · exact ⟨4, .inr (.inr (.inr (.inl ⟨rfl, h1, h2, h3, h4⟩))), by omega, by omega⟩
      · exact ⟨3, .inr (.inr (.inl ⟨rfl, h1, h2, h3⟩)), by omega, by omega⟩
    · exact ⟨2, .inr (.inl ⟨rfl, h1, h2⟩), by omega, by omega⟩
  · exact ⟨1, .inl ⟨rfl, h1⟩, by omega, by omega⟩
/-- A plan whose fault is 0. -/
theorem fault_none {p : PlanL} (h : FaultIs p 0) : manyOk p ∧ edgesIn p ∧ onceOk p ∧ noCycle p := by
  rcases h with ⟨h, _⟩ | ⟨h, _⟩ | ⟨h, _⟩ | ⟨h, _⟩ | ⟨_, h⟩
  · omega
  · omega
  · omega
  · omega
  · exact h
/-- What BeforeOf and BehindOf answer, r the fault of the plan. -/
def befA (p : PlanL) (r a : Int) : List Int := if r = 0 then risen (fun t => hasE p.edges t a) p.tasks.toNat else []
def behA (p : PlanL) (r a : Int) : List Int := if r = 0 then risen (fun t => hasE p.edges a t) p.tasks.toNat else []
theorem befA_len {p : PlanL} {r a : Int} (h : FaultIs p r) : (befA p r a).length ≤ 12 := by
  unfold befA; split
  · rename_i e; subst e
    have h1 := (fault_none h).1
    have := risen_len (fun t => hasE p.edges t a) p.tasks.toNat
    have := h1.2.1; omega
  · simp
theorem behA_len {p : PlanL} {r a : Int} (h : FaultIs p r) : (behA p r a).length ≤ 12 := by
  unfold behA; split
  · rename_i e; subst e
    have h1 := (fault_none h).1
    have := risen_len (fun t => hasE p.edges a t) p.tasks.toNat
    have := h1.2.1; omega
  · simp
/-- Whether Reaches answers true. -/
def reachA (p : PlanL) (r a b : Int) : Prop := r = 0 ∧ 0 ≤ a ∧ a < p.tasks ∧ 0 ≤ b ∧ b < p.tasks ∧ Reach p.edges a b
theorem specFault_is (va : Value) (ba : Nat) (p : PlanL) (r : Int) (w : World) (hA : w.ownsRow ba 96 2 va p.edges.length (edgesC p.edges)) (hl : p.edges.length ≤ 2000000) (hr : FaultIs p r) :
    Calls Try.prog 62 #[planV p va] w fun e w' => e = .returned (.int .i64 r) ∧ Below w.heap.size w w' :=
  (specFault_any va ba p w hA hl).mono fun e w' ⟨r', he, hf, hb⟩ => ⟨by rw [he, fault_one hf hr], hb⟩
end Go.Proofs.Ytnpfboligmnhpaa
