/- Runs in the walk of a law over drawn things: what is kept, and what the law asks of a drawn run. Nothing here speaks of the program. -/
import Derived.Test.YtnpfboligmnhpaaSpecRunX
import Derived.Test.YtnpfboligmnhpaaRunOf
import Derived.Test.YtnpfboligmnhpaaRunLaw3
import Derived.Test.YtnpfboligmnhpaaStructBase
import Derived.Test.YtnpfboligmnhpaaSameRun
namespace Go.Proofs.Ytnpfboligmnhpaa
open Go.RowKit
open scoped Classical
set_option linter.unusedVariables false

theorem below_grown8 {w V V' : World} {b : Nat} (hb : Below w.heap.size w V) (hg : V.grownBy V' (some b)) (h : w.heap.size ≤ b) : Below w.heap.size w V' := hb.grown hg hb.size (fun j hj => by have := Option.some.inj hj; omega)
theorem below_on {w W V : World} (h : Below w.heap.size w W) (hb : Below W.heap.size W V) : Below w.heap.size w V := h.trans (hb.mono h.size)
theorem runX_of {w : World} {B : Nat} {ve vt : Value} {r : RunL} (h : RunOwn w B ve vt r) : RunX w B w.heap.size ve vt r := ⟨⟨h.edges, fun g hg => (h.edges.lt g hg).2⟩, ⟨h.tasks, fun g hg => (h.tasks.lt g hg).2⟩⟩
theorem runOwn_base8 {w V : World} {B : Nat} {ve vt : Value} {r : RunL} (h : RunOwn w V.heap.size ve vt r) (hB : B ≤ V.heap.size) : RunOwn w B ve vt r := ⟨ownsRow_baseE h.edges hB, ownsRow_baseE h.tasks hB⟩
theorem runOwn_ge8 {w : World} {B : Nat} {ve vt : Value} {r : RunL} (h : RunOwn w B ve vt r) : ∀ g, (ve.ownBlock = some g ∨ vt.ownBlock = some g) → B ≤ g := fun g hg => hg.elim (fun e => (h.edges.lt g e).1) (fun e => (h.tasks.lt g e).1)
theorem runOwn_lt8 {w : World} {B : Nat} {ve vt : Value} {r : RunL} (h : RunOwn w B ve vt r) : ∀ g, (ve.ownBlock = some g ∨ vt.ownBlock = some g) → g < w.heap.size := fun g hg => hg.elim (fun e => (h.edges.lt g e).2) (fun e => (h.tasks.lt g e).2)
theorem row_kept8 {V V' : World} {b B size n : Nat} {e : TypeId} {v : Value} {xs : List Value} (h : V.ownsRow B e size v n xs) (hg : V.grownBy V' (some b)) (hd : ∀ g, v.ownBlock = some g → g ≠ b) : V'.ownsRow B e size v n xs :=
  h.kept hg (by
    cases hv : v.ownBlock with
    | none => exact .inl rfl
    | some j => exact .inr (fun e => hd j hv (Option.some.inj e)))
theorem runOwn_kept8 {V V' : World} {b B : Nat} {ve vt : Value} {r : RunL} (h : RunOwn V B ve vt r) (hg : V.grownBy V' (some b)) (hd : ∀ g, (ve.ownBlock = some g ∨ vt.ownBlock = some g) → g ≠ b) : RunOwn V' B ve vt r :=
  ⟨row_kept8 h.edges hg (fun g e => hd g (.inl e)), row_kept8 h.tasks hg (fun g e => hd g (.inr e))⟩
theorem slice_at {w : World} {B size n m : Nat} {e : TypeId} {q : Option Addr} {xs : List Value} (h : w.ownsRow B e size (.slice q n m) n xs) (hn : 0 < n) : ∃ g, q = some ⟨g, 0, none⟩ := by
  obtain ⟨a, c, e, k⟩ := ownsRow_shape h
  obtain ⟨g, hg⟩ := k hn
  simp only [Value.slice.injEq] at e
  exact ⟨g, by rw [e.1, hg]⟩
/-- What the law asks of a right run. -/
theorem run_lens {r : RunL} (h : RunOkA r) : r.plan.edges.length ≤ 30 ∧ r.tasks.length ≤ 12 ∧ r.plan.tasks = (r.tasks.length : Int) := by
  obtain ⟨n, F⟩ := facts_of h
  have hm := (fault_none h.2.1).1
  exact ⟨hm.2.2.1, by rw [F.hl]; exact F.n12, by rw [F.hl]; exact F.hn⟩
theorem run_new7 {r : RunL} (h : RunOkA r) : ∃ x, NewIs 7 r.plan x true ∧ RunOkA x ∧ x.plan.edges.length ≤ 30 ∧ x.tasks.length ≤ 12 ∧ (((tinA x.tasks 2).length : Int) + ((tinA x.tasks 1).length : Int) != r.plan.tasks) = false := by
  have W := new_well (id := 7) ⟨by omega, by omega⟩ h.2.1
  have L := run_lens W.ok
  refine ⟨newR 7 r.plan, ⟨fun _ => ⟨rfl, rfl⟩, fun k => absurd ⟨⟨by omega, by omega⟩, h.2.1⟩ k⟩, W.ok, L.1, L.2.1, ?_⟩
  have h2 := new_two 7 r.plan
  have h3 : r.plan.tasks = ((newR 7 r.plan).tasks.length : Int) := L.2.2
  simp only [bne_eq_false_iff_eq]
  omega
theorem run_at {r : RunL} (h : WellR r) {t : Int} (ht : t ∈ tinA r.tasks 3) : ∃ (k : Nat) (a b : RunL) (y : QuadL), t = (k : Int) ∧ DoneIs r t a ∧ FailIs r t b ∧ RunOkA a ∧ RunOkA b ∧ (a.plan.edges.length ≤ 30 ∧ a.tasks.length ≤ 12) ∧ (b.plan.edges.length ≤ 30 ∧ b.tasks.length ≤ 12) ∧
    (k < a.tasks.length ∧ a.tasks[k]? = some y ∧ y.a = 4) ∧ (b.state = 3 → tinA b.tasks 1 = [] ∧ tinA b.tasks 2 = [] ∧ tinA b.tasks 3 = []) := by
  obtain ⟨n, F⟩ := facts_of h.ok
  obtain ⟨⟨h0, h1⟩, h3⟩ := tin_mem.1 ht
  have hk : t.toNat < n := by have := F.hl; omega
  have hr : RunsA r t := ⟨h.ok, ⟨h0, h1⟩, h3⟩
  have wa := done_well h F hk h3
  have wb := (fail_well h F hk h3).1
  have la := run_lens wa.ok
  have lb := run_lens wb.ok
  have hal : (doneR r t.toNat).tasks.length = r.tasks.length := mapT_len _ _
  have hd := done_at r t.toNat (by have := F.hl; omega)
  have hkl : t.toNat < (doneR r t.toNat).tasks.length := by rw [hal]; omega
  refine ⟨t.toNat, doneR r t.toNat, failR r t.toNat, (doneR r t.toNat).tasks[t.toNat], by omega, ⟨fun _ => rfl, fun k => absurd hr k⟩, ⟨fun _ => rfl, fun k => absurd hr k⟩, wa.ok, wb.ok, ⟨la.1, la.2.1⟩, ⟨lb.1, lb.2.1⟩, ⟨hkl, List.getElem?_eq_getElem hkl, ?_⟩, fun hs => failed_none h F hk h3 hs⟩
  rw [← getD_at hkl]; exact hd
theorem run_left {r : RunL} (h : WellR r) : ∃ c, LeftIs r c ∧ RunOkA c ∧ (c.plan.edges.length ≤ 30 ∧ c.tasks.length ≤ 12) ∧ (r.state = 1 → c.state = 4 ∧ tinA c.tasks 3 = []) := by
  obtain ⟨c, hc⟩ := left_ex r
  have e := leftR_is h.ok hc
  have w := (leftR_well h).1
  rw [← e] at w
  have l := run_lens w.ok
  exact ⟨c, hc, w.ok, ⟨l.1, l.2.1⟩, fun hs => by rw [e]; exact left_none h hs⟩
end Go.Proofs.Ytnpfboligmnhpaa
