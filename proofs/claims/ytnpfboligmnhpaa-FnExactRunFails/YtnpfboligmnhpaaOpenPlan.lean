/- A plan that came in, opened: its edges lie in old memory. -/
import Derived.Test.YtnpfboligmnhpaaEdgeHelp
import Derived.WalkKit
import Derived.ProofKit
import Derived.OpenShut
import Derived.SliceStrings
import Derived.Deep.Slices
import Derived.Deep.Strs
import Derived.Lib.SmallJoins
namespace Go.Proofs.Ytnpfboligmnhpaa
open Go.ChangeShapes Go.WideShapes Go.ChangeAt Go.RowKit Go.Deep
set_option linter.unusedVariables false

theorem cellsPlan : Try.prog.cellsOf 44 = 5 := by kernel_rfl
theorem cellsEdge : Try.prog.cellsOf 109 = 2 := by kernel_rfl
theorem cellsIntP : Try.prog.cellsOf 3 = 1 := by kernel_rfl
theorem cellsEdges : Try.prog.cellsOf 42 = 1 := by kernel_rfl
set_option maxRecDepth 100000 in
theorem open_edge {H : Type} {enc : TypeId × Value → H} {w : World} {base : Nat} {spare : Nat → Bool} {held : Bool} {n : Nat} {cs : List Value} {x : DataW H × List MemPlace}
    (h : DataW.trod enc Try.prog w base spare held n 109 cs = some x) : ∃ f : EdgeL, cs = [.int .i64 f.fr, .int .i64 f.dst] := by
  obtain ⟨y0, y1, k, _, hl, h0, h1⟩ := trod_struct2 Try.underlying109 h
  rw [cellsEdge] at hl
  match cs, hl with
  | [v0, v1], _ =>
    simp only [cellsIntP, List.drop_zero, List.drop_succ_cons, List.take_succ_cons, List.take_zero] at h0 h1
    obtain ⟨i0, e0, _, b0⟩ := DataW.trod_int Try.underlying3 h0
    obtain ⟨i1, e1, _, b1⟩ := DataW.trod_int Try.underlying3 h1
    simp only [List.cons.injEq, and_true] at e0 e1
    subst e0; subst e1
    exact ⟨⟨i0, i1⟩, rfl⟩
set_option maxRecDepth 100000 in
theorem open_plan {H : Type} {enc : TypeId × Value → H} {w : World} {base b0 : Nat} {spare : Nat → Bool} {held : Bool} {r : Go.Reach} {v : Value} {d : DataW H} {p : List MemPlace}
    (hv : Value.okWide Try.prog w r b0 44 v) (h : DataW.Trod enc Try.prog w base spare held 44 v d p) :
    ∃ (a : Option Addr) (cap : Nat) (q : PlanL), v = planV q (.slice a q.edges.length cap) ∧ q.edges.length ≤ 9223372036854775807 ∧ EdgesIn w w.heap.size a q.edges := by
  obtain ⟨cs, rfl, hsz⟩ := okWide_struct Try.underlying44 hv
  rw [cellsPlan] at hsz
  obtain ⟨fuel, hf⟩ := h
  obtain ⟨xs, k, _, _, hl, hlen, hg⟩ := DataW.trod_struct Try.underlying44 hf
  have hcs : ∃ c0 c1 c2 c3 c4, cs = #[c0, c1, c2, c3, c4] := by
    match cs, hsz with
    | ⟨[c0, c1, c2, c3, c4]⟩, _ => exact ⟨c0, c1, c2, c3, c4, rfl⟩
  obtain ⟨c0, c1, c2, c3, c4, rfl⟩ := hcs
  obtain ⟨y0, y1, y2, y3, y4, rfl⟩ : ∃ y0 y1 y2 y3 y4, xs = [y0, y1, y2, y3, y4] := by
    match xs, hlen with
    | [y0, y1, y2, y3, y4], _ => exact ⟨y0, y1, y2, y3, y4, rfl⟩
  have h0 : DataW.trod enc Try.prog w base spare held k 3 [c0] = some y0 := by simpa [Value.cells, cellsIntP] using hg 0 _ rfl
  have h1 : DataW.trod enc Try.prog w base spare held k 3 [c1] = some y1 := by simpa [Value.cells, cellsIntP] using hg 1 _ rfl
  have h2 : DataW.trod enc Try.prog w base spare held k 3 [c2] = some y2 := by simpa [Value.cells, cellsIntP] using hg 2 _ rfl
  have h3 : DataW.trod enc Try.prog w base spare held k 3 [c3] = some y3 := by simpa [Value.cells, cellsIntP] using hg 3 _ rfl
  have h4 : DataW.trod enc Try.prog w base spare held k 42 [c4] = some y4 := by simpa [Value.cells, cellsEdges] using hg 4 _ rfl
  obtain ⟨i0, e0, _, _⟩ := DataW.trod_int Try.underlying3 h0
  obtain ⟨i1, e1, _, _⟩ := DataW.trod_int Try.underlying3 h1
  obtain ⟨i2, e2, _, _⟩ := DataW.trod_int Try.underlying3 h2
  obtain ⟨i3, e3, _, _⟩ := DataW.trod_int Try.underlying3 h3
  simp only [List.cons.injEq, and_true] at e0 e1 e2 e3
  subst e0; subst e1; subst e2; subst e3
  rcases open_slice Try.underlying42 h4 with ⟨e, _⟩ | ⟨a, len, cap, m, n, D, Pl, e, _, hl2, hm, hmm, _, hx⟩
  · simp at e
    subst e
    exact ⟨none, 0, ⟨i0, i1, i2, i3, []⟩, rfl, by simp, fun j hj => by simp at hj⟩
  · simp at e
    subst e
    have hlm : len ≤ m := by rw [hmm]; split <;> omega
    have each : ∀ i, i < m → ∃ f : EdgeL, ∀ q, q < 2 → w.cell? ((a.add (i * 2)).add q) = [Value.int .i64 f.fr, .int .i64 f.dst][q]? := by
      intro i hi
      obtain ⟨cs', h1, h2⟩ := hx i hi
      rw [cellsEdge] at h1
      obtain ⟨_, hlen, hcell⟩ := World.cells?_some h1
      obtain ⟨f, rfl⟩ := open_edge h2
      exact ⟨f, hcell⟩
    have inh : Inhabited EdgeL := ⟨⟨0, 0⟩⟩
    obtain ⟨F, hF⟩ := choose_lt each
    refine ⟨some a, cap, ⟨i0, i1, i2, i3, (List.range len).map F⟩, by simp [planV], ?_, ?_⟩
    · unfold maxLen at hm; simp; omega
    · intro j hj
      have hj1 : j < len := by simpa using hj
      have hc := hF j (by omega)
      have h00 := World.cell?_spot ((hF 0 (by omega)) 0 (by omega))
      obtain ⟨b, off, spot⟩ := a
      have hspot : spot = none := by simpa [Addr.add] using h00
      subst hspot
      have g0 := hc 0 (by omega)
      have g1 := hc 1 (by omega)
      simp only [add_plain, Nat.add_zero, List.getElem?_cons_zero, List.getElem?_cons_succ] at g0 g1
      simp only [List.getElem_map, List.getElem_range]
      exact ⟨b, off, rfl, World.block_lt_of_cell? w _ g0, g0, g1⟩
end Go.Proofs.Ytnpfboligmnhpaa
