/- A run that came in, opened: its edges and its tasks lie in old memory. -/
import Derived.Test.YtodlnhmlhpadbaaS5
import Derived.Test.YtodlnhmlhpadbaaS45
import Derived.Test.YtodlnhmlhpadbaaS2
import Derived.Test.YtodlnhmlhpadbaaS4
import Derived.WalkKit
import Derived.ProofKit
import Derived.OpenShut
import Derived.SliceStrings
import Derived.Deep.Slices
import Derived.Deep.Strs
import Derived.Lib.SmallJoins
import Derived.Test.YtodlnhmlhpadbaaS20
namespace Go.Proofs.Ytodlnhmlhpadbaa
open Go.ChangeShapes Go.WideShapes Go.ChangeAt Go.RowKit Go.Deep
set_option linter.unusedVariables false

theorem cellsRunL : Try.prog.cellsOf 97 = 8 := by kernel_rfl
theorem cellsTaskL : Try.prog.cellsOf 133 = 4 := by kernel_rfl
theorem cellsTasksL : Try.prog.cellsOf 95 = 1 := by kernel_rfl
set_option maxRecDepth 100000 in
theorem open_taskC {H : Type} {enc : TypeId × Value → H} {w : World} {base : Nat} {spare : Nat → Bool} {held : Bool} {n : Nat} {cs : List Value} {x : DataW H × List MemPlace}
    (h : DataW.trod enc Try.prog w base spare held n 133 cs = some x) : ∃ f : QuadL, cs = qcs f := by
  obtain ⟨xs, k, _, _, hl, hlen, hg⟩ := DataW.trod_struct Try.underlying133 h
  rw [cellsTaskL] at hl
  match cs, hl with
  | [c0, c1, c2, c3], _ =>
    obtain ⟨y0, y1, y2, y3, rfl⟩ : ∃ y0 y1 y2 y3, xs = [y0, y1, y2, y3] := by
      match xs, hlen with
      | [y0, y1, y2, y3], _ => exact ⟨y0, y1, y2, y3, rfl⟩
    have h0 : DataW.trod enc Try.prog w base spare held k 3 [c0] = some y0 := by simpa [cellsIntP] using hg 0 _ rfl
    have h1 : DataW.trod enc Try.prog w base spare held k 3 [c1] = some y1 := by simpa [cellsIntP] using hg 1 _ rfl
    have h2 : DataW.trod enc Try.prog w base spare held k 3 [c2] = some y2 := by simpa [cellsIntP] using hg 2 _ rfl
    have h3 : DataW.trod enc Try.prog w base spare held k 3 [c3] = some y3 := by simpa [cellsIntP] using hg 3 _ rfl
    obtain ⟨i0, e0, _, _⟩ := DataW.trod_int Try.underlying3 h0
    obtain ⟨i1, e1, _, _⟩ := DataW.trod_int Try.underlying3 h1
    obtain ⟨i2, e2, _, _⟩ := DataW.trod_int Try.underlying3 h2
    obtain ⟨i3, e3, _, _⟩ := DataW.trod_int Try.underlying3 h3
    simp only [List.cons.injEq, and_true] at e0 e1 e2 e3
    subst e0; subst e1; subst e2; subst e3
    exact ⟨⟨i0, i1, i2, i3⟩, rfl⟩
set_option maxRecDepth 100000 in
theorem open_tasksC {H : Type} {enc : TypeId × Value → H} {w : World} {base : Nat} {spare : Nat → Bool} {held : Bool} {k : Nat} {c : Value} {y : DataW H × List MemPlace}
    (h : DataW.trod enc Try.prog w base spare held k 95 [c] = some y) : ∃ (a : Option Addr) (cap : Nat) (fs : List QuadL), c = .slice a fs.length cap ∧ fs.length ≤ 9223372036854775807 ∧ QuadsIn w w.heap.size a fs := by
  rcases open_slice Try.underlying95 h with ⟨e, _⟩ | ⟨a, len, cap, m, n, D, Pl, e, _, hl2, hm, hmm, _, hx⟩
  · simp at e
    subst e
    exact ⟨none, 0, [], rfl, by simp, fun j hj => by simp at hj⟩
  · simp at e
    subst e
    have hlm : len ≤ m := by rw [hmm]; split <;> omega
    have each : ∀ i, i < m → ∃ f : QuadL, ∀ q, q < 4 → w.cell? ((a.add (i * 4)).add q) = (qcs f)[q]? := by
      intro i hi
      obtain ⟨cs', h1, h2⟩ := hx i hi
      rw [cellsTaskL] at h1
      obtain ⟨_, hlen, hcell⟩ := World.cells?_some h1
      obtain ⟨f, rfl⟩ := open_taskC h2
      exact ⟨f, hcell⟩
    have inh : Inhabited QuadL := ⟨⟨0, 0, 0, 0⟩⟩
    obtain ⟨F, hF⟩ := choose_lt each
    refine ⟨some a, cap, (List.range len).map F, by simp, ?_, ?_⟩
    · unfold maxLen at hm; simp; omega
    · intro j hj
      have hj1 : j < len := by simpa using hj
      have hc := hF j (by omega)
      have h00 := World.cell?_spot ((hF 0 (by omega)) 0 (by omega))
      obtain ⟨b, off, spot⟩ := a
      have hspot : spot = none := by simpa [Addr.add] using h00
      subst hspot
      have g0 := hc 0 (by omega)
      have g1 := hc 1 (by omega)
      have g2 := hc 2 (by omega)
      have g3 := hc 3 (by omega)
      simp only [add_plain, Nat.add_zero, qcs, List.getElem?_cons_zero, List.getElem?_cons_succ] at g0 g1 g2 g3
      simp only [List.getElem_map, List.getElem_range]
      exact ⟨b, off, rfl, World.block_lt_of_cell? w _ g0, g0, g1, g2, g3⟩
set_option maxRecDepth 100000 in
theorem open_edgesC {H : Type} {enc : TypeId × Value → H} {w : World} {base : Nat} {spare : Nat → Bool} {held : Bool} {k : Nat} {c : Value} {y : DataW H × List MemPlace}
    (h : DataW.trod enc Try.prog w base spare held k 92 [c] = some y) : ∃ (a : Option Addr) (cap : Nat) (fs : List EdgeL), c = .slice a fs.length cap ∧ fs.length ≤ 9223372036854775807 ∧ EdgesIn w w.heap.size a fs := by
  rcases open_slice Try.underlying92 h with ⟨e, _⟩ | ⟨a, len, cap, m, n, D, Pl, e, _, hl2, hm, hmm, _, hx⟩
  · simp at e
    subst e
    exact ⟨none, 0, [], rfl, by simp, fun j hj => by simp at hj⟩
  · simp at e
    subst e
    have hlm : len ≤ m := by rw [hmm]; split <;> omega
    have each : ∀ i, i < m → ∃ f : EdgeL, ∀ q, q < 2 → w.cell? ((a.add (i * 2)).add q) = [Value.int .i64 f.fr, .int .i64 f.dst][q]? := by
      intro i hi
      obtain ⟨cs', h1, h2⟩ := hx i hi
      rw [cellsEdge] at h1
      obtain ⟨_, hlen, hcell⟩ := World.cells?_some h1
      obtain ⟨f, rfl⟩ := open_edge h2
      exact ⟨f, hcell⟩
    have inh : Inhabited EdgeL := ⟨⟨0, 0⟩⟩
    obtain ⟨F, hF⟩ := choose_lt each
    refine ⟨some a, cap, (List.range len).map F, by simp, ?_, ?_⟩
    · unfold maxLen at hm; simp; omega
    · intro j hj
      have hj1 : j < len := by simpa using hj
      have hc := hF j (by omega)
      have h00 := World.cell?_spot ((hF 0 (by omega)) 0 (by omega))
      obtain ⟨b, off, spot⟩ := a
      have hspot : spot = none := by simpa [Addr.add] using h00
      subst hspot
      have g0 := hc 0 (by omega)
      have g1 := hc 1 (by omega)
      simp only [add_plain, Nat.add_zero, List.getElem?_cons_zero, List.getElem?_cons_succ] at g0 g1
      simp only [List.getElem_map, List.getElem_range]
      exact ⟨b, off, rfl, World.block_lt_of_cell? w _ g0, g0, g1⟩
set_option maxRecDepth 100000 in
theorem open_planC {H : Type} {enc : TypeId × Value → H} {w : World} {base : Nat} {spare : Nat → Bool} {held : Bool} {n : Nat} {cs : List Value} {x : DataW H × List MemPlace}
    (h : DataW.trod enc Try.prog w base spare held n 94 cs = some x) : ∃ (a : Option Addr) (cap : Nat) (q : PlanL), cs = [.int .i64 q.prio, .int .i64 q.most, .int .i64 q.wait, .int .i64 q.tasks, .slice a q.edges.length cap] ∧ q.edges.length ≤ 9223372036854775807 ∧ EdgesIn w w.heap.size a q.edges := by
  obtain ⟨xs, k, _, _, hl, hlen, hg⟩ := DataW.trod_struct Try.underlying94 h
  rw [cellsPlan] at hl
  match cs, hl with
  | [c0, c1, c2, c3, c4], _ =>
    obtain ⟨y0, y1, y2, y3, y4, rfl⟩ : ∃ y0 y1 y2 y3 y4, xs = [y0, y1, y2, y3, y4] := by
      match xs, hlen with
      | [y0, y1, y2, y3, y4], _ => exact ⟨y0, y1, y2, y3, y4, rfl⟩
    have h0 : DataW.trod enc Try.prog w base spare held k 3 [c0] = some y0 := by simpa [cellsIntP] using hg 0 _ rfl
    have h1 : DataW.trod enc Try.prog w base spare held k 3 [c1] = some y1 := by simpa [cellsIntP] using hg 1 _ rfl
    have h2 : DataW.trod enc Try.prog w base spare held k 3 [c2] = some y2 := by simpa [cellsIntP] using hg 2 _ rfl
    have h3 : DataW.trod enc Try.prog w base spare held k 3 [c3] = some y3 := by simpa [cellsIntP] using hg 3 _ rfl
    have h4 : DataW.trod enc Try.prog w base spare held k 92 [c4] = some y4 := by simpa [cellsEdges] using hg 4 _ rfl
    obtain ⟨i0, e0, _, _⟩ := DataW.trod_int Try.underlying3 h0
    obtain ⟨i1, e1, _, _⟩ := DataW.trod_int Try.underlying3 h1
    obtain ⟨i2, e2, _, _⟩ := DataW.trod_int Try.underlying3 h2
    obtain ⟨i3, e3, _, _⟩ := DataW.trod_int Try.underlying3 h3
    simp only [List.cons.injEq, and_true] at e0 e1 e2 e3
    subst e0; subst e1; subst e2; subst e3
    obtain ⟨a, cap, fs, rfl, hle, hin⟩ := open_edgesC h4
    exact ⟨a, cap, ⟨i0, i1, i2, i3, fs⟩, rfl, hle, hin⟩
set_option maxRecDepth 100000 in
theorem open_run {H : Type} {enc : TypeId × Value → H} {w : World} {base b0 : Nat} {spare : Nat → Bool} {held : Bool} {r : Go.Reach} {v : Value} {d : DataW H} {p : List MemPlace}
    (hv : Value.okWide Try.prog w r b0 97 v) (h : DataW.Trod enc Try.prog w base spare held 97 v d p) :
    ∃ (a b : Option Addr) (c e : Nat) (q : RunL), v = runV q (.slice a q.plan.edges.length c) (.slice b q.tasks.length e) ∧ q.plan.edges.length ≤ 9223372036854775807 ∧ q.tasks.length ≤ 9223372036854775807 ∧ RunIn w w.heap.size a b q := by
  obtain ⟨cs, rfl, hsz⟩ := okWide_struct Try.underlying97 hv
  rw [cellsRunL] at hsz
  obtain ⟨fuel, hf⟩ := h
  obtain ⟨xs, k, _, _, hl, hlen, hg⟩ := DataW.trod_struct Try.underlying97 hf
  have hcs : ∃ c0 c1 c2 c3 c4 c5 c6 c7, cs = #[c0, c1, c2, c3, c4, c5, c6, c7] := by
    match cs, hsz with
    | ⟨[c0, c1, c2, c3, c4, c5, c6, c7]⟩, _ => exact ⟨c0, c1, c2, c3, c4, c5, c6, c7, rfl⟩
  obtain ⟨c0, c1, c2, c3, c4, c5, c6, c7, rfl⟩ := hcs
  obtain ⟨y0, y1, y2, y3, rfl⟩ : ∃ y0 y1 y2 y3, xs = [y0, y1, y2, y3] := by
    match xs, hlen with
    | [y0, y1, y2, y3], _ => exact ⟨y0, y1, y2, y3, rfl⟩
  have h0 : DataW.trod enc Try.prog w base spare held k 3 [c0] = some y0 := by simpa [Value.cells, cellsIntP] using hg 0 _ rfl
  have h1 : DataW.trod enc Try.prog w base spare held k 94 [c1, c2, c3, c4, c5] = some y1 := by simpa [Value.cells, cellsPlan] using hg 1 _ rfl
  have h2 : DataW.trod enc Try.prog w base spare held k 3 [c6] = some y2 := by simpa [Value.cells, cellsIntP] using hg 2 _ rfl
  have h3 : DataW.trod enc Try.prog w base spare held k 95 [c7] = some y3 := by simpa [Value.cells, cellsTasksL] using hg 3 _ rfl
  obtain ⟨i0, e0, _, _⟩ := DataW.trod_int Try.underlying3 h0
  obtain ⟨i2, e2, _, _⟩ := DataW.trod_int Try.underlying3 h2
  obtain ⟨a, cap, q, e1, hle, hin⟩ := open_planC h1
  obtain ⟨b, cap2, fs, rfl, hle2, hin2⟩ := open_tasksC h3
  simp only [List.cons.injEq, and_true] at e0 e1 e2
  obtain ⟨rfl, rfl, rfl, rfl, rfl⟩ := e1
  subst e0; subst e2
  exact ⟨a, b, cap, cap2, ⟨i0, q, i2, fs⟩, rfl, hle, hle2, ⟨hin, hin2⟩⟩
end Go.Proofs.Ytodlnhmlhpadbaa

/- A list of Entry that came in, and one alone, opened: what lies in old memory. -/
namespace Go.Proofs.Ytodlnhmlhpadbaa
open Go.ChangeShapes Go.WideShapes Go.ChangeAt Go.RowKit Go.Deep
set_option linter.unusedVariables false

theorem cellsEntry : Try.prog.cellsOf 40 = 4 := by kernel_rfl
theorem cellsEntryI : Try.prog.cellsOf 3 = 1 := by kernel_rfl
set_option maxRecDepth 100000 in
theorem openEntry_cells {H : Type} {enc : TypeId × Value → H} {w : World} {base : Nat} {spare : Nat → Bool} {held : Bool} {n : Nat} {cs : List Value} {x : DataW H × List MemPlace}
    (h : DataW.trod enc Try.prog w base spare held n 40 cs = some x) : ∃ f : QuadL, cs = qcs f := by
  obtain ⟨xs, k, _, _, hl, hlen, hg⟩ := DataW.trod_struct Try.underlying40 h
  rw [cellsEntry] at hl
  match cs, hl with
  | [c0, c1, c2, c3], _ =>
    obtain ⟨y0, y1, y2, y3, rfl⟩ : ∃ y0 y1 y2 y3, xs = [y0, y1, y2, y3] := by
      match xs, hlen with
      | [y0, y1, y2, y3], _ => exact ⟨y0, y1, y2, y3, rfl⟩
    have h0 : DataW.trod enc Try.prog w base spare held k 3 [c0] = some y0 := by simpa [cellsEntryI] using hg 0 _ rfl
    have h1 : DataW.trod enc Try.prog w base spare held k 3 [c1] = some y1 := by simpa [cellsEntryI] using hg 1 _ rfl
    have h2 : DataW.trod enc Try.prog w base spare held k 3 [c2] = some y2 := by simpa [cellsEntryI] using hg 2 _ rfl
    have h3 : DataW.trod enc Try.prog w base spare held k 3 [c3] = some y3 := by simpa [cellsEntryI] using hg 3 _ rfl
    obtain ⟨i0, e0, _, _⟩ := DataW.trod_int Try.underlying3 h0
    obtain ⟨i1, e1, _, _⟩ := DataW.trod_int Try.underlying3 h1
    obtain ⟨i2, e2, _, _⟩ := DataW.trod_int Try.underlying3 h2
    obtain ⟨i3, e3, _, _⟩ := DataW.trod_int Try.underlying3 h3
    simp only [List.cons.injEq, and_true] at e0 e1 e2 e3
    subst e0; subst e1; subst e2; subst e3
    exact ⟨⟨i0, i1, i2, i3⟩, rfl⟩
set_option maxRecDepth 100000 in
theorem open_Entry {H : Type} {enc : TypeId × Value → H} {w : World} {base b0 : Nat} {spare : Nat → Bool} {held : Bool} {r : Go.Reach} {v : Value} {d : DataW H} {p : List MemPlace}
    (hv : Value.okWide Try.prog w r b0 40 v) (h : DataW.Trod enc Try.prog w base spare held 40 v d p) : ∃ f : QuadL, v = quadV f := by
  obtain ⟨cs, rfl, hsz⟩ := okWide_struct Try.underlying40 hv
  obtain ⟨fuel, hf⟩ := h
  obtain ⟨f, hf2⟩ := openEntry_cells hf
  refine ⟨f, ?_⟩
  have : cs.toList = qcs f := by simpa [Value.cells] using hf2
  unfold quadV
  congr 1
  apply Array.ext'
  rw [this]
  rfl
set_option maxRecDepth 100000 in
theorem open_EntryS {H : Type} {enc : TypeId × Value → H} {w : World} {base b0 : Nat} {spare : Nat → Bool} {held : Bool} {r : Go.Reach} {v : Value} {d : DataW H} {p : List MemPlace}
    (hv : Value.okWide Try.prog w r b0 90 v) (h : DataW.Trod enc Try.prog w base spare held 90 v d p) :
    ∃ (a : Option Addr) (cap : Nat) (fs : List QuadL), v = .slice a fs.length cap ∧ fs.length ≤ 9223372036854775807 ∧ QuadsIn w w.heap.size a fs := by
  obtain ⟨fuel, hf⟩ := h
  obtain ⟨c, e⟩ : ∃ c, v.cells.toList = [c] ∧ v = c := by
    have := okWide_slice Try.underlying90 hv
    obtain ⟨a, l, c, rfl⟩ := this
    exact ⟨_, rfl, rfl⟩
  rw [e.1] at hf
  obtain ⟨_, rfl⟩ := e
  rcases open_slice Try.underlying90 hf with ⟨e, _⟩ | ⟨a, len, cap, m, n, D, Pl, e, _, hl2, hm, hmm, _, hx⟩
  · simp at e
    subst e
    exact ⟨none, 0, [], rfl, by simp, fun j hj => by simp at hj⟩
  · simp at e
    subst e
    have hlm : len ≤ m := by rw [hmm]; split <;> omega
    have each : ∀ i, i < m → ∃ f : QuadL, ∀ q, q < 4 → w.cell? ((a.add (i * 4)).add q) = (qcs f)[q]? := by
      intro i hi
      obtain ⟨cs', h1, h2⟩ := hx i hi
      rw [cellsEntry] at h1
      obtain ⟨_, hlen, hcell⟩ := World.cells?_some h1
      obtain ⟨f, rfl⟩ := openEntry_cells h2
      exact ⟨f, hcell⟩
    have inh : Inhabited QuadL := ⟨⟨0, 0, 0, 0⟩⟩
    obtain ⟨F, hF⟩ := choose_lt each
    refine ⟨some a, cap, (List.range len).map F, by simp, ?_, ?_⟩
    · unfold maxLen at hm; simp; omega
    · intro j hj
      have hj1 : j < len := by simpa using hj
      have hc := hF j (by omega)
      have h00 := World.cell?_spot ((hF 0 (by omega)) 0 (by omega))
      obtain ⟨b, off, spot⟩ := a
      have hspot : spot = none := by simpa [Addr.add] using h00
      subst hspot
      have g0 := hc 0 (by omega)
      have g1 := hc 1 (by omega)
      have g2 := hc 2 (by omega)
      have g3 := hc 3 (by omega)
      simp only [add_plain, Nat.add_zero, qcs, List.getElem?_cons_zero, List.getElem?_cons_succ] at g0 g1 g2 g3
      simp only [List.getElem_map, List.getElem_range]
      exact ⟨b, off, rfl, World.block_lt_of_cell? w _ g0, g0, g1, g2, g3⟩
end Go.Proofs.Ytodlnhmlhpadbaa

/- A yard that came in, opened: its shelves and its runs lie in old memory. -/
namespace Go.Proofs.Ytodlnhmlhpadbaa
open Go.ChangeShapes Go.WideShapes Go.ChangeAt Go.RowKit Go.Deep
set_option linter.unusedVariables false

theorem cellsYardL : Try.prog.cellsOf 35 = 4 := by kernel_rfl
theorem cellsShelfL : Try.prog.cellsOf 90 = 1 := by kernel_rfl
theorem cellsShelvesL : Try.prog.cellsOf 32 = 1 := by kernel_rfl
theorem cellsRunsL : Try.prog.cellsOf 33 = 1 := by kernel_rfl
set_option maxRecDepth 100000 in
theorem open_entriesC {H : Type} {enc : TypeId × Value → H} {w : World} {base : Nat} {spare : Nat → Bool} {held : Bool} {k : Nat} {c : Value} {y : DataW H × List MemPlace}
    (h : DataW.trod enc Try.prog w base spare held k 90 [c] = some y) : ∃ (a : Option Addr) (cap : Nat) (fs : List QuadL), c = .slice a fs.length cap ∧ fs.length ≤ 9223372036854775807 ∧ QuadsIn w w.heap.size a fs := by
  rcases open_slice Try.underlying90 h with ⟨e, _⟩ | ⟨a, len, cap, m, n, D, Pl, e, _, hl2, hm, hmm, _, hx⟩
  · simp at e
    subst e
    exact ⟨none, 0, [], rfl, by simp, fun j hj => by simp at hj⟩
  · simp at e
    subst e
    have hlm : len ≤ m := by rw [hmm]; split <;> omega
    have each : ∀ i, i < m → ∃ f : QuadL, ∀ q, q < 4 → w.cell? ((a.add (i * 4)).add q) = (qcs f)[q]? := by
      intro i hi
      obtain ⟨cs', h1, h2⟩ := hx i hi
      rw [cellsEntry] at h1
      obtain ⟨_, hlen, hcell⟩ := World.cells?_some h1
      obtain ⟨f, rfl⟩ := openEntry_cells h2
      exact ⟨f, hcell⟩
    have inh : Inhabited QuadL := ⟨⟨0, 0, 0, 0⟩⟩
    obtain ⟨F, hF⟩ := choose_lt each
    refine ⟨some a, cap, (List.range len).map F, by simp, ?_, ?_⟩
    · unfold maxLen at hm; simp; omega
    · intro j hj
      have hj1 : j < len := by simpa using hj
      have hc := hF j (by omega)
      have h00 := World.cell?_spot ((hF 0 (by omega)) 0 (by omega))
      obtain ⟨b, off, spot⟩ := a
      have hspot : spot = none := by simpa [Addr.add] using h00
      subst hspot
      have g0 := hc 0 (by omega)
      have g1 := hc 1 (by omega)
      have g2 := hc 2 (by omega)
      have g3 := hc 3 (by omega)
      simp only [add_plain, Nat.add_zero, qcs, List.getElem?_cons_zero, List.getElem?_cons_succ] at g0 g1 g2 g3
      simp only [List.getElem_map, List.getElem_range]
      exact ⟨b, off, rfl, World.block_lt_of_cell? w _ g0, g0, g1, g2, g3⟩
set_option maxRecDepth 100000 in
theorem open_runC {H : Type} {enc : TypeId × Value → H} {w : World} {base : Nat} {spare : Nat → Bool} {held : Bool} {n : Nat} {cs : List Value} {x : DataW H × List MemPlace}
    (h : DataW.trod enc Try.prog w base spare held n 97 cs = some x) : ∃ (a b : Option Addr) (c e : Nat) (q : RunL), cs = (runC q (.slice a q.plan.edges.length c) (.slice b q.tasks.length e)).toList ∧ (q.plan.edges.length ≤ 9223372036854775807 ∧ q.tasks.length ≤ 9223372036854775807) ∧ RunIn w w.heap.size a b q := by
  obtain ⟨xs, k, _, _, hl, hlen, hg⟩ := DataW.trod_struct Try.underlying97 h
  rw [cellsRunL] at hl
  match cs, hl with
  | [c0, c1, c2, c3, c4, c5, c6, c7], _ =>
    obtain ⟨y0, y1, y2, y3, rfl⟩ : ∃ y0 y1 y2 y3, xs = [y0, y1, y2, y3] := by
      match xs, hlen with
      | [y0, y1, y2, y3], _ => exact ⟨y0, y1, y2, y3, rfl⟩
    have h0 : DataW.trod enc Try.prog w base spare held k 3 [c0] = some y0 := by simpa [cellsIntP] using hg 0 _ rfl
    have h1 : DataW.trod enc Try.prog w base spare held k 94 [c1, c2, c3, c4, c5] = some y1 := by simpa [cellsPlan] using hg 1 _ rfl
    have h2 : DataW.trod enc Try.prog w base spare held k 3 [c6] = some y2 := by simpa [cellsIntP] using hg 2 _ rfl
    have h3 : DataW.trod enc Try.prog w base spare held k 95 [c7] = some y3 := by simpa [cellsTasksL] using hg 3 _ rfl
    obtain ⟨i0, e0, _, _⟩ := DataW.trod_int Try.underlying3 h0
    obtain ⟨i2, e2, _, _⟩ := DataW.trod_int Try.underlying3 h2
    obtain ⟨a, cap, q, e1, hle, hin⟩ := open_planC h1
    obtain ⟨b, cap2, fs, rfl, hle2, hin2⟩ := open_tasksC h3
    simp only [List.cons.injEq, and_true] at e0 e1 e2
    obtain ⟨rfl, rfl, rfl, rfl, rfl⟩ := e1
    subst e0; subst e2
    exact ⟨a, b, cap, cap2, ⟨i0, q, i2, fs⟩, rfl, ⟨hle, hle2⟩, ⟨hin, hin2⟩⟩
set_option maxRecDepth 100000 in
theorem open_shelvesC {H : Type} {enc : TypeId × Value → H} {w : World} {base : Nat} {spare : Nat → Bool} {held : Bool} {k : Nat} {c : Value} {y : DataW H × List MemPlace}
    (h : DataW.trod enc Try.prog w base spare held k 32 [c] = some y) : ∃ (a : Option Addr) (cap : Nat) (fs : List (List QuadL)), c = .slice a fs.length cap ∧ fs.length ≤ 9223372036854775807 ∧ shelvesIn w w.heap.size a fs := by
  rcases open_slice Try.underlying32 h with ⟨e, _⟩ | ⟨a, len, cap, m, n, D, Pl, e, _, hl2, hm, hmm, _, hx⟩
  · simp at e
    subst e
    exact ⟨none, 0, [], rfl, by simp, fun j hj => by simp at hj⟩
  · simp at e
    subst e
    have hlm : len ≤ m := by rw [hmm]; split <;> omega
    have each : ∀ i, i < m → ∃ f : List QuadL, ∃ (x : Option Addr) (c : Nat), w.cell? (a.add i) = some (.slice x f.length c) ∧ f.length ≤ 9223372036854775807 ∧ QuadsIn w w.heap.size x f := by
      intro i hi
      obtain ⟨cs', h1, h2⟩ := hx i hi
      rw [cellsShelfL] at h1
      obtain ⟨_, hlen, hcell⟩ := World.cells?_some h1
      match cs', hlen with
      | [c1], _ =>
        obtain ⟨x, c, f, rfl, hf, hq⟩ := open_entriesC h2
        have := hcell 0 (by omega)
        simp only [Nat.mul_one] at this
        exact ⟨f, x, c, by simpa [Addr.add] using this, hf, hq⟩
    have inh : Inhabited (List QuadL) := ⟨[]⟩
    obtain ⟨F, hF⟩ := choose_lt each
    refine ⟨some a, cap, (List.range len).map F, by simp, ?_, ?_⟩
    · unfold maxLen at hm; simp; omega
    · intro j hj
      have hj1 : j < len := by simpa using hj
      obtain ⟨x, c, hc, hf, hq⟩ := hF j (by omega)
      obtain ⟨x0, c0, hc0, -⟩ := hF 0 (by omega)
      have h00 := World.cell?_spot hc0
      obtain ⟨b, off, spot⟩ := a
      have hspot : spot = none := by simpa [Addr.add] using h00
      subst hspot
      rw [add_plain] at hc
      simp only [List.getElem_map, List.getElem_range]
      exact ⟨b, off, x, c, rfl, World.block_lt_of_cell? w _ hc, hc, hf, hq⟩
set_option maxRecDepth 100000 in
theorem open_runsC {H : Type} {enc : TypeId × Value → H} {w : World} {base : Nat} {spare : Nat → Bool} {held : Bool} {k : Nat} {c : Value} {y : DataW H × List MemPlace}
    (h : DataW.trod enc Try.prog w base spare held k 33 [c] = some y) : ∃ (a : Option Addr) (cap : Nat) (fs : List RunL), c = .slice a fs.length cap ∧ fs.length ≤ 9223372036854775807 ∧ runsIn w w.heap.size a fs := by
  rcases open_slice Try.underlying33 h with ⟨e, _⟩ | ⟨a, len, cap, m, n, D, Pl, e, _, hl2, hm, hmm, _, hx⟩
  · simp at e
    subst e
    exact ⟨none, 0, [], rfl, by simp, fun j hj => by simp at hj⟩
  · simp at e
    subst e
    have hlm : len ≤ m := by rw [hmm]; split <;> omega
    have each : ∀ i, i < m → ∃ f : RunL, ∃ (x y : Option Addr) (c d : Nat), (∀ q, q < 8 → w.cell? ((a.add (i * 8)).add q) = (runC f (.slice x f.plan.edges.length c) (.slice y f.tasks.length d)).toList[q]?) ∧ (f.plan.edges.length ≤ 9223372036854775807 ∧ f.tasks.length ≤ 9223372036854775807) ∧ RunIn w w.heap.size x y f := by
      intro i hi
      obtain ⟨cs', h1, h2⟩ := hx i hi
      rw [cellsRunL] at h1
      obtain ⟨_, hlen, hcell⟩ := World.cells?_some h1
      obtain ⟨x, y, c, d, f, rfl, hf, hq⟩ := open_runC h2
      exact ⟨f, x, y, c, d, hcell, hf, hq⟩
    have inh : Inhabited RunL := ⟨⟨0, ⟨0, 0, 0, 0, []⟩, 0, []⟩⟩
    obtain ⟨F, hF⟩ := choose_lt each
    refine ⟨some a, cap, (List.range len).map F, by simp, ?_, ?_⟩
    · unfold maxLen at hm; simp; omega
    · intro j hj
      have hj1 : j < len := by simpa using hj
      obtain ⟨x, y, c, d, hc, hf, hq⟩ := hF j (by omega)
      obtain ⟨x0, y0, c0, d0, hc0, -⟩ := hF 0 (by omega)
      have h00 := World.cell?_spot (hc0 0 (by omega))
      obtain ⟨b, off, spot⟩ := a
      have hspot : spot = none := by simpa [Addr.add] using h00
      subst hspot
      have g := fun q (hq : q < 8) => hc q hq
      simp only [add_plain] at g
      have g0 := g 0 (by omega)
      simp only [List.getElem_map, List.getElem_range]
      exact ⟨b, off, x, c, y, d, rfl, World.block_lt_of_cell? w _ g0, ⟨g0, g 1 (by omega), g 2 (by omega), g 3 (by omega), g 4 (by omega), g 5 (by omega), g 6 (by omega), g 7 (by omega)⟩, hf, hq⟩
set_option maxRecDepth 100000 in
theorem open_yard {H : Type} {enc : TypeId × Value → H} {w : World} {base b0 : Nat} {spare : Nat → Bool} {held : Bool} {r : Go.Reach} {v : Value} {d : DataW H} {p : List MemPlace}
    (hv : Value.okWide Try.prog w r b0 35 v) (h : DataW.Trod enc Try.prog w base spare held 35 v d p) :
    ∃ (a b : Option Addr) (c e : Nat) (q : YardL), v = yardV q (.slice a q.shelf.length c) (.slice b q.runs.length e) ∧ q.shelf.length ≤ 9223372036854775807 ∧ q.runs.length ≤ 9223372036854775807 ∧ YardIn w w.heap.size a b q := by
  obtain ⟨cs, rfl, hsz⟩ := okWide_struct Try.underlying35 hv
  rw [cellsYardL] at hsz
  obtain ⟨fuel, hf⟩ := h
  obtain ⟨xs, k, _, _, hl, hlen, hg⟩ := DataW.trod_struct Try.underlying35 hf
  have hcs : ∃ c0 c1 c2 c3, cs = #[c0, c1, c2, c3] := by
    match cs, hsz with
    | ⟨[c0, c1, c2, c3]⟩, _ => exact ⟨c0, c1, c2, c3, rfl⟩
  obtain ⟨c0, c1, c2, c3, rfl⟩ := hcs
  obtain ⟨y0, y1, y2, y3, rfl⟩ : ∃ y0 y1 y2 y3, xs = [y0, y1, y2, y3] := by
    match xs, hlen with
    | [y0, y1, y2, y3], _ => exact ⟨y0, y1, y2, y3, rfl⟩
  have h0 : DataW.trod enc Try.prog w base spare held k 3 [c0] = some y0 := by simpa [Value.cells, cellsIntP] using hg 0 _ rfl
  have h1 : DataW.trod enc Try.prog w base spare held k 3 [c1] = some y1 := by simpa [Value.cells, cellsIntP] using hg 1 _ rfl
  have h2 : DataW.trod enc Try.prog w base spare held k 32 [c2] = some y2 := by simpa [Value.cells, cellsShelvesL] using hg 2 _ rfl
  have h3 : DataW.trod enc Try.prog w base spare held k 33 [c3] = some y3 := by simpa [Value.cells, cellsRunsL] using hg 3 _ rfl
  obtain ⟨i0, e0, _, _⟩ := DataW.trod_int Try.underlying3 h0
  obtain ⟨i1, e1, _, _⟩ := DataW.trod_int Try.underlying3 h1
  obtain ⟨a, cap, sh, rfl, hle, hin⟩ := open_shelvesC h2
  obtain ⟨b, cap2, rs, rfl, hle2, hin2⟩ := open_runsC h3
  simp only [List.cons.injEq, and_true] at e0 e1
  subst e0; subst e1
  exact ⟨a, b, cap, cap2, ⟨i0, i1, sh, rs⟩, rfl, hle, hle2, ⟨hin, hin2⟩⟩
end Go.Proofs.Ytodlnhmlhpadbaa
