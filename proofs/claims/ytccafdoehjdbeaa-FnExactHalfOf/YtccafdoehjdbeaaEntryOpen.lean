/- A list of Entry that came in, and one alone, opened: what lies in old memory. -/
import Derived.Test.YtccafdoehjdbeaaInfo
import Derived.Test.YtccafdoehjdbeaaQuadBase
import Derived.WalkKit
import Derived.ProofKit
import Derived.OpenShut
import Derived.SliceStrings
import Derived.Deep.Slices
import Derived.Deep.Strs
import Derived.Lib.SmallJoins
namespace Go.Proofs.Ytccafdoehjdbeaa
open Go.ChangeShapes Go.WideShapes Go.ChangeAt Go.RowKit Go.Deep
set_option linter.unusedVariables false

theorem cellsEntry : Try.prog.cellsOf 39 = 4 := by kernel_rfl
theorem cellsEntryI : Try.prog.cellsOf 3 = 1 := by kernel_rfl
theorem openEntry_cells {H : Type} {enc : TypeId × Value → H} {w : World} {base : Nat} {spare : Nat → Bool} {held : Bool} {n : Nat} {cs : List Value} {x : DataW H × List MemPlace}
    (h : DataW.trod enc Try.prog w base spare held n 39 cs = some x) : ∃ f : QuadL, cs = qcs f := by
  obtain ⟨xs, k, _, _, hl, hlen, hg⟩ := DataW.trod_struct Try.underlying39 h
  rw [cellsEntry] at hl
  match cs, hl with
  | [c0, c1, c2, c3], _ =>
    obtain ⟨y0, y1, y2, y3, rfl⟩ : ∃ y0 y1 y2 y3, xs = [y0, y1, y2, y3] := by
      match xs, hlen with
      | [y0, y1, y2, y3], _ => exact ⟨y0, y1, y2, y3, rfl⟩
    have h0 : DataW.trod enc Try.prog w base spare held k 3 [c0] = some y0 := by simpa [cellsEntryI] using hg 0 _ rfl
    have h1 : DataW.trod enc Try.prog w base spare held k 3 [c1] = some y1 := by simpa [cellsEntryI] using hg 1 _ rfl
    have h2 : DataW.trod enc Try.prog w base spare held k 3 [c2] = some y2 := by simpa [cellsEntryI] using hg 2 _ rfl
    have h3 : DataW.trod enc Try.prog w base spare held k 3 [c3] = some y3 := by simpa [cellsEntryI] using hg 3 _ rfl
    obtain ⟨i0, e0, _, _⟩ := DataW.trod_int Try.underlying3 h0
    obtain ⟨i1, e1, _, _⟩ := DataW.trod_int Try.underlying3 h1
    obtain ⟨i2, e2, _, _⟩ := DataW.trod_int Try.underlying3 h2
    obtain ⟨i3, e3, _, _⟩ := DataW.trod_int Try.underlying3 h3
    simp only [List.cons.injEq, and_true] at e0 e1 e2 e3
    subst e0; subst e1; subst e2; subst e3
    exact ⟨⟨i0, i1, i2, i3⟩, rfl⟩
theorem open_Entry {H : Type} {enc : TypeId × Value → H} {w : World} {base b0 : Nat} {spare : Nat → Bool} {held : Bool} {r : Go.Reach} {v : Value} {d : DataW H} {p : List MemPlace}
    (hv : Value.okWide Try.prog w r b0 39 v) (h : DataW.Trod enc Try.prog w base spare held 39 v d p) : ∃ f : QuadL, v = quadV f := by
  obtain ⟨cs, rfl, hsz⟩ := okWide_struct Try.underlying39 hv
  obtain ⟨fuel, hf⟩ := h
  obtain ⟨f, hf2⟩ := openEntry_cells hf
  refine ⟨f, ?_⟩
  have : cs.toList = qcs f := by simpa [Value.cells] using hf2
  unfold quadV
  congr 1
  apply Array.ext'
  rw [this]
  rfl
theorem open_EntryS {H : Type} {enc : TypeId × Value → H} {w : World} {base b0 : Nat} {spare : Nat → Bool} {held : Bool} {r : Go.Reach} {v : Value} {d : DataW H} {p : List MemPlace}
    (hv : Value.okWide Try.prog w r b0 42 v) (h : DataW.Trod enc Try.prog w base spare held 42 v d p) :
    ∃ (a : Option Addr) (cap : Nat) (fs : List QuadL), v = .slice a fs.length cap ∧ fs.length ≤ 9223372036854775807 ∧ QuadsIn w w.heap.size a fs := by
  obtain ⟨fuel, hf⟩ := h
  obtain ⟨c, e⟩ : ∃ c, v.cells.toList = [c] ∧ v = c := by
    have := okWide_slice Try.underlying42 hv
    obtain ⟨a, l, c, rfl⟩ := this
    exact ⟨_, rfl, rfl⟩
  rw [e.1] at hf
  obtain ⟨_, rfl⟩ := e
  rcases open_slice Try.underlying42 hf with ⟨e, _⟩ | ⟨a, len, cap, m, n, D, Pl, e, _, hl2, hm, hmm, _, hx⟩
  · simp at e
    subst e
    exact ⟨none, 0, [], rfl, by simp, fun j hj => by simp at hj⟩
  · simp at e
    subst e
    have hlm : len ≤ m := by rw [hmm]; split <;> omega
    have each : ∀ i, i < m → ∃ f : QuadL, ∀ q, q < 4 → w.cell? ((a.add (i * 4)).add q) = (qcs f)[q]? := by
      intro i hi
      obtain ⟨cs', h1, h2⟩ := hx i hi
      rw [cellsEntry] at h1
      obtain ⟨_, hlen, hcell⟩ := World.cells?_some h1
      obtain ⟨f, rfl⟩ := openEntry_cells h2
      exact ⟨f, hcell⟩
    have inh : Inhabited QuadL := ⟨⟨0, 0, 0, 0⟩⟩
    obtain ⟨F, hF⟩ := choose_lt each
    refine ⟨some a, cap, (List.range len).map F, by simp, ?_, ?_⟩
    · unfold maxLen at hm; simp; omega
    · intro j hj
      have hj1 : j < len := by simpa using hj
      have hc := hF j (by omega)
      have h00 := World.cell?_spot ((hF 0 (by omega)) 0 (by omega))
      obtain ⟨b, off, spot⟩ := a
      have hspot : spot = none := by simpa [Addr.add] using h00
      subst hspot
      have g0 := hc 0 (by omega)
      have g1 := hc 1 (by omega)
      have g2 := hc 2 (by omega)
      have g3 := hc 3 (by omega)
      simp only [add_plain, Nat.add_zero, qcs, List.getElem?_cons_zero, List.getElem?_cons_succ] at g0 g1 g2 g3
      simp only [List.getElem_map, List.getElem_range]
      exact ⟨b, off, rfl, World.block_lt_of_cell? w _ g0, g0, g1, g2, g3⟩
end Go.Proofs.Ytccafdoehjdbeaa
