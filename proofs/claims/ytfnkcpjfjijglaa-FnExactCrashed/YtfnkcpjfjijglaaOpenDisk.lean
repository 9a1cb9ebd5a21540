/- A disk that came in, opened: its files lie in old memory. -/
import Derived.Test.YtfnkcpjfjijglaaDiskHelp
import Derived.WalkKit
import Derived.ProofKit
import Derived.OpenShut
import Derived.SliceStrings
import Derived.Deep.Slices
import Derived.Deep.Strs
import Derived.Lib.SmallJoins
namespace Go.Proofs.Ytfnkcpjfjijglaa
open Go.ChangeShapes Go.WideShapes Go.ChangeAt Go.RowKit Go.Deep
set_option linter.unusedVariables false

theorem cellsDisk : Try.prog.cellsOf 37 = 1 := by kernel_rfl
theorem cellsFile : Try.prog.cellsOf 80 = 3 := by kernel_rfl
theorem cellsStr : Try.prog.cellsOf 9 = 1 := by kernel_rfl
theorem cellsInt : Try.prog.cellsOf 3 = 1 := by kernel_rfl
theorem cellsFiles : Try.prog.cellsOf 35 = 1 := by kernel_rfl
theorem open_file {H : Type} {enc : TypeId × Value → H} {w : World} {base : Nat} {spare : Nat → Bool} {held : Bool} {n : Nat} {cs : List Value} {x : DataW H × List MemPlace}
    (h : DataW.trod enc Try.prog w base spare held n 80 cs = some x) : ∃ f : FileL, cs = [.string ⟨f.name.toArray⟩, .string ⟨f.data.toArray⟩, .int .i64 f.safe] ∧ f.name.length ≤ 9223372036854775807 ∧ f.data.length ≤ 9223372036854775807 := by
  obtain ⟨y0, y1, y2, k, _, hl, h0, h1, h2⟩ := trod_struct3 Try.underlying80 h
  rw [cellsFile] at hl
  match cs, hl with
  | [v0, v1, v2], _ =>
    simp only [cellsStr, cellsInt, List.drop_zero, List.drop_succ_cons, List.take_succ_cons, List.take_zero] at h0 h1 h2
    obtain ⟨s0, e0, _, b0⟩ := DataW.trod_string Try.underlying9 h0
    obtain ⟨s1, e1, _, b1⟩ := DataW.trod_string Try.underlying9 h1
    obtain ⟨i2, e2, _, b2⟩ := DataW.trod_int Try.underlying3 h2
    simp only [List.cons.injEq, and_true] at e0 e1 e2
    subst e0; subst e1; subst e2
    unfold maxLen at b0 b1
    refine ⟨⟨s0.data.toList, s1.data.toList, i2⟩, by simp, ?_, ?_⟩
    · show s0.data.toList.length ≤ _; rw [Array.length_toList]; exact b0
    · show s1.data.toList.length ≤ _; rw [Array.length_toList]; exact b1
theorem open_disk {H : Type} {enc : TypeId × Value → H} {w : World} {base b0 : Nat} {spare : Nat → Bool} {held : Bool} {r : Reach} {v : Value} {d : DataW H} {p : List MemPlace}
    (hv : Value.okWide Try.prog w r b0 37 v) (h : DataW.Trod enc Try.prog w base spare held 37 v d p) :
    ∃ (a : Option Addr) (cap : Nat) (fs : List FileL), v = .agg #[.slice a fs.length cap] ∧ fs.length ≤ 9223372036854775807 ∧ FewF fs 9223372036854775807 ∧ FilesIn w w.heap.size a fs := by
  obtain ⟨cs, rfl, hsz⟩ := okWide_struct Try.underlying37 hv
  rw [cellsDisk] at hsz
  obtain ⟨fuel, hf⟩ := h
  obtain ⟨y0, k, _, hl, h0⟩ := trod_struct1 Try.underlying37 hf
  have hcs : ∃ c, cs = #[c] := by
    match cs, hsz with
    | ⟨[c]⟩, _ => exact ⟨c, rfl⟩
  obtain ⟨c, rfl⟩ := hcs
  simp [Value.cells, cellsFiles] at h0
  rcases open_slice Try.underlying35 h0 with ⟨e, _⟩ | ⟨a, len, cap, m, n, D, Pl, e, _, hl2, hm, hmm, _, hx⟩
  · simp at e
    subst e
    exact ⟨none, 0, [], rfl, by simp, fun f hf => by simp at hf, fun j hj => by simp at hj⟩
  · simp at e
    subst e
    have hlm : len ≤ m := by rw [hmm]; split <;> omega
    have each : ∀ i, i < m → ∃ f : FileL, (f.name.length ≤ 9223372036854775807 ∧ f.data.length ≤ 9223372036854775807) ∧ ∀ q, q < 3 → w.cell? ((a.add (i * 3)).add q) = [Value.string ⟨f.name.toArray⟩, .string ⟨f.data.toArray⟩, .int .i64 f.safe][q]? := by
      intro i hi
      obtain ⟨cs', h1, h2⟩ := hx i hi
      rw [cellsFile] at h1
      obtain ⟨_, hlen, hcell⟩ := World.cells?_some h1
      obtain ⟨f, rfl, hb⟩ := open_file h2
      exact ⟨f, hb, hcell⟩
    have inh : Inhabited FileL := ⟨⟨[], [], 0⟩⟩
    obtain ⟨F, hF⟩ := choose_lt each
    refine ⟨some a, cap, (List.range len).map F, by simp, ?_, ?_, ?_⟩
    · unfold maxLen at hm; simp; omega
    · intro f hf
      obtain ⟨i, hi, rfl⟩ := List.mem_map.1 hf
      exact (hF i (by have := List.mem_range.1 hi; omega)).1
    · intro j hj
      have hj1 : j < len := by simpa using hj
      have hc := (hF j (by omega)).2
      have h00 := World.cell?_spot ((hF 0 (by omega)).2 0 (by omega))
      obtain ⟨b, off, spot⟩ := a
      have hspot : spot = none := by simpa [Addr.add] using h00
      subst hspot
      have g0 := hc 0 (by omega)
      have g1 := hc 1 (by omega)
      have g2 := hc 2 (by omega)
      simp only [add_plain, Nat.add_zero, List.getElem?_cons_zero, List.getElem?_cons_succ] at g0 g1 g2
      simp only [List.getElem_map, List.getElem_range]
      exact ⟨b, off, rfl, World.block_lt_of_cell? w _ g0, g0, g1, g2⟩
end Go.Proofs.Ytfnkcpjfjijglaa
