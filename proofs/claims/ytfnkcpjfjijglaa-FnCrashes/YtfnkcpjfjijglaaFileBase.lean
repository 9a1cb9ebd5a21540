/- A file as the program holds it: three cells; a list of files as the cells of a row. Nothing here speaks of the program. -/
import Derived.Test.YtfnkcpjfjijglaaWBase
namespace Go.Proofs.Ytfnkcpjfjijglaa
open Go.RowKit
set_option linter.unusedVariables false

/-- A file: its name, its data, how much of them is safe. -/
structure FileL where
  name : List UInt8
  data : List UInt8
  safe : Int
/-- Its cells. -/
def fcs (f : FileL) : List Value := [sv f.name, sv f.data, .int .i64 f.safe]
def fileV (f : FileL) : Value := .agg #[.string ⟨f.name.toArray⟩, .string ⟨f.data.toArray⟩, .int .i64 f.safe]
/-- The cells of a list of files. -/
def filesC (fs : List FileL) : List Value := fs.flatMap fcs
theorem filesC_length (fs : List FileL) : (filesC fs).length = fs.length * 3 := by
  induction fs with
  | nil => rfl
  | cons f r ih => simp only [filesC, List.flatMap_cons, List.length_append] at ih ⊢; rw [ih]; simp [fcs]; omega
theorem filesC_append (a b : List FileL) : filesC (a ++ b) = filesC a ++ filesC b := by simp [filesC]
theorem filesC_get (fs : List FileL) (k : Nat) (h : k < fs.length) :
    (filesC fs)[k * 3]? = some (.string ⟨(fs[k]).name.toArray⟩) ∧ (filesC fs)[k * 3 + 1]? = some (.string ⟨(fs[k]).data.toArray⟩) ∧ (filesC fs)[k * 3 + 2]? = some (.int .i64 (fs[k]).safe) := by
  induction fs generalizing k with
  | nil => simp at h
  | cons f r ih =>
    cases k with
    | zero => simp [filesC, fcs, sv]
    | succ k =>
      have e : filesC (f :: r) = fcs f ++ filesC r := by simp [filesC]
      have hl : (fcs f).length = 3 := rfl
      have := ih k (by simpa using h)
      rw [e, List.getElem?_append_right (by omega), List.getElem?_append_right (by omega), List.getElem?_append_right (by omega), hl]
      rw [show (k + 1) * 3 - 3 = k * 3 from by omega, show (k + 1) * 3 + 1 - 3 = k * 3 + 1 from by omega, show (k + 1) * 3 + 2 - 3 = k * 3 + 2 from by omega]
      simpa using this
/-- The cells of one file in a row that is owned. -/
theorem filesC_cell {w : World} {base n g cap k : Nat} {e : TypeId} {fs : List FileL} (h : w.ownsRow base e 3 (.slice (some ⟨g, 0, none⟩) n cap) n (filesC fs)) (hk : k < fs.length) :
    w.cell? ⟨g, k * 3, none⟩ = some (.string ⟨(fs[k]).name.toArray⟩) ∧ w.cell? ⟨g, k * 3 + 1, none⟩ = some (.string ⟨(fs[k]).data.toArray⟩) ∧ w.cell? ⟨g, k * 3 + 2, none⟩ = some (.int .i64 (fs[k]).safe) := by
  obtain ⟨h1, h2, h3⟩ := filesC_get fs k hk
  have hadd : ∀ j, (⟨g, 0, none⟩ : Addr).add j = ⟨g, j, none⟩ := fun j => by unfold Addr.add; split <;> simp_all
  have c := h.cells (g := g) rfl
  refine ⟨?_, ?_, ?_⟩
  · have := c _ _ h1; rwa [hadd] at this
  · have := c _ _ h2; rwa [hadd] at this
  · have := c _ _ h3; rwa [hadd] at this
theorem range_mul_cells {α : Type} (l : List α) (d : α) (s : Nat) (hs : l.length = s) : ∀ n : Nat, (List.range (n * s)).map (fun i => l.getD (i % s) d) = (List.replicate n l).flatten
  | 0 => by simp
  | n + 1 => by
    rw [Nat.add_mul, Nat.one_mul, List.range_add, List.map_append, range_mul_cells l d s hs n, List.replicate_succ', List.flatten_append]
    congr 1
    rw [List.flatten_singleton, List.map_map]
    refine List.ext_getElem (by simp [hs]) (fun i h1 h2 => ?_)
    have hi : i < s := by simpa using h1
    simp only [List.getElem_map, List.getElem_range, Function.comp_apply]
    rw [show (n * s + i) % s = i from by rw [Nat.mul_comm, Nat.mul_add_mod]; exact Nat.mod_eq_of_lt hi]
    rw [List.getD_eq_getElem?_getD, List.getElem?_eq_getElem h2]; rfl
/-- New places of a row whose elements have several cells. -/
theorem made_many (z : Array Value) (n : Nat) : (madeCells z (n * z.size)).toList = (List.replicate n z.toList).flatten := by
  rw [← range_mul_cells z.toList default z.size (by simp) n]
  unfold madeCells
  simp only [Array.toList_map, Array.toList_range]
  refine List.map_congr_left (fun i _ => ?_)
  simp [List.getD_eq_getElem?_getD, getElem!_def, Option.getD]
  rfl
/-- The zero file. -/
def file0 : FileL := ⟨[], [], 0⟩
theorem made_files (n : Nat) : (List.replicate n [Value.string ⟨#[]⟩, .string ⟨#[]⟩, .int .i64 0]).flatten = filesC (List.replicate n file0) := by
  induction n with
  | zero => rfl
  | succ n ih => rw [List.replicate_succ, List.replicate_succ, List.flatten_cons, ih]; simp [filesC, fcs, sv, file0]
theorem filesC_set (fs : List FileL) (k : Nat) (f : FileL) (h : k < fs.length) :
    (((filesC fs).set (k * 3) (.string ⟨f.name.toArray⟩)).set (k * 3 + 1) (.string ⟨f.data.toArray⟩)).set (k * 3 + 2) (.int .i64 f.safe) = filesC (fs.set k f) := by
  induction fs generalizing k with
  | nil => simp at h
  | cons g r ih =>
    have e : ∀ g r, filesC (g :: r) = fcs g ++ filesC r := fun g r => by simp [filesC]
    cases k with
    | zero => rw [e, List.set_cons_zero, e]; simp [fcs, sv]
    | succ k =>
      rw [List.set_cons_succ, e, e, ← ih k (by simpa using h)]
      have hl : (fcs g).length = 3 := rfl
      rw [List.set_append_right _ _ (by omega), List.set_append_right _ _ (by omega), List.set_append_right _ _ (by omega), hl]
      rw [show (k + 1) * 3 - 3 = k * 3 from by omega, show (k + 1) * 3 + 1 - 3 = k * 3 + 1 from by omega, show (k + 1) * 3 + 2 - 3 = k * 3 + 2 from by omega]
theorem set_name (fs : List FileL) (k : Nat) (n : List UInt8) (h : k < fs.length) : (filesC fs).set (k * 3) (.string ⟨n.toArray⟩) = filesC (fs.set k ⟨n, (fs[k]).data, (fs[k]).safe⟩) := by
  rw [← filesC_set fs k _ h]
  obtain ⟨h1, h2, h3⟩ := filesC_get fs k h
  have hl := filesC_length fs
  refine List.ext_getElem? (fun i => ?_)
  simp only [List.getElem?_set, List.length_set]
  by_cases e0 : k * 3 = i
  · simp [← e0]
  · by_cases e1 : k * 3 + 1 = i
    · simp [← e1, h2]; omega
    · by_cases e2 : k * 3 + 2 = i
      · simp [← e2, h3]; omega
      · simp [e0, e1, e2]
theorem set_data (fs : List FileL) (k : Nat) (n : List UInt8) (h : k < fs.length) : (filesC fs).set (k * 3 + 1) (.string ⟨n.toArray⟩) = filesC (fs.set k ⟨(fs[k]).name, n, (fs[k]).safe⟩) := by
  rw [← filesC_set fs k _ h]
  obtain ⟨h1, h2, h3⟩ := filesC_get fs k h
  have hl := filesC_length fs
  refine List.ext_getElem? (fun i => ?_)
  simp only [List.getElem?_set, List.length_set]
  by_cases e0 : k * 3 = i
  · simp [← e0, h1]; omega
  · by_cases e1 : k * 3 + 1 = i
    · simp [← e1]
    · by_cases e2 : k * 3 + 2 = i
      · simp [← e2, h3]; omega
      · simp [e0, e1, e2]
theorem set_safe (fs : List FileL) (k : Nat) (n : Int) (h : k < fs.length) : (filesC fs).set (k * 3 + 2) (.int .i64 n) = filesC (fs.set k ⟨(fs[k]).name, (fs[k]).data, n⟩) := by
  rw [← filesC_set fs k _ h]
  obtain ⟨h1, h2, h3⟩ := filesC_get fs k h
  have hl := filesC_length fs
  refine List.ext_getElem? (fun i => ?_)
  simp only [List.getElem?_set, List.length_set]
  by_cases e0 : k * 3 = i
  · simp [← e0, h1]; omega
  · by_cases e1 : k * 3 + 1 = i
    · simp [← e1, h2]; omega
    · by_cases e2 : k * 3 + 2 = i
      · simp [← e2]
      · simp [e0, e1, e2]
/-- A copy of the first k files, the other places zero. -/
def partF (fs : List FileL) (k : Nat) : List FileL := fs.take k ++ List.replicate (fs.length - k) file0
theorem partF_length (fs : List FileL) (k : Nat) : (partF fs k).length = fs.length := by unfold partF; simp; omega
theorem partF_zero (fs : List FileL) : partF fs 0 = List.replicate fs.length file0 := by simp [partF]
theorem partF_all (fs : List FileL) (k : Nat) (h : ¬ k < fs.length) : partF fs k = fs := by
  unfold partF; rw [List.take_of_length_le (by omega), show fs.length - k = 0 from by omega]; simp
theorem partF_set (fs : List FileL) (k : Nat) (h : k < fs.length) : (partF fs k).set k fs[k] = partF fs (k + 1) := by
  unfold partF
  obtain ⟨r, hr⟩ : ∃ r, fs.length - k = r + 1 := ⟨fs.length - k - 1, by omega⟩
  have hl : (fs.take k).length = k := by simp; omega
  rw [hr, show fs.length - (k + 1) = r from by omega, List.take_succ_eq_append_getElem h, List.replicate_succ, List.set_append_right _ _ (by omega), hl, Nat.sub_self, List.set_cons_zero, List.append_assoc]
  rfl
/-- Three cells of a row that is owned are written. -/
theorem filesC_stored {w : World} {base n g cap k : Nat} {e : TypeId} {fs : List FileL} (h : w.ownsRow base e 3 (.slice (some ⟨g, 0, none⟩) n cap) n (filesC fs)) (f : FileL) (hk : k < fs.length) :
    (((w.setCell ⟨g, k * 3, none⟩ (.string ⟨f.name.toArray⟩)).setCell ⟨g, k * 3 + 1, none⟩ (.string ⟨f.data.toArray⟩)).setCell ⟨g, k * 3 + 2, none⟩ (.int .i64 f.safe)).ownsRow base e 3 (.slice (some ⟨g, 0, none⟩) n cap) n (filesC (fs.set k f))
    ∧ w.grownBy (((w.setCell ⟨g, k * 3, none⟩ (.string ⟨f.name.toArray⟩)).setCell ⟨g, k * 3 + 1, none⟩ (.string ⟨f.data.toArray⟩)).setCell ⟨g, k * 3 + 2, none⟩ (.int .i64 f.safe)) (some g) := by
  have h1 := h.stored (k * 3) (.string ⟨f.name.toArray⟩)
  have h2 := h1.1.stored (k * 3 + 1) (.string ⟨f.data.toArray⟩)
  have h3 := h2.1.stored (k * 3 + 2) (.int .i64 f.safe)
  rw [filesC_set fs k f hk] at h3
  exact ⟨h3.1, grown_trans (grown_trans h1.2 h2.2) h3.2⟩
end Go.Proofs.Ytfnkcpjfjijglaa
