/- The walks of the specification's l04Copy and ReadFile. -/
import Derived.Test.YtfnkcpjfjijglaaSpecDisk
namespace Go.Proofs.Ytfnkcpjfjijglaa
open Go.RowKit
set_option linter.unusedVariables false
attribute [local go_sem ↓] Go.wp_at_zero Go.wp_at_succ

theorem filesC_one (fs : List FileL) : ∀ u ∈ filesC fs, u.oneCell' = true := by
  intro u hu
  simp only [filesC, List.mem_flatMap] at hu
  obtain ⟨f, _, hf⟩ := hu
  simp only [fcs, List.mem_cons, List.not_mem_nil, or_false] at hf
  rcases hf with rfl | rfl | rfl <;> rfl
theorem files_news {w : World} {B g n cap : Nat} {e : TypeId} {fs : List FileL} (h : w.ownsRow B e 3 (.slice (some ⟨g, 0, none⟩) n cap) n (filesC fs)) : ∀ j u, (filesC fs)[j]? = some u → w.cell? ((⟨g, 0, none⟩ : Addr).add j) = some u := h.cells (g := g) rfl
theorem ownsRow_empty (w : World) (B : Nat) (e : TypeId) (n : Nat) (h : w.heap.size = n) (hB : B ≤ n) : (w.alloc (.cells #[] e)).ownsRow B e 3 (.slice (some ⟨n, 0, none⟩) 0 0) 0 [] := by
  subst h
  exact ⟨rfl, .inr ⟨w.heap.size, 0, #[], rfl, hB, heap_alloc_new w _, Nat.le_refl _, Nat.zero_le _, rfl, rfl⟩⟩
/-- A row that has a place of its own, empty or not. -/
def RowAt (w : World) (B g cap : Nat) (fs : List FileL) : Prop := w.ownsRow B 34 3 (.slice (some ⟨g, 0, none⟩) fs.length cap) fs.length (filesC fs)
set_option maxRecDepth 100000 in
set_option maxHeartbeats 1600000 in
theorem specCopy_any (ba ga ca : Nat) (fs : List FileL) (w : World) (hA : RowAt w ba ga ca fs) (hl : fs.length ≤ 2000000) :
    Calls Try.prog 31 #[.agg #[.slice (some ⟨ga, 0, none⟩) fs.length ca]] w fun e w' => ∃ g cap, e = .returned (.agg #[.slice (some ⟨g, 0, none⟩) fs.length cap]) ∧ RowAt w' w.heap.size g cap fs ∧ Below w.heap.size w w' := by
  obtain ⟨i0, hi0, hz0, hz1, hz2⟩ := info_parts infoFile
  have HA := hide hA
  clear hA
  go_enter Try.func31, Try.ntmps31
  go_wp2_with (at_builtin; refine wpList_append_own _ rfl _ _ 24 rfl (w.heap.size + 1 + 1) 34 i0 _ 3 40 Try.underlying24 hi0 hz0 hz1 hz2 rfl (by omega) _ 0 [] rfl (ownsRow_empty _ _ _ (w.heap.size + 1 + 1) (by simp) (by omega)) ⟨ga, 0, none⟩ fs.length ca (filesC fs) rfl (filesC_length fs) (files_news ((((unhide HA).alloc _).alloc _).alloc _)) (filesC_one fs) (by unfold maxLen; omega) (by omega) (by simp <;> omega) ?_)
  intro v3 w3 hov hgr hne
  obtain ⟨g, cap, rfl⟩ := (World.ownsRow.cases hov).resolve_left (fun h => hne h.1)
  have hb3 : Below w.heap.size w w3 := ((((Below.refl _ _).alloc (Nat.le_refl _) _).alloc (by simp) _).alloc (by simp; omega) _).grown hgr (by simp; omega) (fun j hj => by simp [Value.ownBlock] at hj; omega)
  have d1 : w3.heap[w.heap.size + 1]? = some (.cells #[Value.slice none 0 0] 26 (0, 0)) := by
    rw [hgr.block _ (by simp <;> omega) (by simp [Value.ownBlock]), Below.heap_alloc _ _ _ (by simp)]; exact alloc_at _ _ _ (by simp)
  have e1 : w3.cell? ⟨w.heap.size + 1, 0, none⟩ = some (.slice none 0 0) := by rw [cell_of_row w3 _ 0 _ _ _ d1]; rfl
  have f1 : w3.frozen? ⟨w.heap.size + 1, 0, none⟩ = false := by simp [World.frozen?, d1]
  have R1 := ownsRow_base (ownsRow_far hov ⟨w.heap.size + 1, 0, none⟩ (.slice (some ⟨g, 0, none⟩) fs.length cap) (by show w.heap.size + 1 < _; omega)) (B' := w.heap.size) (by omega)
  have R2 := hb3.setCell (p := ⟨w.heap.size + 1, 0, none⟩) (by show _ ≤ w.heap.size + 1; omega) (.slice (some ⟨g, 0, none⟩) fs.length cap)
  have r1 := cell_of_row _ _ 0 _ _ _ (store_one d1 (.slice (some ⟨g, 0, none⟩) fs.length cap))
  clear hov hgr hb3 d1 HA hne
  go_wp2
  refine bodyPost_ret (v := .agg #[.slice (some ⟨g, 0, none⟩) fs.length cap]) (by simp [results, Try.results31, go_sem, r1]) rfl ⟨g, cap, rfl, R1, R2⟩
end Go.Proofs.Ytfnkcpjfjijglaa
