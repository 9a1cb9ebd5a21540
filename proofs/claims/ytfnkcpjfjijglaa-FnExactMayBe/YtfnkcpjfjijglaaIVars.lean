/- The variables of the program's functions over a disk: d, which may be nothing at all, the result, and a disk of its own. -/
import Derived.Test.YtfnkcpjfjijglaaSpecDisk2
import Derived.Deep.DeepCutAuto
import Derived.Deep.RegionWith
namespace Go.Proofs.Ytfnkcpjfjijglaa
open Go.RowKit
set_option linter.unusedVariables false
attribute [local go_sem ↓] Go.wp_at_zero Go.wp_at_succ

/-- A variable's block is no row of another type. -/
theorem heap_farG {w w' : World} {b B n size : Nat} {e : TypeId} {v val : Value} {xs : List Value} (hg : w.grownBy w' v.ownBlock) (hr : w.ownsRow B e size v n xs) (h : w.heap[b]? = some (.cells #[val] 26 (0, 0))) (he : e ≠ 26) : w'.heap[b]? = some (.cells #[val] 26 (0, 0)) := by
  rw [hg.block b (Array.getElem?_eq_some_iff.1 h).1 ?_]; exact h
  intro e1
  rcases hr.2 with ⟨rfl, _⟩ | ⟨g, cap, cur, rfl, _, hg', _⟩
  · simp [Value.ownBlock] at e1
  · simp only [Value.ownBlock, Option.some.injEq] at e1
    subst e1
    rw [hg'] at h
    simp at h
    exact he h.2
theorem apart_old {va : Value} {n g : Nat} (h : ∀ x, va.ownBlock = some x → x < n) (hg : n ≤ g) : va.ownBlock = none ∨ va.ownBlock ≠ some g := by
  cases hv : va.ownBlock with
  | none => exact .inl rfl
  | some x => exact .inr (fun e => by cases e; have := h g hv; omega)
/-- The variables of a call over a disk: d, the result, and out, with the rows of d and of out; nothing below is written. -/
structure IVars (w W : World) (b ba : Nat) (va : Value) (g cap : Nat) (fs : List FileL) (r : Value) (us : List FileL) : Prop where
  d : W.heap[w.heap.size]? = some (.cells #[va] 26 (0, 0))
  res : W.heap[w.heap.size + 1]? = some (.cells #[r] 26 (0, 0))
  out : W.heap[b]? = some (.cells #[.slice (some ⟨g, 0, none⟩) us.length cap] 26 (0, 0))
  lt : w.heap.size + 1 < b
  row : W.ownsRow ba 34 3 va fs.length (filesC fs)
  row2 : RowAt W (w.heap.size + 1 + 1) g cap us
  below : Below w.heap.size w W
  galt : ∀ x, va.ownBlock = some x → x < w.heap.size
theorem ivars_copy {w w1 : World} {ba g cap : Nat} {va : Value} {fs : List FileL} (HA : w.ownsRow ba 34 3 va fs.length (filesC fs))
    (ho : RowAt w1 ((w.alloc (Obj.cells #[va] 26)).alloc (Obj.cells #[Value.slice none 0 0] 26)).heap.size g cap fs)
    (hb1 : Below ((w.alloc (Obj.cells #[va] 26)).alloc (Obj.cells #[Value.slice none 0 0] 26)).heap.size ((w.alloc (Obj.cells #[va] 26)).alloc (Obj.cells #[Value.slice none 0 0] 26)) w1) :
    IVars w (w1.alloc (Obj.cells #[Value.slice (some ⟨g, 0, none⟩) fs.length cap] 26)) w1.heap.size ba va g cap fs (.slice none 0 0) fs := by
  have hs : ((w.alloc (Obj.cells #[va] 26)).alloc (Obj.cells #[Value.slice none 0 0] 26)).heap.size = w.heap.size + 1 + 1 := by simp
  have h1 := hb1.size
  rw [hs] at h1 ho
  have hb2 := hb1.alloc hb1.size (Obj.cells #[Value.slice (some ⟨g, 0, none⟩) fs.length cap] 26)
  refine ⟨?_, ?_, heap_alloc_new _ _, by omega, ?_, ?_, ?_, fun x hx => (World.ownsRow.lt HA x hx).2⟩
  · rw [hb2.block _ (by rw [hs]; omega), Below.heap_alloc _ _ _ (by simp)]; exact heap_alloc_new _ _
  · rw [hb2.block _ (by rw [hs]; omega)]; exact alloc_at _ _ _ (by simp)
  · exact ownsRow_below ((World.ownsRow.alloc (World.ownsRow.alloc HA _) _)) hb2
  · exact World.ownsRow.alloc ho _
  · exact ((((Below.refl _ _).alloc (Nat.le_refl _) _).alloc (by simp) _)).trans (hb2.mono (by rw [hs]; omega))
theorem ivars_below {w W W' : World} {b ba g cap : Nat} {va : Value} {fs us : List FileL} {r : Value} (h : IVars w W b ba va g cap fs r us) (hb : Below W.heap.size W W') : IVars w W' b ba va g cap fs r us := by
  have lt : ∀ k x, W.heap[k]? = some x → W'.heap[k]? = some x := fun k x hx => by
    rw [hb.block k (Array.getElem?_eq_some_iff.1 hx).1]; exact hx
  exact ⟨lt _ _ h.d, lt _ _ h.res, lt _ _ h.out, h.lt, ownsRow_below h.row hb, ownsRow_below h.row2 hb, h.below.trans (hb.mono h.below.size), h.galt⟩
theorem ivars_cells {w W : World} {b ba g cap : Nat} {va : Value} {fs us : List FileL} {r : Value} (h : IVars w W b ba va g cap fs r us) :
    W.cell? ⟨w.heap.size, 0, none⟩ = some va ∧ W.cell? ⟨w.heap.size + 1, 0, none⟩ = some r ∧ W.cell? ⟨b, 0, none⟩ = some (.slice (some ⟨g, 0, none⟩) us.length cap) ∧ W.frozen? ⟨w.heap.size + 1, 0, none⟩ = false ∧ W.frozen? ⟨b, 0, none⟩ = false := by
  refine ⟨?_, ?_, ?_, ?_, ?_⟩
  · rw [cell_of_row W _ 0 _ _ _ h.d]; rfl
  · rw [cell_of_row W _ 0 _ _ _ h.res]; rfl
  · rw [cell_of_row W _ 0 _ _ _ h.out]; rfl
  · simp [World.frozen?, h.res]
  · simp [World.frozen?, h.out]
/-- A cell of a file of out is written. -/
theorem ivars_store {w W : World} {b ba g cap : Nat} {va : Value} {fs us us' : List FileL} {r : Value} (h : IVars w W b ba va g cap fs r us) (i : Nat) (u : Value) (hs : (filesC us).set i u = filesC us') (hl : us'.length = us.length) :
    IVars w (W.setCell ⟨g, i, none⟩ u) b ba va g cap fs r us' := by
  have S := h.row2.stored i u
  rw [hs] at S
  have hg := (h.row2.lt g rfl).1
  have hne : g ≠ b := by
    intro e
    rcases h.row2.2 with ⟨h', _⟩ | ⟨g', cap', cur, h', hb, hg', _⟩
    · simp at h'
    · simp only [Value.slice.injEq, Option.some.injEq, Addr.mk.injEq, and_true, true_and] at h'
      have ho := h.out
      rw [← e, h'.1, hg'] at ho
      simp at ho
  have hblt := h.lt
  refine ⟨block_set_other h.d g i u (by omega), block_set_other h.res g i u (by omega), ?_, h.lt, ?_, ?_, ?_, h.galt⟩
  · rw [hl]; exact block_set_other h.out g i u hne
  · exact World.ownsRow.kept h.row S.2 (apart_old h.galt (by omega))
  · unfold RowAt; rw [hl]; exact S.1
  · exact h.below.setCell (p := ⟨g, i, none⟩) (by show _ ≤ g; omega) u
theorem ivars_drew {w W : World} {b ba g cap : Nat} {va : Value} {fs us : List FileL} {r : Value} (h : IVars w W b ba va g cap fs r us) : IVars w W.drew b ba va g cap fs r us :=
  ⟨h.d, h.res, h.out, h.lt, World.ownsRow.drew h.row, World.ownsRow.drew h.row2, h.below.drew, h.galt⟩
/-- How much of a file is safe is written. -/
theorem ivars_safe {w W : World} {b ba g cap : Nat} {va : Value} {fs us : List FileL} {r : Value} (h : IVars w W b ba va g cap fs r us) {j : Nat} (hj : j < us.length) (n : Int) :
    IVars w (W.setCell ⟨g, j * 3 + 2, none⟩ (.int .i64 n)) b ba va g cap fs r (us.set j ⟨(us[j]).name, (us[j]).data, n⟩) :=
  ivars_store h _ _ (set_safe us j n hj) (by simp)
/-- The result is laid. -/
theorem ivars_end {w W : World} {b ba g cap : Nat} {va : Value} {fs us : List FileL} {r : Value} (h : IVars w W b ba va g cap fs r us) (u : Value) :
    (W.setCell ⟨w.heap.size + 1, 0, none⟩ u).cell? ⟨w.heap.size + 1, 0, none⟩ = some u ∧ RowAt (W.setCell ⟨w.heap.size + 1, 0, none⟩ u) w.heap.size g cap us ∧ Below w.heap.size w (W.setCell ⟨w.heap.size + 1, 0, none⟩ u) := by
  refine ⟨?_, ownsRow_base (ownsRow_far h.row2 ⟨w.heap.size + 1, 0, none⟩ u (by show w.heap.size + 1 < _; omega)) (by omega), h.below.setCell (p := ⟨w.heap.size + 1, 0, none⟩) (by show _ ≤ w.heap.size + 1; omega) u⟩
  rw [cell_of_row _ _ 0 _ _ _ (store_one h.res u)]; rfl
/-- A copy that was made is laid as the result. -/
theorem ivars_endcopy {w W w5 : World} {b ba g cap g5 cap5 : Nat} {va : Value} {fs us vs : List FileL} {r : Value} (h : IVars w W b ba va g cap fs r us) (ho : RowAt w5 W.heap.size g5 cap5 vs) (hb : Below W.heap.size W w5) (u : Value) :
    w5.cell? ⟨w.heap.size + 1, 0, none⟩ = some r ∧ w5.frozen? ⟨w.heap.size + 1, 0, none⟩ = false ∧ (w5.setCell ⟨w.heap.size + 1, 0, none⟩ u).cell? ⟨w.heap.size + 1, 0, none⟩ = some u ∧ RowAt (w5.setCell ⟨w.heap.size + 1, 0, none⟩ u) w.heap.size g5 cap5 vs ∧ Below w.heap.size w (w5.setCell ⟨w.heap.size + 1, 0, none⟩ u) := by
  have h5 := ivars_below h hb
  have hlt : w.heap.size + 1 < W.heap.size := (Array.getElem?_eq_some_iff.1 h.res).1
  obtain ⟨-, e1, -, e2, -⟩ := ivars_cells h5
  obtain ⟨e3, -, e4⟩ := ivars_end h5 u
  exact ⟨e1, e2, e3, ownsRow_base (ownsRow_far ho ⟨w.heap.size + 1, 0, none⟩ u (by show w.heap.size + 1 < _; exact hlt)) (by omega), e4⟩
/-- A file was put behind those of out. -/
theorem ivars_append {w W W' : World} {b ba g cap g' cap' : Nat} {va : Value} {fs us us' : List FileL} {r : Value} {o : Obj} (h : IVars w W b ba va g cap fs r us) (ho : W'.ownsRow (w.heap.size + 1 + 1) 34 3 (.slice (some ⟨g', 0, none⟩) us'.length cap') us'.length (filesC us')) (hg : (W.alloc o).grownBy W' (some g)) :
    W'.cell? ⟨b, 0, none⟩ = some (.slice (some ⟨g, 0, none⟩) us.length cap) ∧ W'.frozen? ⟨b, 0, none⟩ = false ∧ IVars w (W'.setCell ⟨b, 0, none⟩ (.slice (some ⟨g', 0, none⟩) us'.length cap')) b ba va g' cap' fs r us' := by
  have hgg := (h.row2.lt g rfl).1
  have hblt := h.lt
  have hne : g ≠ b := by
    intro e
    rcases h.row2.2 with ⟨h', _⟩ | ⟨g0, cap0, cur, h', hb, hg', _⟩
    · simp at h'
    · simp only [Value.slice.injEq, Option.some.injEq, Addr.mk.injEq, and_true, true_and] at h'
      have ho := h.out
      rw [← e, h'.1, hg'] at ho
      simp at ho
  have keep : ∀ k x, W.heap[k]? = some x → k ≠ g → W'.heap[k]? = some x := fun k x hx hk => by
    have hlt := (Array.getElem?_eq_some_iff.1 hx).1
    rw [hg.block k (by simp; omega) (fun e => hk (by simpa using e)), Below.heap_alloc W _ k hlt]; exact hx
  have k1 := keep _ _ h.d (by omega)
  have k2 := keep _ _ h.res (by omega)
  have k3 := keep _ _ h.out (Ne.symm hne)
  have hne2 : g' ≠ b := by
    intro e
    rcases ho.2 with ⟨h', _⟩ | ⟨g0, cap0, cur, h', hb, hg', _⟩
    · simp at h'
    · simp only [Value.slice.injEq, Option.some.injEq, Addr.mk.injEq, and_true, true_and] at h'
      rw [← e, h'.1, hg'] at k3
      simp at k3
  have hbel : Below w.heap.size w W' := (h.below.alloc h.below.size o).grown hg (by have := h.below.size; simp; omega) (fun k hk => by cases hk; omega)
  refine ⟨by rw [cell_of_row W' _ 0 _ _ _ k3]; rfl, by simp [World.frozen?, k3], block_set_other k1 b 0 _ (by omega), block_set_other k2 b 0 _ (by omega), store_one k3 _, h.lt, ?_, ?_, hbel.setCell (p := ⟨b, 0, none⟩) (by show _ ≤ b; omega) _, h.galt⟩
  · have r1 : W'.ownsRow ba 34 3 va fs.length (filesC fs) := World.ownsRow.kept (World.ownsRow.alloc h.row o) hg (apart_old h.galt (by omega))
    exact World.ownsRow.kept r1 (grown_set W' ⟨b, 0, none⟩ _) (apart_old h.galt (by show w.heap.size ≤ b; omega))
  · exact World.ownsRow.kept ho (grown_set W' ⟨b, 0, none⟩ _) (.inr (by intro e; simp only [Value.ownBlock, Option.some.injEq] at e; exact hne2 e))
end Go.Proofs.Ytfnkcpjfjijglaa
