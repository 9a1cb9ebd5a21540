/- The walk of the program's own copy of a disk. -/
import Derived.Test.YtfnkcpjfjijglaaImplDisk
import Derived.Deep.DeepCutAuto
import Derived.Deep.RegionWith
namespace Go.Proofs.Ytfnkcpjfjijglaa
open Go.RowKit
set_option linter.unusedVariables false
attribute [local go_sem ↓] Go.wp_at_zero Go.wp_at_succ

theorem imp_step {p q : Prop} (h : p) (k : p → q) : q := k h
theorem frozen_later {w w' : World} {p : Addr} {v : Value} (hb : Below w.heap.size w w') (h : w.cell? p = some v) (f : w.frozen? p = false) : w'.frozen? p = false := (hb.frozen (World.block_lt_of_cell? _ _ h)).trans f
theorem cell_other {w : World} {b j g i : Nat} {v : Value} (h : w.cell? ⟨b, j, none⟩ = some v) (u : Value) (hne : g ≠ b) : (w.setCell ⟨g, i, none⟩ u).cell? ⟨b, j, none⟩ = some v := by
  rw [World.cell?_of_block (w := w) (w' := w.setCell ⟨g, i, none⟩ u) (heap_setCell_other w ⟨g, i, none⟩ b u (fun e => hne e.symm))]; exact h
theorem cell_three {w : World} {b j g i1 i2 i3 : Nat} {v u1 u2 u3 : Value} (h : w.cell? ⟨b, j, none⟩ = some v) (hne : g ≠ b) : (((w.setCell ⟨g, i1, none⟩ u1).setCell ⟨g, i2, none⟩ u2).setCell ⟨g, i3, none⟩ u3).cell? ⟨b, j, none⟩ = some v :=
  cell_other (cell_other (cell_other h u1 hne) u2 hne) u3 hne
/-- What holds while files are copied: k of them are, and the result is not laid yet. -/
structure Cop (w W : World) (fs : List FileL) (k : Nat) : Prop where
  row : W.ownsRow (w.heap.size + 1) 34 3 (.slice (some ⟨w.heap.size + 1, 0, none⟩) fs.length fs.length) fs.length (filesC (partF fs k))
  res : W.heap[w.heap.size]? = some (.cells #[.slice none 0 0] 26 (0, 0))
  below : Below w.heap.size w W
theorem cop_below {w W W' : World} {fs : List FileL} {k : Nat} (h : Cop w W fs k) (hb : Below W.heap.size W W') : Cop w W' fs k :=
  ⟨ownsRow_below h.row hb, heap_later hb h.res, h.below.trans (hb.mono h.below.size)⟩
theorem cop_drew {w W : World} {fs : List FileL} {k : Nat} (h : Cop w W fs k) : Cop w W.drew fs k := ⟨h.row.drew, h.res, h.below.drew⟩
theorem cop_tgt {w W : World} {fs : List FileL} {k : Nat} (h : Cop w W fs k) (hk : k < fs.length) : ∃ q : FileL, W.cell? ⟨w.heap.size + 1, k * 3, none⟩ = some (.string ⟨q.name.toArray⟩) ∧ W.cell? ⟨w.heap.size + 1, k * 3 + 1, none⟩ = some (.string ⟨q.data.toArray⟩) ∧ W.cell? ⟨w.heap.size + 1, k * 3 + 2, none⟩ = some (.int .i64 q.safe)
    ∧ W.frozen? ⟨w.heap.size + 1, k * 3, none⟩ = false ∧ W.frozen? ⟨w.heap.size + 1, k * 3 + 1, none⟩ = false ∧ W.frozen? ⟨w.heap.size + 1, k * 3 + 2, none⟩ = false := by
  have hkp : k < (partF fs k).length := by rw [partF_length]; exact hk
  obtain ⟨d1, d2, d3⟩ := filesC_cell h.row hkp
  exact ⟨_, d1, d2, d3, h.row.frozenAt _, h.row.frozenAt _, h.row.frozenAt _⟩
theorem cop_store {w W : World} {fs : List FileL} {k : Nat} (h : Cop w W fs k) (hk : k < fs.length) {nm dt : List UInt8} {sf : Int} (hp : fs[k] = ⟨nm, dt, sf⟩) :
    Cop w (((W.setCell ⟨w.heap.size + 1, k * 3, none⟩ (.string ⟨nm.toArray⟩)).setCell ⟨w.heap.size + 1, k * 3 + 1, none⟩ (.string ⟨dt.toArray⟩)).setCell ⟨w.heap.size + 1, k * 3 + 2, none⟩ (.int .i64 sf)) fs (k + 1) := by
  have hkp : k < (partF fs k).length := by rw [partF_length]; exact hk
  have R := filesC_stored h.row ⟨nm, dt, sf⟩ hkp
  rw [← hp, partF_set fs k hk, hp] at R
  exact ⟨R.1, block_set_other (block_set_other (block_set_other h.res _ _ _ (by omega)) _ _ _ (by omega)) _ _ _ (by omega), h.below.grown R.2 h.below.size (fun k hk => by cases hk; omega)⟩
set_option maxRecDepth 100000 in
set_option maxHeartbeats 1600000 in
theorem copied_gen (b ba : Nat) (va : Value) (fs : List FileL) (w : World) (c0 : w.cell? ⟨b, 0, none⟩ = some va) (hA : w.ownsRow ba 34 3 va fs.length (filesC fs)) (hl : fs.length ≤ 2000000) (hf : FewF fs 1048576) :
    Calls Try.prog 27 #[.pointer (some ⟨b, 0, none⟩)] w fun e w' => ∃ g cap, e = .returned (.agg #[.slice (some ⟨g, 0, none⟩) fs.length cap]) ∧ RowAt w' w.heap.size g cap fs ∧ Below w.heap.size w w' := by
  obtain ⟨i0, hi0, hz0, hz1, hz2⟩ := info_parts infoFile
  obtain ⟨aa, ca, rfl, sga⟩ := ownsRow_shape hA
  have HA := hide hA
  have HF := hide hf
  have hblt := World.block_lt_of_cell? _ _ c0
  have hblt : b < w.heap.size := hblt
  clear hA hf
  go_enter Try.func27, Try.ntmps27
  go_wp2_with (at_make; refine wpList_make_full _ rfl _ _ 24 rfl (w.heap.size + 1) 34 i0 _ 3 Try.underlying24 hi0 hz0 hz1 .i64 .i64 _ _ fs.length rfl rfl rfl rfl (by rw [hz2]; omega) (by unfold maxLen; omega) (by simp) ?_)
  intro w0 hown0 hgrow0
  have hb0 : Below w.heap.size w w0 := ((Below.refl _ _).alloc (Nat.le_refl _) _).grown hgrow0 (by simp) (fun k hk => by cases hk)
  have hown1 : w0.ownsRow (w.heap.size + 1) 34 3 (.slice (some ⟨w.heap.size + 1, 0, none⟩) fs.length fs.length) fs.length (filesC (partF fs 0)) := by
    rw [partF_zero, ← made_files]
    have e := made_many #[.string ⟨#[]⟩, .string ⟨#[]⟩, .int .i64 0] fs.length
    rw [← show #[Value.string ⟨#[]⟩, .string ⟨#[]⟩, .int .i64 0].toList = [Value.string ⟨#[]⟩, .string ⟨#[]⟩, .int .i64 0] from rfl, ← e]
    simpa using hown0
  have hres : w0.heap[w.heap.size]? = some (.cells #[.slice none 0 0] 26 (0, 0)) := by
    rw [hgrow0.block _ (by simp) (by simp)]; exact heap_alloc_new w _
  have HC0 := hide (Cop.mk hown1 hres hb0)
  have c1 := cell_later hb0 c0
  clear hown0 hgrow0 hown1 hres
  go_wp2
  go_loopw [17] (fun i wr => ∃ k : Nat, k ≤ fs.length ∧ i = .int .i64 k ∧ Hid (Cop w wr fs k))
    (fun i _ => fs.length - (intOf i).toNat)
  case atStart => exact ⟨0, Nat.zero_le _, rfl, HC0⟩
  case round =>
    obtain ⟨k, hk, rfl, HC⟩ := hrel
    clear HC0 c1 hb0
    have hb := (unhide HC).below
    have hsz := hb.size
    have hsr : w.heap.size + 1 < wr.heap.size := ((unhide HC).row.lt _ rfl).2
    by_cases hlt : k < fs.length
    · obtain ⟨ga, rfl⟩ := sga (by omega)
      obtain ⟨x1, x2, x3⟩ := filesC_cell (ownsRow_below (unhide HA) hb) hlt
      have hp := (unhide HF) _ (List.getElem_mem hlt)
      obtain ⟨p, hpe⟩ : ∃ p, fs[k] = p := ⟨_, rfl⟩
      rw [hpe] at x1 x2 x3 hp
      obtain ⟨nm, dt, sf⟩ := p
      simp only at x1 x2 x3 hp
      have HP := hide hpe
      have hp1 : nm.length ≤ 281474976710656 := by omega
      have hp2 : dt.length ≤ 281474976710656 := by omega
      have hk0 : (0 : Int) ≤ (k : Int) := Int.natCast_nonneg _
      have hk1 : (k : Int) < (fs.length : Int) := by omega
      clear hpe hp hb sga
      go_upto_region 5 with fail
      obtain ⟨W1, hW1⟩ : ∃ W1, W1 = wr.alloc (Obj.cells #[.string ⟨nm.toArray⟩, .string ⟨dt.toArray⟩, .int .i64 sf] 34) := ⟨_, rfl⟩
      have HC1 : Hid (Cop w W1 fs k) := by rw [hW1]; exact hide (cop_below (unhide HC) ((Below.refl _ _).alloc (Nat.le_refl _) _))
      have d1 : W1.cell? ⟨wr.heap.size, 0, none⟩ = some (.string ⟨nm.toArray⟩) := by rw [hW1, cell_of_row _ _ 0 _ _ _ (heap_alloc_new wr _)]; rfl
      have d2 : W1.cell? ⟨wr.heap.size, 1, none⟩ = some (.string ⟨dt.toArray⟩) := by rw [hW1, cell_of_row _ _ 1 _ _ _ (heap_alloc_new wr _)]; rfl
      have d3 : W1.cell? ⟨wr.heap.size, 2, none⟩ = some (.int .i64 sf) := by rw [hW1, cell_of_row _ _ 2 _ _ _ (heap_alloc_new wr _)]; rfl
      rw [← hW1]
      clear hW1 HC x1 x2 x3 c0
      obtain ⟨bf, hbf⟩ : ∃ bf, bf = wr.heap.size := ⟨_, rfl⟩
      rw [← hbf] at d1 d2 d3 hsr ⊢
      have hne : w.heap.size + 1 ≠ bf := by omega
      clear hbf hsz
      go_region_held3 (fun w' => w'.cell? ⟨bf, 0, none⟩ = some (.string ⟨nm.toArray⟩) ∧ w'.cell? ⟨bf, 1, none⟩ = some (.string ⟨dt.toArray⟩) ∧ w'.cell? ⟨bf, 2, none⟩ = some (.int .i64 sf))
        (first
          | exact ⟨d1, d2, d3⟩
          | exact ⟨cell_three (cell_later hbN (cell_later hbD d1)) hne, cell_three (cell_later hbN (cell_later hbD d2)) hne, cell_three (cell_later hbN (cell_later hbD d3)) hne⟩
          | exact ⟨cell_three (cell_later hbD (cell_later hbN d1)) hne, cell_three (cell_later hbD (cell_later hbN d2)) hne, cell_three (cell_later hbD (cell_later hbN d3)) hne⟩
          | exact ⟨cell_later hbN (cell_later hbD d1), cell_later hbN (cell_later hbD d2), cell_later hbN (cell_later hbD d3)⟩
          | exact ⟨cell_later hbD (cell_later hbN d1), cell_later hbD (cell_later hbN d2), cell_later hbD (cell_later hbN d3)⟩
          | exact ⟨cell_later hbN d1, cell_later hbN d2, cell_later hbN d3⟩
          | exact ⟨cell_later hbD d1, cell_later hbD d2, cell_later hbD d3⟩)
        (first
          | (go_at_call 46; refine (implClone_any nm _ hp1).mono ?_; rintro e wN ⟨rfl, hbN⟩; first | (refine imp_step (cop_tgt (cop_below (cop_below (cop_drew (unhide HC1)) hbD) hbN) hlt) ?_; rintro ⟨q, t1, t2, t3, s1, s2, s3⟩) | skip)
          | (go_at_call 46; refine (implClone_any dt _ hp2).mono ?_; rintro e wD ⟨rfl, hbD⟩; first | (refine imp_step (cop_tgt (cop_below (cop_below (cop_drew (unhide HC1)) hbN) hbD) hlt) ?_; rintro ⟨q, t1, t2, t3, s1, s2, s3⟩) | skip))
      all_goals
        first
          | (refine imp_step (hide (cop_store (cop_below (cop_below (cop_drew (unhide HC1)) hbD) hbN) hlt (unhide HP))) ?_; intro R)
          | (refine imp_step (hide (cop_store (cop_below (cop_below (cop_drew (unhide HC1)) hbN) hbD) hlt (unhide HP))) ?_; intro R)
        clear hbN hbD HC1 HP d1 d2 d3 t1 t2 t3 s1 s2 s3
        go_wp2
        go_roundw
        case rel => exact ⟨k + 1, by omega, by go_num, R⟩
        case measure => simp [intOf]; omega
    · have e1 : wr.cell? ⟨w.heap.size, 0, none⟩ = some (.slice none 0 0) := cell_one (unhide HC).res
      have f1 : wr.frozen? ⟨w.heap.size, 0, none⟩ = false := by simp [World.frozen?, (unhide HC).res]
      have R1 := (unhide HC).row
      rw [partF_all fs k hlt] at R1
      have R2 := ownsRow_base (ownsRow_far R1 ⟨w.heap.size, 0, none⟩ (.slice (some ⟨w.heap.size + 1, 0, none⟩) fs.length fs.length) (by show w.heap.size < _; omega)) (B' := w.heap.size) (by omega)
      have R3 := hb.setCell (p := ⟨w.heap.size, 0, none⟩) (Nat.le_refl _) (.slice (some ⟨w.heap.size + 1, 0, none⟩) fs.length fs.length)
      have r1 := cell_of_row _ _ 0 _ _ _ (store_one (unhide HC).res (.slice (some ⟨w.heap.size + 1, 0, none⟩) fs.length fs.length))
      clear R1 HC c0 hb HA HF sga
      go_wp2
      refine bodyPost_ret (v := .agg #[.slice (some ⟨w.heap.size + 1, 0, none⟩) fs.length fs.length]) (by simp [results, Try.results27, go_sem, r1]) rfl ⟨_, _, rfl, R2, R3⟩
theorem copied_any (b ba ga ca : Nat) (fs : List FileL) (w : World) (c0 : w.cell? ⟨b, 0, none⟩ = some (.slice (some ⟨ga, 0, none⟩) fs.length ca)) (hA : RowAt w ba ga ca fs) (hl : fs.length ≤ 2000000) (hf : FewF fs 1048576) :
    Calls Try.prog 27 #[.pointer (some ⟨b, 0, none⟩)] w fun e w' => ∃ g cap, e = .returned (.agg #[.slice (some ⟨g, 0, none⟩) fs.length cap]) ∧ RowAt w' w.heap.size g cap fs ∧ Below w.heap.size w w' :=
  copied_gen b ba _ fs w c0 hA hl hf
end Go.Proofs.Ytfnkcpjfjijglaa
