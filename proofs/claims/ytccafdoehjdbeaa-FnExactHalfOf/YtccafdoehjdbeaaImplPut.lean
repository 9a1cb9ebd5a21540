/- The walk of the heap's put: an entry is put ahead of the first that is not ahead of it. -/
import Derived.Test.YtccafdoehjdbeaaImplHeap
namespace Go.Proofs.Ytccafdoehjdbeaa
open Go.RowKit
set_option linter.unusedVariables false
set_option linter.unusedSimpArgs false
attribute [local go_sem ↓] Go.wp_at_zero Go.wp_at_succ

theorem heap_apart {w : World} {B b g c : Nat} {l : List QuadL} (h : HeapAt w B b g c l) : b ≠ g := by
  rintro rfl
  obtain ⟨cur, _, hg, _⟩ := row_of h.2
  have h1 := h.1
  rw [hg] at h1
  simp at h1
theorem stored_items {w : World} {b : Nat} {p q : Value} {T : TypeId} (h : w.heap[b]? = some (.cells #[p, q] T (0, 0))) (y : Value) :
    (w.setCell ⟨b, 1, none⟩ y).heap[b]? = some (.cells #[p, y] T (0, 0)) ∧ w.grownBy (w.setCell ⟨b, 1, none⟩ y) (some b) := by
  rw [setCell_eq_setRow w b 1 #[p, q] T (0, 0) y h]
  exact ⟨setRow_heap w b #[p, q] (#[p, q].setIfInBounds 1 y) T _ h, grown_setRow w b _⟩
theorem insert_put (g c B vb i : Nat) (l : List QuadL) (x : QuadL) (w : World) (hA : w.ownsRow B 29 4 (.slice (some ⟨g, 0, none⟩) l.length c) l.length (quadsC l)) (hx : w.heap[vb]? = some (.cells #[.int .i64 x.a, .int .i64 x.b, .int .i64 x.c, .int .i64 x.d] 29 (0, 0))) (hl : l.length ≤ 3000000) (hB : B ≤ w.heap.size) (hp : PlaceAt l x i) (hvb : vb ≠ g) :
    Calls Try.prog 44 #[.slice (some ⟨g, 0, none⟩) l.length c, .int .i64 (i : Int), .slice (some ⟨vb, 0, none⟩) 1 1] w fun e w' => InsIs w B g (putQ l x) e w' := by
  rw [place_put hp]
  exact insert_any g c B vb i l x w hA hx hl hB hp.1 hvb
set_option maxRecDepth 100000 in
set_option maxHeartbeats 6400000 in
theorem put_any (B b g c : Nat) (l : List QuadL) (x : QuadL) (w : World) (hA : HeapAt w B b g c l) (hl : l.length ≤ 3000000) (hBb : B ≤ b) :
    Calls Try.prog 38 #[.pointer (some ⟨b, 0, none⟩), quadV x] w fun e w' => e = .returned (.tuple #[]) ∧ (∃ g' c', HeapAt w' B b g' c' (putQ l x)) ∧ Below B w w' := by
  have hbg := heap_apart hA
  have hbl : b < w.heap.size := (Array.getElem?_eq_some_iff.1 hA.1).1
  obtain ⟨cur, hBg, hgg, -⟩ := row_of hA.2
  have hgl : g < w.heap.size := (Array.getElem?_eq_some_iff.1 hgg).1
  have HA := hide hA
  have CP := fun W (h : HeapAt W B b g c l) => hide (place_any B b g c l x W h hl)
  have CI := fun W vb i h1 h2 h3 h4 h5 => hide (insert_put g c B vb i l x W h1 h2 hl h3 h4 h5)
  have hPL := putQ_length l x
  have HPL := hide hPL
  clear hA hgg hPL
  generalize hPX : putQ l x = L at CI HPL ⊢
  clear hPX
  unfold quadV at CP ⊢
  go_enter Try.func38, Try.ntmps38
  go_wp2_with fail
  obtain ⟨W0, hW0⟩ : ∃ W0, W0 = w.alloc (Obj.cells #[.int .i64 x.a, .int .i64 x.b, .int .i64 x.c, .int .i64 x.d] 29) := ⟨_, rfl⟩
  have hb0 : Below w.heap.size w W0 := by rw [hW0]; exact (Below.refl _ _).alloc (Nat.le_refl _) _
  obtain ⟨bx, hbx⟩ : ∃ bx, bx = w.heap.size := ⟨_, rfl⟩
  have hX : W0.heap[bx]? = some (.cells #[.int .i64 x.a, .int .i64 x.b, .int .i64 x.c, .int .i64 x.d] 29 (0, 0)) := by rw [hW0, hbx]; exact heap_alloc_new w _
  have hbxg : bx ≠ g := by omega
  have hbxb : bx ≠ b := by omega
  have hwx : w.heap.size ≤ bx := by omega
  rw [← hW0, ← hbx]
  have H0 := hide (heapAt_later (unhide HA) hb0)
  have x0 := cellIn (i := 0) hX rfl
  have x1 := cellIn (i := 1) hX rfl
  have x2 := cellIn (i := 2) hX rfl
  have x3 := cellIn (i := 3) hX rfl
  have HX := hide hX
  clear hW0 hbx hX
  refine wp_region_held_drew (S := fun w' => w'.cell? ⟨bx, 0, none⟩ = some (.int .i64 x.a) ∧ w'.cell? ⟨bx, 1, none⟩ = some (.int .i64 x.b) ∧ w'.cell? ⟨bx, 2, none⟩ = some (.int .i64 x.c) ∧ w'.cell? ⟨bx, 3, none⟩ = some (.int .i64 x.d)) (by kernel_rfl) ⟨x0, x1, x2, x3⟩ (fun hS => ?_)
  obtain ⟨V0, hV0⟩ : ∃ V0, V0 = W0.drew := ⟨_, rfl⟩
  have TB : Below W0.heap.size W0 V0 := by rw [hV0]; exact (Below.refl _ _).drew
  rw [← hV0] at hS ⊢
  clear hV0
  refine wpAnyH_take (i := 0) (v := .pointer (some ⟨b, 0, none⟩)) rfl (by kernel_rfl) (by kernel_rfl) (by kernel_rfl) (fun _ _ _ h => h) (Or.inl ⟨by kernel_rfl, fun w hSw => by (try dsimp only at hSw); go_split_ands; go_simp⟩) (by assumption) ?_
  simp only [Act.put, List.getElem_toArray, List.getElem_cons_zero, List.setIfInBounds_toArray, List.set_cons_zero, List.set_cons_succ]
  refine wpAnyH_take (i := 1) (v := .pointer (some ⟨b, 0, none⟩)) rfl (by kernel_rfl) (by kernel_rfl) (by kernel_rfl) (fun _ _ _ h => h) (Or.inl ⟨by kernel_rfl, fun w hSw => by (try dsimp only at hSw); go_split_ands; go_simp⟩) (by assumption) ?_
  simp only [Act.put, List.getElem_toArray, List.getElem_cons_zero, List.getElem_cons_succ, List.setIfInBounds_toArray, List.set_cons_zero, List.set_cons_succ]
  refine wpAnyH_take (i := 2) (v := .pointer (some ⟨b, 0, none⟩)) rfl (by kernel_rfl) (by kernel_rfl) (by kernel_rfl) (fun _ _ _ h => h) (Or.inl ⟨by kernel_rfl, fun w hSw => by (try dsimp only at hSw); go_split_ands; go_simp⟩) (by assumption) ?_
  simp only [Act.put, List.getElem_toArray, List.getElem_cons_zero, List.getElem_cons_succ, List.setIfInBounds_toArray, List.set_cons_zero, List.set_cons_succ]
  refine wpAnyH_take (i := 3) (v := .pointer (some ⟨b, 1, none⟩)) rfl (by kernel_rfl) (by kernel_rfl) (by kernel_rfl) (fun _ _ _ h => h) (Or.inl ⟨by kernel_rfl, fun w hSw => by (try dsimp only at hSw); go_split_ands; go_simp⟩) (by assumption) ?_
  simp only [Act.put, List.getElem_toArray, List.getElem_cons_zero, List.getElem_cons_succ, List.setIfInBounds_toArray, List.set_cons_zero, List.set_cons_succ]
  refine wpAnyH_take (i := 5) (v := .pointer (some ⟨b, 0, none⟩)) rfl (by kernel_rfl) (by kernel_rfl) (by kernel_rfl) (fun _ _ _ h => h) (Or.inl ⟨by kernel_rfl, fun w hSw => by (try dsimp only at hSw); go_split_ands; go_simp⟩) (by assumption) ?_
  simp only [Act.put, List.getElem_toArray, List.getElem_cons_zero, List.getElem_cons_succ, List.setIfInBounds_toArray, List.set_cons_zero, List.set_cons_succ]
  refine wpAnyH_take (i := 6) (v := .agg #[.int .i64 x.a, .int .i64 x.b, .int .i64 x.c, .int .i64 x.d]) rfl (by kernel_rfl) (by kernel_rfl) (by kernel_rfl) (fun _ _ _ h => h) (Or.inl ⟨by kernel_rfl, fun w hSw => by (try dsimp only at hSw); go_split_ands; go_simp⟩) (by assumption) ?_
  simp only [Act.put, List.getElem_toArray, List.getElem_cons_zero, List.getElem_cons_succ, List.setIfInBounds_toArray, List.set_cons_zero, List.set_cons_succ]
  refine wpAnyH_take (i := 8) (v := .agg #[.int .i64 x.a, .int .i64 x.b, .int .i64 x.c, .int .i64 x.d]) rfl (by kernel_rfl) (by kernel_rfl) (by kernel_rfl) (fun _ _ _ h => h) (Or.inl ⟨by kernel_rfl, fun w hSw => by (try dsimp only at hSw); go_split_ands; go_simp⟩) (by assumption) ?_
  simp only [Act.put, List.getElem_toArray, List.getElem_cons_zero, List.getElem_cons_succ, List.setIfInBounds_toArray, List.set_cons_zero, List.set_cons_succ]
  refine wpAnyH_ready (rs := [4, 7, 9]) (by kernel_rfl) (by simp) ?_
  refine AllReadyH.cons (i := 4) rfl (fun K hK => ?_) (AllReadyH.cons (i := 7) rfl (fun K hK => ?_) (AllReadyH.cons (i := 9) rfl (fun K hK => ?_) AllReadyH.nil))
  · have q1 := cellIn (i := 1) (heapAt_later (unhide H0) TB).1 rfl
    go_simp
    have TB2 := TB
    refine hK.out _ _ ⟨cell_later TB2 x0, cell_later TB2 x1, cell_later TB2 x2, cell_later TB2 x3⟩ (fun hHeld1 => ?_)
    clear hK hS q1 TB
    try simp only [Act.put, List.getElem_toArray, List.getElem_cons_zero, List.getElem_cons_succ, List.setIfInBounds_toArray, List.set_cons_zero, List.set_cons_succ]
    have TB := TB2
    clear TB2
    refine wpAnyH_ready (rs := [7, 9]) (by kernel_rfl) (by simp) ?_
    refine AllReadyH.cons (i := 7) rfl (fun K hK => ?_) (AllReadyH.cons (i := 9) rfl (fun K hK => ?_) AllReadyH.nil)
    · go_simp
      refine (unhide (CP _ (heapAt_later (unhide H0) TB))).mono ?_
      rintro e V2 ⟨k, rfl, hpl, hb⟩
      have HP := hide hpl
      clear hpl
      go_wp2_with fail
      have TB2 := TB.trans (hb.mono TB.size)
      refine hK.out _ _ ⟨cell_later TB2 x0, cell_later TB2 x1, cell_later TB2 x2, cell_later TB2 x3⟩ (fun hHeld2 => ?_)
      clear hK hHeld1 hb TB
      try simp only [Act.put, List.getElem_toArray, List.getElem_cons_zero, List.getElem_cons_succ, List.setIfInBounds_toArray, List.set_cons_zero, List.set_cons_succ]
      have TB := TB2
      clear TB2
      refine wpAnyH_ready (rs := [9]) (by kernel_rfl) (by simp) ?_
      refine AllReadyH.cons (i := 9) rfl (fun K hK => ?_) AllReadyH.nil
      go_simp
      obtain ⟨V3, hN⟩ : ∃ V, V = V2.alloc (Obj.cells #[.int .i64 x.a, .int .i64 x.b, .int .i64 x.c, .int .i64 x.d] 29) := ⟨_, rfl⟩
      obtain ⟨vb, hx⟩ : ∃ b, b = V2.heap.size := ⟨_, rfl⟩
      have hb : Below V2.heap.size V2 V3 := by rw [hN]; exact (Below.refl _ _).alloc (Nat.le_refl _) _
      have hv : V3.heap[vb]? = some (.cells #[.int .i64 x.a, .int .i64 x.b, .int .i64 x.c, .int .i64 x.d] 29 (0, 0)) := by rw [hN, hx]; exact heap_alloc_new _ _
      have hvg : vb ≠ g := by have h1 := TB.size; have h2 := hb0.size; omega
      rw [← hN, ← hx]
      clear hN hx
      have TB2 := TB.trans (hb.mono TB.size)
      refine hK.out _ _ ⟨cell_later TB2 x0, cell_later TB2 x1, cell_later TB2 x2, cell_later TB2 x3⟩ (fun hHeld3 => ?_)
      clear hK hHeld2 hb TB
      try simp only [Act.put, List.getElem_toArray, List.getElem_cons_zero, List.getElem_cons_succ, List.setIfInBounds_toArray, List.set_cons_zero, List.set_cons_succ]
      have TB := TB2
      clear TB2
      refine wpAnyH_ready (rs := [10]) (by kernel_rfl) (by simp) ?_
      refine AllReadyH.cons (i := 10) rfl (fun K hK => ?_) AllReadyH.nil
      go_simp
      have hH := heapAt_later (unhide H0) TB
      refine (unhide (CI _ vb k hH.2 hv (by have h1 := TB.size; have h2 := hb0.size; omega) (unhide HP) hvg)).mono ?_
      rintro e V4 ⟨g1, cc1, rfl, hown, hgr, hnew⟩
      go_wp2_with fail
      have hbx2 : V4.heap[bx]? = some (.cells #[.int .i64 x.a, .int .i64 x.b, .int .i64 x.c, .int .i64 x.d] 29 (0, 0)) := by rw [hgr.block bx (Nat.lt_of_lt_of_le (Array.getElem?_eq_some_iff.1 (unhide HX)).1 TB.size) (by intro e; exact hbxg (Option.some.inj e))]; exact heapLater TB (unhide HX)
      have hbb2 : V4.heap[b]? = some (.cells #[.func (.func 15) #[] #[], .slice (some ⟨g, 0, none⟩) l.length c] 55 (0, 0)) := by rw [hgr.block b (Array.getElem?_eq_some_iff.1 hH.1).1 (by intro e; exact hbg (Option.some.inj e))]; exact hH.1
      have hgb : g1 ≠ b := by have h1 := TB.size; have h2 := hb0.size; rcases hnew with h | h <;> omega
      have hgx : g1 ≠ bx := by have h1 := TB.size; have h2 := (Array.getElem?_eq_some_iff.1 (unhide HX)).1; rcases hnew with h | h <;> omega
      have hFB0 : Below B w V4 := below_trans_grown ((hb0.trans (TB.mono hb0.size)).mono (by omega)) hgr ⟨hBg, by have h1 := TB.size; have h2 := hb0.size; omega⟩
      refine hK.out _ _ ⟨cellIn (i := 0) hbx2 rfl, cellIn (i := 1) hbx2 rfl, cellIn (i := 2) hbx2 rfl, cellIn (i := 3) hbx2 rfl⟩ (fun hHeld4 => ?_)
      clear hK hHeld3 TB hgr hnew hH hv HP hvg
      try simp only [Act.put, List.getElem_toArray, List.getElem_cons_zero, List.getElem_cons_succ, List.setIfInBounds_toArray, List.set_cons_zero, List.set_cons_succ]
      refine wpAnyH_take (i := 11) (v := .pointer (some ⟨b, 0, none⟩)) rfl (by kernel_rfl) (by kernel_rfl) (by kernel_rfl) (fun _ _ _ h => h) (Or.inl ⟨by kernel_rfl, fun w hSw => by (try dsimp only at hSw); go_split_ands; go_simp⟩) (by assumption) ?_
      simp only [Act.put, List.getElem_toArray, List.getElem_cons_zero, List.getElem_cons_succ, List.setIfInBounds_toArray, List.set_cons_zero, List.set_cons_succ]
      refine wpAnyH_take (i := 12) (v := .pointer (some ⟨b, 1, none⟩)) rfl (by kernel_rfl) (by kernel_rfl) (by kernel_rfl) (fun _ _ _ h => h) (Or.inl ⟨by kernel_rfl, fun w hSw => by (try dsimp only at hSw); go_split_ands; go_simp⟩) (by assumption) ?_
      simp only [Act.put, List.getElem_toArray, List.getElem_cons_zero, List.getElem_cons_succ, List.setIfInBounds_toArray, List.set_cons_zero, List.set_cons_succ]
      refine wpAnyH_ready (rs := [13]) (by kernel_rfl) (by simp) ?_
      refine AllReadyH.cons (i := 13) rfl (fun K hK => ?_) AllReadyH.nil
      have q1 := cellIn (i := 1) hbb2 rfl
      have f1 : V4.frozen? ⟨b, 1, none⟩ = false := by simp [World.frozen?, hbb2]
      have hst := stored_items hbb2 (.slice (some ⟨g1, 0, none⟩) L.length cc1)
      have hFin := (And.intro hst.1 (hown.kept hst.2 (.inr (by simp [Value.ownBlock]; exact hgb))) : HeapAt _ B b g1 cc1 L)
      have hFB := below_trans_grown hFB0 hst.2 ⟨hBb, Nat.le_trans (Nat.le_of_lt (Nat.lt_of_le_of_lt hBb (Array.getElem?_eq_some_iff.1 hbb2).1)) (Nat.le_refl _)⟩
      have hbx3 : (V4.setCell ⟨b, 1, none⟩ (.slice (some ⟨g1, 0, none⟩) L.length cc1)).heap[bx]? = some (.cells #[.int .i64 x.a, .int .i64 x.b, .int .i64 x.c, .int .i64 x.d] 29 (0, 0)) := by rw [hst.2.block bx (Array.getElem?_eq_some_iff.1 hbx2).1 (by intro e; exact hbxb (Option.some.inj e))]; exact hbx2
      clear hst
      go_simp
      generalize V4.setCell ⟨b, 1, none⟩ (.slice (some ⟨g1, 0, none⟩) L.length cc1) = V5 at hFin hFB hbx3 ⊢
      refine hK.out _ _ ⟨cellIn (i := 0) hbx3 rfl, cellIn (i := 1) hbx3 rfl, cellIn (i := 2) hbx3 rfl, cellIn (i := 3) hbx3 rfl⟩ (fun hHeld5 => ?_)
      clear hK hHeld4 q1 f1 hbx2 hbb2 hown hFB0 hgb hgx
      try simp only [Act.put, List.getElem_toArray, List.getElem_cons_zero, List.getElem_cons_succ, List.setIfInBounds_toArray, List.set_cons_zero, List.set_cons_succ]
      refine wpAnyH_done (by kernel_rfl) ?_ _
      clear hHeld5
      go_wp2_with fail
      go_end0
      exact ⟨rfl, ⟨g1, cc1, hFin⟩, hFB⟩
    · go_simp
      obtain ⟨V2, hN⟩ : ∃ V, V = V0.alloc (Obj.cells #[.int .i64 x.a, .int .i64 x.b, .int .i64 x.c, .int .i64 x.d] 29) := ⟨_, rfl⟩
      obtain ⟨vb, hx⟩ : ∃ b, b = V0.heap.size := ⟨_, rfl⟩
      have hb : Below V0.heap.size V0 V2 := by rw [hN]; exact (Below.refl _ _).alloc (Nat.le_refl _) _
      have hv : V2.heap[vb]? = some (.cells #[.int .i64 x.a, .int .i64 x.b, .int .i64 x.c, .int .i64 x.d] 29 (0, 0)) := by rw [hN, hx]; exact heap_alloc_new _ _
      have hvg : vb ≠ g := by have h1 := TB.size; have h2 := hb0.size; omega
      rw [← hN, ← hx]
      clear hN hx
      have TB2 := TB.trans (hb.mono TB.size)
      refine hK.out _ _ ⟨cell_later TB2 x0, cell_later TB2 x1, cell_later TB2 x2, cell_later TB2 x3⟩ (fun hHeld2 => ?_)
      clear hK hHeld1 hb TB
      try simp only [Act.put, List.getElem_toArray, List.getElem_cons_zero, List.getElem_cons_succ, List.setIfInBounds_toArray, List.set_cons_zero, List.set_cons_succ]
      have TB := TB2
      clear TB2
      refine wpAnyH_ready (rs := [7]) (by kernel_rfl) (by simp) ?_
      refine AllReadyH.cons (i := 7) rfl (fun K hK => ?_) AllReadyH.nil
      go_simp
      refine (unhide (CP _ (heapAt_later (unhide H0) TB))).mono ?_
      rintro e V3 ⟨k, rfl, hpl, hb⟩
      have HP := hide hpl
      clear hpl
      go_wp2_with fail
      have TB2 := TB.trans (hb.mono TB.size)
      have hv2 := heapLater hb hv
      clear hv
      have hv := hv2
      clear hv2
      refine hK.out _ _ ⟨cell_later TB2 x0, cell_later TB2 x1, cell_later TB2 x2, cell_later TB2 x3⟩ (fun hHeld3 => ?_)
      clear hK hHeld2 hb TB
      try simp only [Act.put, List.getElem_toArray, List.getElem_cons_zero, List.getElem_cons_succ, List.setIfInBounds_toArray, List.set_cons_zero, List.set_cons_succ]
      have TB := TB2
      clear TB2
      refine wpAnyH_ready (rs := [10]) (by kernel_rfl) (by simp) ?_
      refine AllReadyH.cons (i := 10) rfl (fun K hK => ?_) AllReadyH.nil
      go_simp
      have hH := heapAt_later (unhide H0) TB
      refine (unhide (CI _ vb k hH.2 hv (by have h1 := TB.size; have h2 := hb0.size; omega) (unhide HP) hvg)).mono ?_
      rintro e V4 ⟨g1, cc1, rfl, hown, hgr, hnew⟩
      go_wp2_with fail
      have hbx2 : V4.heap[bx]? = some (.cells #[.int .i64 x.a, .int .i64 x.b, .int .i64 x.c, .int .i64 x.d] 29 (0, 0)) := by rw [hgr.block bx (Nat.lt_of_lt_of_le (Array.getElem?_eq_some_iff.1 (unhide HX)).1 TB.size) (by intro e; exact hbxg (Option.some.inj e))]; exact heapLater TB (unhide HX)
      have hbb2 : V4.heap[b]? = some (.cells #[.func (.func 15) #[] #[], .slice (some ⟨g, 0, none⟩) l.length c] 55 (0, 0)) := by rw [hgr.block b (Array.getElem?_eq_some_iff.1 hH.1).1 (by intro e; exact hbg (Option.some.inj e))]; exact hH.1
      have hgb : g1 ≠ b := by have h1 := TB.size; have h2 := hb0.size; rcases hnew with h | h <;> omega
      have hgx : g1 ≠ bx := by have h1 := TB.size; have h2 := (Array.getElem?_eq_some_iff.1 (unhide HX)).1; rcases hnew with h | h <;> omega
      have hFB0 : Below B w V4 := below_trans_grown ((hb0.trans (TB.mono hb0.size)).mono (by omega)) hgr ⟨hBg, by have h1 := TB.size; have h2 := hb0.size; omega⟩
      refine hK.out _ _ ⟨cellIn (i := 0) hbx2 rfl, cellIn (i := 1) hbx2 rfl, cellIn (i := 2) hbx2 rfl, cellIn (i := 3) hbx2 rfl⟩ (fun hHeld4 => ?_)
      clear hK hHeld3 TB hgr hnew hH hv HP hvg
      try simp only [Act.put, List.getElem_toArray, List.getElem_cons_zero, List.getElem_cons_succ, List.setIfInBounds_toArray, List.set_cons_zero, List.set_cons_succ]
      refine wpAnyH_take (i := 11) (v := .pointer (some ⟨b, 0, none⟩)) rfl (by kernel_rfl) (by kernel_rfl) (by kernel_rfl) (fun _ _ _ h => h) (Or.inl ⟨by kernel_rfl, fun w hSw => by (try dsimp only at hSw); go_split_ands; go_simp⟩) (by assumption) ?_
      simp only [Act.put, List.getElem_toArray, List.getElem_cons_zero, List.getElem_cons_succ, List.setIfInBounds_toArray, List.set_cons_zero, List.set_cons_succ]
      refine wpAnyH_take (i := 12) (v := .pointer (some ⟨b, 1, none⟩)) rfl (by kernel_rfl) (by kernel_rfl) (by kernel_rfl) (fun _ _ _ h => h) (Or.inl ⟨by kernel_rfl, fun w hSw => by (try dsimp only at hSw); go_split_ands; go_simp⟩) (by assumption) ?_
      simp only [Act.put, List.getElem_toArray, List.getElem_cons_zero, List.getElem_cons_succ, List.setIfInBounds_toArray, List.set_cons_zero, List.set_cons_succ]
      refine wpAnyH_ready (rs := [13]) (by kernel_rfl) (by simp) ?_
      refine AllReadyH.cons (i := 13) rfl (fun K hK => ?_) AllReadyH.nil
      have q1 := cellIn (i := 1) hbb2 rfl
      have f1 : V4.frozen? ⟨b, 1, none⟩ = false := by simp [World.frozen?, hbb2]
      have hst := stored_items hbb2 (.slice (some ⟨g1, 0, none⟩) L.length cc1)
      have hFin := (And.intro hst.1 (hown.kept hst.2 (.inr (by simp [Value.ownBlock]; exact hgb))) : HeapAt _ B b g1 cc1 L)
      have hFB := below_trans_grown hFB0 hst.2 ⟨hBb, Nat.le_trans (Nat.le_of_lt (Nat.lt_of_le_of_lt hBb (Array.getElem?_eq_some_iff.1 hbb2).1)) (Nat.le_refl _)⟩
      have hbx3 : (V4.setCell ⟨b, 1, none⟩ (.slice (some ⟨g1, 0, none⟩) L.length cc1)).heap[bx]? = some (.cells #[.int .i64 x.a, .int .i64 x.b, .int .i64 x.c, .int .i64 x.d] 29 (0, 0)) := by rw [hst.2.block bx (Array.getElem?_eq_some_iff.1 hbx2).1 (by intro e; exact hbxb (Option.some.inj e))]; exact hbx2
      clear hst
      go_simp
      generalize V4.setCell ⟨b, 1, none⟩ (.slice (some ⟨g1, 0, none⟩) L.length cc1) = V5 at hFin hFB hbx3 ⊢
      refine hK.out _ _ ⟨cellIn (i := 0) hbx3 rfl, cellIn (i := 1) hbx3 rfl, cellIn (i := 2) hbx3 rfl, cellIn (i := 3) hbx3 rfl⟩ (fun hHeld5 => ?_)
      clear hK hHeld4 q1 f1 hbx2 hbb2 hown hFB0 hgb hgx
      try simp only [Act.put, List.getElem_toArray, List.getElem_cons_zero, List.getElem_cons_succ, List.setIfInBounds_toArray, List.set_cons_zero, List.set_cons_succ]
      refine wpAnyH_done (by kernel_rfl) ?_ _
      clear hHeld5
      go_wp2_with fail
      go_end0
      exact ⟨rfl, ⟨g1, cc1, hFin⟩, hFB⟩
  · go_simp
    refine (unhide (CP _ (heapAt_later (unhide H0) TB))).mono ?_
    rintro e V1 ⟨k, rfl, hpl, hb⟩
    have HP := hide hpl
    clear hpl
    go_wp2_with fail
    have TB2 := TB.trans (hb.mono TB.size)
    refine hK.out _ _ ⟨cell_later TB2 x0, cell_later TB2 x1, cell_later TB2 x2, cell_later TB2 x3⟩ (fun hHeld1 => ?_)
    clear hK hS hb TB
    try simp only [Act.put, List.getElem_toArray, List.getElem_cons_zero, List.getElem_cons_succ, List.setIfInBounds_toArray, List.set_cons_zero, List.set_cons_succ]
    have TB := TB2
    clear TB2
    refine wpAnyH_ready (rs := [4, 9]) (by kernel_rfl) (by simp) ?_
    refine AllReadyH.cons (i := 4) rfl (fun K hK => ?_) (AllReadyH.cons (i := 9) rfl (fun K hK => ?_) AllReadyH.nil)
    · have q1 := cellIn (i := 1) (heapAt_later (unhide H0) TB).1 rfl
      go_simp
      have TB2 := TB
      refine hK.out _ _ ⟨cell_later TB2 x0, cell_later TB2 x1, cell_later TB2 x2, cell_later TB2 x3⟩ (fun hHeld2 => ?_)
      clear hK hHeld1 q1 TB
      try simp only [Act.put, List.getElem_toArray, List.getElem_cons_zero, List.getElem_cons_succ, List.setIfInBounds_toArray, List.set_cons_zero, List.set_cons_succ]
      have TB := TB2
      clear TB2
      refine wpAnyH_ready (rs := [9]) (by kernel_rfl) (by simp) ?_
      refine AllReadyH.cons (i := 9) rfl (fun K hK => ?_) AllReadyH.nil
      go_simp
      obtain ⟨V3, hN⟩ : ∃ V, V = V1.alloc (Obj.cells #[.int .i64 x.a, .int .i64 x.b, .int .i64 x.c, .int .i64 x.d] 29) := ⟨_, rfl⟩
      obtain ⟨vb, hx⟩ : ∃ b, b = V1.heap.size := ⟨_, rfl⟩
      have hb : Below V1.heap.size V1 V3 := by rw [hN]; exact (Below.refl _ _).alloc (Nat.le_refl _) _
      have hv : V3.heap[vb]? = some (.cells #[.int .i64 x.a, .int .i64 x.b, .int .i64 x.c, .int .i64 x.d] 29 (0, 0)) := by rw [hN, hx]; exact heap_alloc_new _ _
      have hvg : vb ≠ g := by have h1 := TB.size; have h2 := hb0.size; omega
      rw [← hN, ← hx]
      clear hN hx
      have TB2 := TB.trans (hb.mono TB.size)
      refine hK.out _ _ ⟨cell_later TB2 x0, cell_later TB2 x1, cell_later TB2 x2, cell_later TB2 x3⟩ (fun hHeld3 => ?_)
      clear hK hHeld2 hb TB
      try simp only [Act.put, List.getElem_toArray, List.getElem_cons_zero, List.getElem_cons_succ, List.setIfInBounds_toArray, List.set_cons_zero, List.set_cons_succ]
      have TB := TB2
      clear TB2
      refine wpAnyH_ready (rs := [10]) (by kernel_rfl) (by simp) ?_
      refine AllReadyH.cons (i := 10) rfl (fun K hK => ?_) AllReadyH.nil
      go_simp
      have hH := heapAt_later (unhide H0) TB
      refine (unhide (CI _ vb k hH.2 hv (by have h1 := TB.size; have h2 := hb0.size; omega) (unhide HP) hvg)).mono ?_
      rintro e V4 ⟨g1, cc1, rfl, hown, hgr, hnew⟩
      go_wp2_with fail
      have hbx2 : V4.heap[bx]? = some (.cells #[.int .i64 x.a, .int .i64 x.b, .int .i64 x.c, .int .i64 x.d] 29 (0, 0)) := by rw [hgr.block bx (Nat.lt_of_lt_of_le (Array.getElem?_eq_some_iff.1 (unhide HX)).1 TB.size) (by intro e; exact hbxg (Option.some.inj e))]; exact heapLater TB (unhide HX)
      have hbb2 : V4.heap[b]? = some (.cells #[.func (.func 15) #[] #[], .slice (some ⟨g, 0, none⟩) l.length c] 55 (0, 0)) := by rw [hgr.block b (Array.getElem?_eq_some_iff.1 hH.1).1 (by intro e; exact hbg (Option.some.inj e))]; exact hH.1
      have hgb : g1 ≠ b := by have h1 := TB.size; have h2 := hb0.size; rcases hnew with h | h <;> omega
      have hgx : g1 ≠ bx := by have h1 := TB.size; have h2 := (Array.getElem?_eq_some_iff.1 (unhide HX)).1; rcases hnew with h | h <;> omega
      have hFB0 : Below B w V4 := below_trans_grown ((hb0.trans (TB.mono hb0.size)).mono (by omega)) hgr ⟨hBg, by have h1 := TB.size; have h2 := hb0.size; omega⟩
      refine hK.out _ _ ⟨cellIn (i := 0) hbx2 rfl, cellIn (i := 1) hbx2 rfl, cellIn (i := 2) hbx2 rfl, cellIn (i := 3) hbx2 rfl⟩ (fun hHeld4 => ?_)
      clear hK hHeld3 TB hgr hnew hH hv HP hvg
      try simp only [Act.put, List.getElem_toArray, List.getElem_cons_zero, List.getElem_cons_succ, List.setIfInBounds_toArray, List.set_cons_zero, List.set_cons_succ]
      refine wpAnyH_take (i := 11) (v := .pointer (some ⟨b, 0, none⟩)) rfl (by kernel_rfl) (by kernel_rfl) (by kernel_rfl) (fun _ _ _ h => h) (Or.inl ⟨by kernel_rfl, fun w hSw => by (try dsimp only at hSw); go_split_ands; go_simp⟩) (by assumption) ?_
      simp only [Act.put, List.getElem_toArray, List.getElem_cons_zero, List.getElem_cons_succ, List.setIfInBounds_toArray, List.set_cons_zero, List.set_cons_succ]
      refine wpAnyH_take (i := 12) (v := .pointer (some ⟨b, 1, none⟩)) rfl (by kernel_rfl) (by kernel_rfl) (by kernel_rfl) (fun _ _ _ h => h) (Or.inl ⟨by kernel_rfl, fun w hSw => by (try dsimp only at hSw); go_split_ands; go_simp⟩) (by assumption) ?_
      simp only [Act.put, List.getElem_toArray, List.getElem_cons_zero, List.getElem_cons_succ, List.setIfInBounds_toArray, List.set_cons_zero, List.set_cons_succ]
      refine wpAnyH_ready (rs := [13]) (by kernel_rfl) (by simp) ?_
      refine AllReadyH.cons (i := 13) rfl (fun K hK => ?_) AllReadyH.nil
      have q1 := cellIn (i := 1) hbb2 rfl
      have f1 : V4.frozen? ⟨b, 1, none⟩ = false := by simp [World.frozen?, hbb2]
      have hst := stored_items hbb2 (.slice (some ⟨g1, 0, none⟩) L.length cc1)
      have hFin := (And.intro hst.1 (hown.kept hst.2 (.inr (by simp [Value.ownBlock]; exact hgb))) : HeapAt _ B b g1 cc1 L)
      have hFB := below_trans_grown hFB0 hst.2 ⟨hBb, Nat.le_trans (Nat.le_of_lt (Nat.lt_of_le_of_lt hBb (Array.getElem?_eq_some_iff.1 hbb2).1)) (Nat.le_refl _)⟩
      have hbx3 : (V4.setCell ⟨b, 1, none⟩ (.slice (some ⟨g1, 0, none⟩) L.length cc1)).heap[bx]? = some (.cells #[.int .i64 x.a, .int .i64 x.b, .int .i64 x.c, .int .i64 x.d] 29 (0, 0)) := by rw [hst.2.block bx (Array.getElem?_eq_some_iff.1 hbx2).1 (by intro e; exact hbxb (Option.some.inj e))]; exact hbx2
      clear hst
      go_simp
      generalize V4.setCell ⟨b, 1, none⟩ (.slice (some ⟨g1, 0, none⟩) L.length cc1) = V5 at hFin hFB hbx3 ⊢
      refine hK.out _ _ ⟨cellIn (i := 0) hbx3 rfl, cellIn (i := 1) hbx3 rfl, cellIn (i := 2) hbx3 rfl, cellIn (i := 3) hbx3 rfl⟩ (fun hHeld5 => ?_)
      clear hK hHeld4 q1 f1 hbx2 hbb2 hown hFB0 hgb hgx
      try simp only [Act.put, List.getElem_toArray, List.getElem_cons_zero, List.getElem_cons_succ, List.setIfInBounds_toArray, List.set_cons_zero, List.set_cons_succ]
      refine wpAnyH_done (by kernel_rfl) ?_ _
      clear hHeld5
      go_wp2_with fail
      go_end0
      exact ⟨rfl, ⟨g1, cc1, hFin⟩, hFB⟩
    · go_simp
      obtain ⟨V2, hN⟩ : ∃ V, V = V1.alloc (Obj.cells #[.int .i64 x.a, .int .i64 x.b, .int .i64 x.c, .int .i64 x.d] 29) := ⟨_, rfl⟩
      obtain ⟨vb, hx⟩ : ∃ b, b = V1.heap.size := ⟨_, rfl⟩
      have hb : Below V1.heap.size V1 V2 := by rw [hN]; exact (Below.refl _ _).alloc (Nat.le_refl _) _
      have hv : V2.heap[vb]? = some (.cells #[.int .i64 x.a, .int .i64 x.b, .int .i64 x.c, .int .i64 x.d] 29 (0, 0)) := by rw [hN, hx]; exact heap_alloc_new _ _
      have hvg : vb ≠ g := by have h1 := TB.size; have h2 := hb0.size; omega
      rw [← hN, ← hx]
      clear hN hx
      have TB2 := TB.trans (hb.mono TB.size)
      refine hK.out _ _ ⟨cell_later TB2 x0, cell_later TB2 x1, cell_later TB2 x2, cell_later TB2 x3⟩ (fun hHeld2 => ?_)
      clear hK hHeld1 hb TB
      try simp only [Act.put, List.getElem_toArray, List.getElem_cons_zero, List.getElem_cons_succ, List.setIfInBounds_toArray, List.set_cons_zero, List.set_cons_succ]
      have TB := TB2
      clear TB2
      refine wpAnyH_ready (rs := [4]) (by kernel_rfl) (by simp) ?_
      refine AllReadyH.cons (i := 4) rfl (fun K hK => ?_) AllReadyH.nil
      have q1 := cellIn (i := 1) (heapAt_later (unhide H0) TB).1 rfl
      go_simp
      have TB2 := TB
      refine hK.out _ _ ⟨cell_later TB2 x0, cell_later TB2 x1, cell_later TB2 x2, cell_later TB2 x3⟩ (fun hHeld3 => ?_)
      clear hK hHeld2 q1 TB
      try simp only [Act.put, List.getElem_toArray, List.getElem_cons_zero, List.getElem_cons_succ, List.setIfInBounds_toArray, List.set_cons_zero, List.set_cons_succ]
      have TB := TB2
      clear TB2
      refine wpAnyH_ready (rs := [10]) (by kernel_rfl) (by simp) ?_
      refine AllReadyH.cons (i := 10) rfl (fun K hK => ?_) AllReadyH.nil
      go_simp
      have hH := heapAt_later (unhide H0) TB
      refine (unhide (CI _ vb k hH.2 hv (by have h1 := TB.size; have h2 := hb0.size; omega) (unhide HP) hvg)).mono ?_
      rintro e V4 ⟨g1, cc1, rfl, hown, hgr, hnew⟩
      go_wp2_with fail
      have hbx2 : V4.heap[bx]? = some (.cells #[.int .i64 x.a, .int .i64 x.b, .int .i64 x.c, .int .i64 x.d] 29 (0, 0)) := by rw [hgr.block bx (Nat.lt_of_lt_of_le (Array.getElem?_eq_some_iff.1 (unhide HX)).1 TB.size) (by intro e; exact hbxg (Option.some.inj e))]; exact heapLater TB (unhide HX)
      have hbb2 : V4.heap[b]? = some (.cells #[.func (.func 15) #[] #[], .slice (some ⟨g, 0, none⟩) l.length c] 55 (0, 0)) := by rw [hgr.block b (Array.getElem?_eq_some_iff.1 hH.1).1 (by intro e; exact hbg (Option.some.inj e))]; exact hH.1
      have hgb : g1 ≠ b := by have h1 := TB.size; have h2 := hb0.size; rcases hnew with h | h <;> omega
      have hgx : g1 ≠ bx := by have h1 := TB.size; have h2 := (Array.getElem?_eq_some_iff.1 (unhide HX)).1; rcases hnew with h | h <;> omega
      have hFB0 : Below B w V4 := below_trans_grown ((hb0.trans (TB.mono hb0.size)).mono (by omega)) hgr ⟨hBg, by have h1 := TB.size; have h2 := hb0.size; omega⟩
      refine hK.out _ _ ⟨cellIn (i := 0) hbx2 rfl, cellIn (i := 1) hbx2 rfl, cellIn (i := 2) hbx2 rfl, cellIn (i := 3) hbx2 rfl⟩ (fun hHeld4 => ?_)
      clear hK hHeld3 TB hgr hnew hH hv HP hvg
      try simp only [Act.put, List.getElem_toArray, List.getElem_cons_zero, List.getElem_cons_succ, List.setIfInBounds_toArray, List.set_cons_zero, List.set_cons_succ]
      refine wpAnyH_take (i := 11) (v := .pointer (some ⟨b, 0, none⟩)) rfl (by kernel_rfl) (by kernel_rfl) (by kernel_rfl) (fun _ _ _ h => h) (Or.inl ⟨by kernel_rfl, fun w hSw => by (try dsimp only at hSw); go_split_ands; go_simp⟩) (by assumption) ?_
      simp only [Act.put, List.getElem_toArray, List.getElem_cons_zero, List.getElem_cons_succ, List.setIfInBounds_toArray, List.set_cons_zero, List.set_cons_succ]
      refine wpAnyH_take (i := 12) (v := .pointer (some ⟨b, 1, none⟩)) rfl (by kernel_rfl) (by kernel_rfl) (by kernel_rfl) (fun _ _ _ h => h) (Or.inl ⟨by kernel_rfl, fun w hSw => by (try dsimp only at hSw); go_split_ands; go_simp⟩) (by assumption) ?_
      simp only [Act.put, List.getElem_toArray, List.getElem_cons_zero, List.getElem_cons_succ, List.setIfInBounds_toArray, List.set_cons_zero, List.set_cons_succ]
      refine wpAnyH_ready (rs := [13]) (by kernel_rfl) (by simp) ?_
      refine AllReadyH.cons (i := 13) rfl (fun K hK => ?_) AllReadyH.nil
      have q1 := cellIn (i := 1) hbb2 rfl
      have f1 : V4.frozen? ⟨b, 1, none⟩ = false := by simp [World.frozen?, hbb2]
      have hst := stored_items hbb2 (.slice (some ⟨g1, 0, none⟩) L.length cc1)
      have hFin := (And.intro hst.1 (hown.kept hst.2 (.inr (by simp [Value.ownBlock]; exact hgb))) : HeapAt _ B b g1 cc1 L)
      have hFB := below_trans_grown hFB0 hst.2 ⟨hBb, Nat.le_trans (Nat.le_of_lt (Nat.lt_of_le_of_lt hBb (Array.getElem?_eq_some_iff.1 hbb2).1)) (Nat.le_refl _)⟩
      have hbx3 : (V4.setCell ⟨b, 1, none⟩ (.slice (some ⟨g1, 0, none⟩) L.length cc1)).heap[bx]? = some (.cells #[.int .i64 x.a, .int .i64 x.b, .int .i64 x.c, .int .i64 x.d] 29 (0, 0)) := by rw [hst.2.block bx (Array.getElem?_eq_some_iff.1 hbx2).1 (by intro e; exact hbxb (Option.some.inj e))]; exact hbx2
      clear hst
      go_simp
      generalize V4.setCell ⟨b, 1, none⟩ (.slice (some ⟨g1, 0, none⟩) L.length cc1) = V5 at hFin hFB hbx3 ⊢
      refine hK.out _ _ ⟨cellIn (i := 0) hbx3 rfl, cellIn (i := 1) hbx3 rfl, cellIn (i := 2) hbx3 rfl, cellIn (i := 3) hbx3 rfl⟩ (fun hHeld5 => ?_)
      clear hK hHeld4 q1 f1 hbx2 hbb2 hown hFB0 hgb hgx
      try simp only [Act.put, List.getElem_toArray, List.getElem_cons_zero, List.getElem_cons_succ, List.setIfInBounds_toArray, List.set_cons_zero, List.set_cons_succ]
      refine wpAnyH_done (by kernel_rfl) ?_ _
      clear hHeld5
      go_wp2_with fail
      go_end0
      exact ⟨rfl, ⟨g1, cc1, hFin⟩, hFB⟩
  · go_simp
    obtain ⟨V1, hN⟩ : ∃ V, V = V0.alloc (Obj.cells #[.int .i64 x.a, .int .i64 x.b, .int .i64 x.c, .int .i64 x.d] 29) := ⟨_, rfl⟩
    obtain ⟨vb, hx⟩ : ∃ b, b = V0.heap.size := ⟨_, rfl⟩
    have hb : Below V0.heap.size V0 V1 := by rw [hN]; exact (Below.refl _ _).alloc (Nat.le_refl _) _
    have hv : V1.heap[vb]? = some (.cells #[.int .i64 x.a, .int .i64 x.b, .int .i64 x.c, .int .i64 x.d] 29 (0, 0)) := by rw [hN, hx]; exact heap_alloc_new _ _
    have hvg : vb ≠ g := by have h1 := TB.size; have h2 := hb0.size; omega
    rw [← hN, ← hx]
    clear hN hx
    have TB2 := TB.trans (hb.mono TB.size)
    refine hK.out _ _ ⟨cell_later TB2 x0, cell_later TB2 x1, cell_later TB2 x2, cell_later TB2 x3⟩ (fun hHeld1 => ?_)
    clear hK hS hb TB
    try simp only [Act.put, List.getElem_toArray, List.getElem_cons_zero, List.getElem_cons_succ, List.setIfInBounds_toArray, List.set_cons_zero, List.set_cons_succ]
    have TB := TB2
    clear TB2
    refine wpAnyH_ready (rs := [4, 7]) (by kernel_rfl) (by simp) ?_
    refine AllReadyH.cons (i := 4) rfl (fun K hK => ?_) (AllReadyH.cons (i := 7) rfl (fun K hK => ?_) AllReadyH.nil)
    · have q1 := cellIn (i := 1) (heapAt_later (unhide H0) TB).1 rfl
      go_simp
      have TB2 := TB
      refine hK.out _ _ ⟨cell_later TB2 x0, cell_later TB2 x1, cell_later TB2 x2, cell_later TB2 x3⟩ (fun hHeld2 => ?_)
      clear hK hHeld1 q1 TB
      try simp only [Act.put, List.getElem_toArray, List.getElem_cons_zero, List.getElem_cons_succ, List.setIfInBounds_toArray, List.set_cons_zero, List.set_cons_succ]
      have TB := TB2
      clear TB2
      refine wpAnyH_ready (rs := [7]) (by kernel_rfl) (by simp) ?_
      refine AllReadyH.cons (i := 7) rfl (fun K hK => ?_) AllReadyH.nil
      go_simp
      refine (unhide (CP _ (heapAt_later (unhide H0) TB))).mono ?_
      rintro e V3 ⟨k, rfl, hpl, hb⟩
      have HP := hide hpl
      clear hpl
      go_wp2_with fail
      have TB2 := TB.trans (hb.mono TB.size)
      have hv2 := heapLater hb hv
      clear hv
      have hv := hv2
      clear hv2
      refine hK.out _ _ ⟨cell_later TB2 x0, cell_later TB2 x1, cell_later TB2 x2, cell_later TB2 x3⟩ (fun hHeld3 => ?_)
      clear hK hHeld2 hb TB
      try simp only [Act.put, List.getElem_toArray, List.getElem_cons_zero, List.getElem_cons_succ, List.setIfInBounds_toArray, List.set_cons_zero, List.set_cons_succ]
      have TB := TB2
      clear TB2
      refine wpAnyH_ready (rs := [10]) (by kernel_rfl) (by simp) ?_
      refine AllReadyH.cons (i := 10) rfl (fun K hK => ?_) AllReadyH.nil
      go_simp
      have hH := heapAt_later (unhide H0) TB
      refine (unhide (CI _ vb k hH.2 hv (by have h1 := TB.size; have h2 := hb0.size; omega) (unhide HP) hvg)).mono ?_
      rintro e V4 ⟨g1, cc1, rfl, hown, hgr, hnew⟩
      go_wp2_with fail
      have hbx2 : V4.heap[bx]? = some (.cells #[.int .i64 x.a, .int .i64 x.b, .int .i64 x.c, .int .i64 x.d] 29 (0, 0)) := by rw [hgr.block bx (Nat.lt_of_lt_of_le (Array.getElem?_eq_some_iff.1 (unhide HX)).1 TB.size) (by intro e; exact hbxg (Option.some.inj e))]; exact heapLater TB (unhide HX)
      have hbb2 : V4.heap[b]? = some (.cells #[.func (.func 15) #[] #[], .slice (some ⟨g, 0, none⟩) l.length c] 55 (0, 0)) := by rw [hgr.block b (Array.getElem?_eq_some_iff.1 hH.1).1 (by intro e; exact hbg (Option.some.inj e))]; exact hH.1
      have hgb : g1 ≠ b := by have h1 := TB.size; have h2 := hb0.size; rcases hnew with h | h <;> omega
      have hgx : g1 ≠ bx := by have h1 := TB.size; have h2 := (Array.getElem?_eq_some_iff.1 (unhide HX)).1; rcases hnew with h | h <;> omega
      have hFB0 : Below B w V4 := below_trans_grown ((hb0.trans (TB.mono hb0.size)).mono (by omega)) hgr ⟨hBg, by have h1 := TB.size; have h2 := hb0.size; omega⟩
      refine hK.out _ _ ⟨cellIn (i := 0) hbx2 rfl, cellIn (i := 1) hbx2 rfl, cellIn (i := 2) hbx2 rfl, cellIn (i := 3) hbx2 rfl⟩ (fun hHeld4 => ?_)
      clear hK hHeld3 TB hgr hnew hH hv HP hvg
      try simp only [Act.put, List.getElem_toArray, List.getElem_cons_zero, List.getElem_cons_succ, List.setIfInBounds_toArray, List.set_cons_zero, List.set_cons_succ]
      refine wpAnyH_take (i := 11) (v := .pointer (some ⟨b, 0, none⟩)) rfl (by kernel_rfl) (by kernel_rfl) (by kernel_rfl) (fun _ _ _ h => h) (Or.inl ⟨by kernel_rfl, fun w hSw => by (try dsimp only at hSw); go_split_ands; go_simp⟩) (by assumption) ?_
      simp only [Act.put, List.getElem_toArray, List.getElem_cons_zero, List.getElem_cons_succ, List.setIfInBounds_toArray, List.set_cons_zero, List.set_cons_succ]
      refine wpAnyH_take (i := 12) (v := .pointer (some ⟨b, 1, none⟩)) rfl (by kernel_rfl) (by kernel_rfl) (by kernel_rfl) (fun _ _ _ h => h) (Or.inl ⟨by kernel_rfl, fun w hSw => by (try dsimp only at hSw); go_split_ands; go_simp⟩) (by assumption) ?_
      simp only [Act.put, List.getElem_toArray, List.getElem_cons_zero, List.getElem_cons_succ, List.setIfInBounds_toArray, List.set_cons_zero, List.set_cons_succ]
      refine wpAnyH_ready (rs := [13]) (by kernel_rfl) (by simp) ?_
      refine AllReadyH.cons (i := 13) rfl (fun K hK => ?_) AllReadyH.nil
      have q1 := cellIn (i := 1) hbb2 rfl
      have f1 : V4.frozen? ⟨b, 1, none⟩ = false := by simp [World.frozen?, hbb2]
      have hst := stored_items hbb2 (.slice (some ⟨g1, 0, none⟩) L.length cc1)
      have hFin := (And.intro hst.1 (hown.kept hst.2 (.inr (by simp [Value.ownBlock]; exact hgb))) : HeapAt _ B b g1 cc1 L)
      have hFB := below_trans_grown hFB0 hst.2 ⟨hBb, Nat.le_trans (Nat.le_of_lt (Nat.lt_of_le_of_lt hBb (Array.getElem?_eq_some_iff.1 hbb2).1)) (Nat.le_refl _)⟩
      have hbx3 : (V4.setCell ⟨b, 1, none⟩ (.slice (some ⟨g1, 0, none⟩) L.length cc1)).heap[bx]? = some (.cells #[.int .i64 x.a, .int .i64 x.b, .int .i64 x.c, .int .i64 x.d] 29 (0, 0)) := by rw [hst.2.block bx (Array.getElem?_eq_some_iff.1 hbx2).1 (by intro e; exact hbxb (Option.some.inj e))]; exact hbx2
      clear hst
      go_simp
      generalize V4.setCell ⟨b, 1, none⟩ (.slice (some ⟨g1, 0, none⟩) L.length cc1) = V5 at hFin hFB hbx3 ⊢
      refine hK.out _ _ ⟨cellIn (i := 0) hbx3 rfl, cellIn (i := 1) hbx3 rfl, cellIn (i := 2) hbx3 rfl, cellIn (i := 3) hbx3 rfl⟩ (fun hHeld5 => ?_)
      clear hK hHeld4 q1 f1 hbx2 hbb2 hown hFB0 hgb hgx
      try simp only [Act.put, List.getElem_toArray, List.getElem_cons_zero, List.getElem_cons_succ, List.setIfInBounds_toArray, List.set_cons_zero, List.set_cons_succ]
      refine wpAnyH_done (by kernel_rfl) ?_ _
      clear hHeld5
      go_wp2_with fail
      go_end0
      exact ⟨rfl, ⟨g1, cc1, hFin⟩, hFB⟩
    · go_simp
      refine (unhide (CP _ (heapAt_later (unhide H0) TB))).mono ?_
      rintro e V2 ⟨k, rfl, hpl, hb⟩
      have HP := hide hpl
      clear hpl
      go_wp2_with fail
      have TB2 := TB.trans (hb.mono TB.size)
      have hv2 := heapLater hb hv
      clear hv
      have hv := hv2
      clear hv2
      refine hK.out _ _ ⟨cell_later TB2 x0, cell_later TB2 x1, cell_later TB2 x2, cell_later TB2 x3⟩ (fun hHeld2 => ?_)
      clear hK hHeld1 hb TB
      try simp only [Act.put, List.getElem_toArray, List.getElem_cons_zero, List.getElem_cons_succ, List.setIfInBounds_toArray, List.set_cons_zero, List.set_cons_succ]
      have TB := TB2
      clear TB2
      refine wpAnyH_ready (rs := [4]) (by kernel_rfl) (by simp) ?_
      refine AllReadyH.cons (i := 4) rfl (fun K hK => ?_) AllReadyH.nil
      have q1 := cellIn (i := 1) (heapAt_later (unhide H0) TB).1 rfl
      go_simp
      have TB2 := TB
      refine hK.out _ _ ⟨cell_later TB2 x0, cell_later TB2 x1, cell_later TB2 x2, cell_later TB2 x3⟩ (fun hHeld3 => ?_)
      clear hK hHeld2 q1 TB
      try simp only [Act.put, List.getElem_toArray, List.getElem_cons_zero, List.getElem_cons_succ, List.setIfInBounds_toArray, List.set_cons_zero, List.set_cons_succ]
      have TB := TB2
      clear TB2
      refine wpAnyH_ready (rs := [10]) (by kernel_rfl) (by simp) ?_
      refine AllReadyH.cons (i := 10) rfl (fun K hK => ?_) AllReadyH.nil
      go_simp
      have hH := heapAt_later (unhide H0) TB
      refine (unhide (CI _ vb k hH.2 hv (by have h1 := TB.size; have h2 := hb0.size; omega) (unhide HP) hvg)).mono ?_
      rintro e V4 ⟨g1, cc1, rfl, hown, hgr, hnew⟩
      go_wp2_with fail
      have hbx2 : V4.heap[bx]? = some (.cells #[.int .i64 x.a, .int .i64 x.b, .int .i64 x.c, .int .i64 x.d] 29 (0, 0)) := by rw [hgr.block bx (Nat.lt_of_lt_of_le (Array.getElem?_eq_some_iff.1 (unhide HX)).1 TB.size) (by intro e; exact hbxg (Option.some.inj e))]; exact heapLater TB (unhide HX)
      have hbb2 : V4.heap[b]? = some (.cells #[.func (.func 15) #[] #[], .slice (some ⟨g, 0, none⟩) l.length c] 55 (0, 0)) := by rw [hgr.block b (Array.getElem?_eq_some_iff.1 hH.1).1 (by intro e; exact hbg (Option.some.inj e))]; exact hH.1
      have hgb : g1 ≠ b := by have h1 := TB.size; have h2 := hb0.size; rcases hnew with h | h <;> omega
      have hgx : g1 ≠ bx := by have h1 := TB.size; have h2 := (Array.getElem?_eq_some_iff.1 (unhide HX)).1; rcases hnew with h | h <;> omega
      have hFB0 : Below B w V4 := below_trans_grown ((hb0.trans (TB.mono hb0.size)).mono (by omega)) hgr ⟨hBg, by have h1 := TB.size; have h2 := hb0.size; omega⟩
      refine hK.out _ _ ⟨cellIn (i := 0) hbx2 rfl, cellIn (i := 1) hbx2 rfl, cellIn (i := 2) hbx2 rfl, cellIn (i := 3) hbx2 rfl⟩ (fun hHeld4 => ?_)
      clear hK hHeld3 TB hgr hnew hH hv HP hvg
      try simp only [Act.put, List.getElem_toArray, List.getElem_cons_zero, List.getElem_cons_succ, List.setIfInBounds_toArray, List.set_cons_zero, List.set_cons_succ]
      refine wpAnyH_take (i := 11) (v := .pointer (some ⟨b, 0, none⟩)) rfl (by kernel_rfl) (by kernel_rfl) (by kernel_rfl) (fun _ _ _ h => h) (Or.inl ⟨by kernel_rfl, fun w hSw => by (try dsimp only at hSw); go_split_ands; go_simp⟩) (by assumption) ?_
      simp only [Act.put, List.getElem_toArray, List.getElem_cons_zero, List.getElem_cons_succ, List.setIfInBounds_toArray, List.set_cons_zero, List.set_cons_succ]
      refine wpAnyH_take (i := 12) (v := .pointer (some ⟨b, 1, none⟩)) rfl (by kernel_rfl) (by kernel_rfl) (by kernel_rfl) (fun _ _ _ h => h) (Or.inl ⟨by kernel_rfl, fun w hSw => by (try dsimp only at hSw); go_split_ands; go_simp⟩) (by assumption) ?_
      simp only [Act.put, List.getElem_toArray, List.getElem_cons_zero, List.getElem_cons_succ, List.setIfInBounds_toArray, List.set_cons_zero, List.set_cons_succ]
      refine wpAnyH_ready (rs := [13]) (by kernel_rfl) (by simp) ?_
      refine AllReadyH.cons (i := 13) rfl (fun K hK => ?_) AllReadyH.nil
      have q1 := cellIn (i := 1) hbb2 rfl
      have f1 : V4.frozen? ⟨b, 1, none⟩ = false := by simp [World.frozen?, hbb2]
      have hst := stored_items hbb2 (.slice (some ⟨g1, 0, none⟩) L.length cc1)
      have hFin := (And.intro hst.1 (hown.kept hst.2 (.inr (by simp [Value.ownBlock]; exact hgb))) : HeapAt _ B b g1 cc1 L)
      have hFB := below_trans_grown hFB0 hst.2 ⟨hBb, Nat.le_trans (Nat.le_of_lt (Nat.lt_of_le_of_lt hBb (Array.getElem?_eq_some_iff.1 hbb2).1)) (Nat.le_refl _)⟩
      have hbx3 : (V4.setCell ⟨b, 1, none⟩ (.slice (some ⟨g1, 0, none⟩) L.length cc1)).heap[bx]? = some (.cells #[.int .i64 x.a, .int .i64 x.b, .int .i64 x.c, .int .i64 x.d] 29 (0, 0)) := by rw [hst.2.block bx (Array.getElem?_eq_some_iff.1 hbx2).1 (by intro e; exact hbxb (Option.some.inj e))]; exact hbx2
      clear hst
      go_simp
      generalize V4.setCell ⟨b, 1, none⟩ (.slice (some ⟨g1, 0, none⟩) L.length cc1) = V5 at hFin hFB hbx3 ⊢
      refine hK.out _ _ ⟨cellIn (i := 0) hbx3 rfl, cellIn (i := 1) hbx3 rfl, cellIn (i := 2) hbx3 rfl, cellIn (i := 3) hbx3 rfl⟩ (fun hHeld5 => ?_)
      clear hK hHeld4 q1 f1 hbx2 hbb2 hown hFB0 hgb hgx
      try simp only [Act.put, List.getElem_toArray, List.getElem_cons_zero, List.getElem_cons_succ, List.setIfInBounds_toArray, List.set_cons_zero, List.set_cons_succ]
      refine wpAnyH_done (by kernel_rfl) ?_ _
      clear hHeld5
      go_wp2_with fail
      go_end0
      exact ⟨rfl, ⟨g1, cc1, hFin⟩, hFB⟩
end Go.Proofs.Ytccafdoehjdbeaa
