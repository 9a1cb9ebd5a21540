/- Chapter 4: the walk of l04Disk: a drawn disk is what diskDrawn says. -/
import Derived.Test.YtfnkcpjfjijglaaDiskDrawn
import Derived.Test.YtfnkcpjfjijglaaDVars
import Derived.Deep.DeepCutAuto
namespace Go.Proofs.Ytfnkcpjfjijglaa
open Go.RowKit
set_option linter.unusedVariables false
attribute [local go_sem ↓] Go.wp_at_zero Go.wp_at_succ

/-- The variables of l04Disk within its loop: the result, d, the names, the row of d, the cursor. -/
structure LdSt (w W : World) (B g : Nat) (s : CurS) (acc : List FileL) (v : Value) : Prop where
  res : W.heap[w.heap.size]? = some (.cells #[.slice none 0 0] 26 (0, 0))
  d : W.heap[w.heap.size + 1]? = some (.cells #[v] 26 (0, 0))
  names : W.heap[w.heap.size + 2]? = some (.cells #[sv (nameI 0), sv (nameI 1), sv (nameI 2), sv (nameI 3)] 9 (0, 0))
  own : W.ownsRow (w.heap.size + 3) 34 3 v acc.length (filesC acc)
  cur : CurIs W B g s
  glt : g < w.heap.size
  hB : B ≤ w.heap.size
  grown : w.grownBy W (some g)
theorem LdSt.size {w W : World} {B g : Nat} {s : CurS} {acc : List FileL} {v : Value} (h : LdSt w W B g s acc v) : w.heap.size + 2 < W.heap.size := (Array.getElem?_eq_some_iff.1 h.names).1
theorem ldst_cur {w W W' : World} {B g : Nat} {s s' : CurS} {acc : List FileL} {v : Value} (h : LdSt w W B g s acc v) (hc : CurIs W' B g s') (hg : W.grownBy W' (some g)) : LdSt w W' B g s' acc v := by
  have hs := h.size
  have hl := h.glt
  refine ⟨?_, ?_, ?_, h.own.kept hg ?_, hc, hl, h.hB, grown_trans h.grown hg⟩
  · rw [hg.block _ (by omega) (by simp; omega)]; exact h.res
  · rw [hg.block _ (by omega) (by simp; omega)]; exact h.d
  · rw [hg.block _ (by omega) (by simp; omega)]; exact h.names
  · cases hv : v.ownBlock with
    | none => exact .inl rfl
    | some j => exact .inr (fun e => by cases e; have := (h.own.lt g hv).1; omega)
theorem ldst_below {w W W' : World} {B g : Nat} {s : CurS} {acc : List FileL} {v : Value} (h : LdSt w W B g s acc v) (hb : Below W.heap.size W W') : LdSt w W' B g s acc v := by
  have hs := h.size
  have hl := h.glt
  have hB := h.hB
  exact ldst_cur h (curIs_kept h.cur (hb.block g (by omega)) (hb.mono (by omega))) (grown_of_below hb)
/-- A store into a block that is neither of these. -/
theorem ldst_set {w W : World} {B g b : Nat} {s : CurS} {acc : List FileL} {v : Value} (h : LdSt w W B g s acc v) (hb : w.heap.size + 2 < b) (hv : v.ownBlock ≠ some b) (j : Nat) (u : Value) : LdSt w (W.setCell ⟨b, j, none⟩ u) B g s acc v := by
  have hl := h.glt
  have hB := h.hB
  have hs := h.size
  refine ⟨block_set_other h.res b j u (by omega), block_set_other h.d b j u (by omega), block_set_other h.names b j u (by omega), h.own.kept (grown_set W ⟨b, j, none⟩ u) (.inr (fun e => hv (by simpa using e))), ?_, hl, hB, ?_⟩
  · refine curIs_kept h.cur (heap_setCell_other W ⟨b, j, none⟩ g u (by show g ≠ b; omega)) ((Below.refl _ _).setCell (p := ⟨b, j, none⟩) (by show B ≤ b; omega) u)
  · have G := h.grown
    have K := grown_set W ⟨b, j, none⟩ u
    exact ⟨G.os, G.tape, G.output, Nat.le_trans G.size K.size, fun i hi hr => (K.block i (by have := G.size; omega) (by simp; omega)).trans (G.block i hi hr)⟩
theorem ldst_append {w W W' : World} {B g g' cap' : Nat} {s : CurS} {acc acc' : List FileL} {v : Value} {o : Obj} (h : LdSt w W B g s acc v) (ho : W'.ownsRow (w.heap.size + 3) 34 3 (.slice (some ⟨g', 0, none⟩) acc'.length cap') acc'.length (filesC acc')) (hg : (W.alloc o).grownBy W' v.ownBlock) :
    W'.cell? ⟨w.heap.size + 1, 0, none⟩ = some v ∧ W'.frozen? ⟨w.heap.size + 1, 0, none⟩ = false ∧ LdSt w (W'.setCell ⟨w.heap.size + 1, 0, none⟩ (.slice (some ⟨g', 0, none⟩) acc'.length cap')) B g s acc' (.slice (some ⟨g', 0, none⟩) acc'.length cap') := by
  have h2 := ldst_below h ((Below.refl _ _).alloc (Nat.le_refl _) o)
  have hs := h2.size
  have hl := h.glt
  have hB := h.hB
  have nb : ∀ i, i < w.heap.size + 3 → v.ownBlock ≠ some i := fun i hi e => by have := (h2.own.lt i e).1; omega
  have k0 : ∀ i, i < w.heap.size + 3 → W'.heap[i]? = (W.alloc o).heap[i]? := fun i hi => hg.block i (by omega) (fun e => nb i hi e.symm)
  have k1 := (k0 (w.heap.size + 1) (by omega)).trans h2.d
  have g'ge : w.heap.size + 3 ≤ g' := (ho.lt g' rfl).1
  refine ⟨cell_one k1, by simp [World.frozen?, k1], block_set_other ((k0 _ (by omega)).trans h2.res) _ 0 _ (by omega), store_one k1 _, block_set_other ((k0 _ (by omega)).trans h2.names) _ 0 _ (by omega), ?_, ?_, hl, hB, ?_⟩
  · exact World.ownsRow.kept ho (grown_set W' ⟨w.heap.size + 1, 0, none⟩ _) (.inr (by intro e; simp only [Value.ownBlock, Option.some.injEq] at e; omega))
  · have c1 := curIs_kept h2.cur (k0 g (by omega)) (below_of_grown hg (by omega) (fun j hj => by have := (h2.own.lt j hj).1; omega))
    exact curIs_kept c1 (heap_setCell_other W' ⟨w.heap.size + 1, 0, none⟩ g _ (by show g ≠ w.heap.size + 1; omega)) ((Below.refl _ _).setCell (p := ⟨w.heap.size + 1, 0, none⟩) (by show B ≤ w.heap.size + 1; omega) _)
  · have G := grown_then h.grown hg (fun j hj => by have := (h2.own.lt j hj).1; omega)
    have K := grown_set W' ⟨w.heap.size + 1, 0, none⟩ (.slice (some ⟨g', 0, none⟩) acc'.length cap')
    exact ⟨G.os, G.tape, G.output, Nat.le_trans G.size K.size, fun i hi hr => (K.block i (by have := G.size; omega) (by simp; omega)).trans (G.block i hi hr)⟩
/-- A drawn file stands at the head of what is left; a skipped name; the end. -/
theorem diskGo_skip (s : CurS) (k : Nat) (hk : k < 4) (h1 : k < s.below 5) (h2 : (s.step.below 5 == 0) = true) : diskGo (4 - k) s k = diskGo (4 - (k + 1)) s.step.step (k + 1) := by
  rw [show 4 - k = (4 - (k + 1)) + 1 from by omega, diskGo, if_pos h1, if_pos h2]
theorem diskGo_take (s : CurS) (k : Nat) (hk : k < 4) (h1 : k < s.below 5) (h2 : (s.step.below 5 == 0) = false) : diskGo (4 - k) s k = (drawFile s.step.step k :: (diskGo (4 - (k + 1)) (drawFileS s.step.step) (k + 1)).1, (diskGo (4 - (k + 1)) (drawFileS s.step.step) (k + 1)).2) := by
  rw [show 4 - k = (4 - (k + 1)) + 1 from by omega, diskGo, if_pos h1, if_neg (by rw [h2]; simp)]
theorem diskGo_stop (s : CurS) (k : Nat) (h1 : ¬ k < s.below 5) : diskGo (4 - k) s k = ([], s.step) := by
  cases h : 4 - k with
  | zero => rfl
  | succ n => rw [diskGo, if_neg h1]

set_option maxRecDepth 100000 in
set_option maxHeartbeats 12800000 in
theorem drawDisk_is (B g : Nat) (s : CurS) (w : World) (hc : CurIs w B g s) (hBw : B ≤ w.heap.size) :
    Calls Try.prog 25 #[.pointer (some ⟨g, 0, none⟩)] w fun e w' => ∃ v, e = .returned (.agg #[v]) ∧ w'.ownsRow w.heap.size 34 3 v (diskDrawn s).1.length (filesC (diskDrawn s).1) ∧ CurIs w' B g (diskDrawn s).2 ∧ w.grownBy w' (some g) := by
  obtain ⟨i0, hi0, hz0, hz1, hz2⟩ := info_parts infoFile
  have hgw := (curAt_ge hc.any).2
  have HC := hide hc
  clear hc
  go_enter Try.func25, Try.ntmps25
  go_wp2_with fail
  obtain ⟨W, hW⟩ : ∃ W, W = (((w.alloc (Obj.cells #[Value.slice none 0 0] 26)).alloc (Obj.cells #[Value.slice none 0 0] 26)).alloc (Obj.cells #[Value.string ⟨#[108, 111, 103]⟩, Value.string ⟨#[109, 97, 114, 107]⟩, Value.string ⟨#[110, 101, 120, 116]⟩, Value.string ⟨#[120]⟩] 9)) := ⟨_, rfl⟩
  have hb0 : Below w.heap.size w W := by rw [hW]; exact (((Below.refl _ _).alloc (Nat.le_refl _) _).alloc (by simp) _).alloc (by simp; omega) _
  have L0 : Hid (LdSt w W B g s [] (.slice none 0 0)) := hide ⟨by rw [hW, Below.heap_alloc _ _ _ (by simp; omega), Below.heap_alloc _ _ _ (by simp)]; exact heap_alloc_new _ _, by rw [hW, Below.heap_alloc _ _ _ (by simp)]; exact alloc_at _ _ _ (by simp), by rw [hW]; exact alloc_at _ _ _ (by simp), ⟨rfl, .inl ⟨rfl, rfl⟩⟩, curIs_kept (unhide HC) (hb0.block g hgw) (hb0.mono hBw), hgw, hBw, grown_of_below hb0⟩
  rw [← hW]
  clear hW hb0 HC
  go_loopw [5] (fun i wr => ∃ (k : Nat) (acc : List FileL) (v : Value) (s' : CurS), k ≤ 4 ∧ i = .int .i64 k ∧ acc.length ≤ k ∧ Hid (LdSt w wr B g s' acc v) ∧ Hid (diskGo 4 s 0 = (acc ++ (diskGo (4 - k) s' k).1, (diskGo (4 - k) s' k).2)))
    (fun i _ => 4 - (intOf i).toNat)
  case atStart => exact ⟨0, [], _, s, by omega, rfl, Nat.le_refl _, L0, hide rfl⟩
  case round =>
    obtain ⟨k, acc, v, s', hk, rfl, hal, hst, hat⟩ := hrel
    clear L0
    have C1 : Hid (Calls Try.prog 42 #[.pointer (some ⟨g, 0, none⟩), .int .i64 5] wr fun e w' => e = .returned (.int .i64 (s'.below 5 : Int)) ∧ CurIs w' B g s'.step ∧ wr.grownBy w' (some g)) := hide (below_is B g 5 s' wr (unhide hst).cur (by omega) (by omega))
    have hx := below_lt s' 5 (by omega)
    have D1 := fun h h2 h3 => diskGo_skip s' k h h2 h3
    have D2 := fun h h2 h3 => diskGo_take s' k h h2 h3
    have D3 := fun h => diskGo_stop s' k h
    generalize s'.below 5 = x at C1 hx D1 D2 D3
    go_wp2_with fail
    refine (unhide C1).mono ?_
    rintro e w1 ⟨rfl, hc1, hg1⟩
    have S1 := hide (ldst_cur (unhide hst) hc1 hg1)
    clear C1 hc1 hg1 hst
    by_cases hkx : k < x
    · have hkx1 : (k : Int) < (x : Int) := by omega
      have C2 : Hid (Calls Try.prog 43 #[.pointer (some ⟨g, 0, none⟩), .int .i64 5] w1 fun e w' => e = .returned (.bool (s'.step.below 5 == 0)) ∧ CurIs w' B g s'.step.step ∧ w1.grownBy w' (some g)) := hide (once_is B g 5 s'.step w1 (unhide S1).cur (by omega) (by omega))
      generalize hone : (s'.step.below 5 == 0) = one at C2
      go_wp2_with fail
      refine (unhide C2).mono ?_
      rintro e w2 ⟨rfl, hc2, hg2⟩
      have S2 := hide (ldst_cur (unhide S1) hc2 hg2)
      clear C2 hc2 hg2 S1
      cases one
      · have R2 := hide (D2 (by omega) hkx hone)
        clear D1 D2 D3 hone
        generalize s'.step.step = s2 at S2 R2
        go_upto_region 7 with fail
        have hk4 : k < 4 := by omega
        have hk0 : (0 : Int) ≤ (k : Int) := Int.natCast_nonneg _
        have hk5 : (k : Int) < 4 := by omega
        have DN := fun (W' : World) (s1 : CurS) (h : LdSt w W' B g s1 acc v) => (show W'.cell? ⟨w.heap.size + 1 + 1, k, none⟩ = some (.string ⟨(nameI k).toArray⟩) from by
          rw [cell_of_row _ _ k _ _ _ h.names]; rcases k with _ | _ | _ | _ | k <;> first | rfl | omega)
        have N9 := below_lt s2 9 (by omega)
        have C9 := fun (W' : World) (h : CurIs W' B g s2) => hide (below_is B g 9 s2 W' h (by omega) (by omega))
        have CT := fun (W' : World) (n : Nat) (hn : n < 9) (h : CurIs W' B g s2.step) (hB : B ≤ W'.heap.size) => hide (text_is B g n s2.step W' h hB (by omega))
        obtain ⟨nm, hnm⟩ : ∃ nm, nm = nameI k := ⟨_, rfl⟩
        rw [← hnm] at DN
        have HNM := hide hnm
        clear hnm
        obtain ⟨n, hn⟩ : ∃ n, n = s2.below 9 := ⟨_, rfl⟩
        rw [← hn] at C9 N9
        have OB := fun (W' : World) (s1 : CurS) (h : LdSt w W' B g s1 acc v) => (show v.ownBlock ≠ some W'.heap.size from fun e => by have := (h.own.lt _ e).2; omega)
        go_cut [6] (fun u wx => ∃ bf, u = .pointer (some ⟨bf, 0, none⟩) ∧ w.heap.size + 2 < bf ∧ v.ownBlock ≠ some bf ∧ wx.heap[bf]? = some (.cells #[(.string ⟨nm.toArray⟩), (.string ⟨(s2.step.text n).toArray⟩), .int .i64 0] 34 (0, 0)) ∧ LdSt w wx B g (s2.step.stepN n) acc v)
        case first =>
          clear R2 hn
          refine wp_region_held_drew (S := fun w' => w'.cell? ⟨w.heap.size + 1 + 1, k, none⟩ = some (.string ⟨nm.toArray⟩)) (by kernel_rfl) (DN w2 s2 (unhide S2)) (fun hS => ?_)
          refine wpAnyH_take (i := 0) (v := .slice (some ⟨w.heap.size + 1 + 1, 0, none⟩) 4 4) rfl (by kernel_rfl) (by kernel_rfl) (by kernel_rfl) (fun _ _ _ h => h) (Or.inl ⟨by kernel_rfl, fun w hSw => by (try dsimp only at hSw); go_split_ands; go_simp⟩) (by assumption) ?_
          simp only [Act.put, List.getElem_toArray, List.getElem_cons_zero, List.setIfInBounds_toArray, List.set_cons_zero, List.set_cons_succ]
          refine wpAnyH_take (i := 1) (v := .int .i64 (k : Int)) rfl (by kernel_rfl) (by kernel_rfl) (by kernel_rfl) (fun _ _ _ h => h) (Or.inl ⟨by kernel_rfl, fun w hSw => by (try dsimp only at hSw); go_split_ands; go_simp⟩) (by assumption) ?_
          simp only [Act.put, List.getElem_toArray, List.getElem_cons_zero, List.getElem_cons_succ, List.setIfInBounds_toArray, List.set_cons_zero, List.set_cons_succ]
          refine wpAnyH_take (i := 2) (v := .pointer (some ⟨w.heap.size + 1 + 1, k, none⟩)) rfl (by kernel_rfl) (by kernel_rfl) (by kernel_rfl) (fun _ _ _ h => h) (Or.inl ⟨by kernel_rfl, fun w hSw => by (try dsimp only at hSw); go_split_ands; go_simp⟩) (by assumption) ?_
          simp only [Act.put, List.getElem_toArray, List.getElem_cons_zero, List.getElem_cons_succ, List.setIfInBounds_toArray, List.set_cons_zero, List.set_cons_succ]
          refine wpAnyH_take (i := 3) (v := .string ⟨nm.toArray⟩) rfl (by kernel_rfl) (by kernel_rfl) (by kernel_rfl) (fun _ _ _ h => h) (Or.inl ⟨by kernel_rfl, fun w hSw => by (try dsimp only at hSw); go_split_ands; go_simp⟩) (by assumption) ?_
          simp only [Act.put, List.getElem_toArray, List.getElem_cons_zero, List.getElem_cons_succ, List.setIfInBounds_toArray, List.set_cons_zero, List.set_cons_succ]
          refine wpAnyH_take (i := 4) (v := .pointer (some ⟨g, 0, none⟩)) rfl (by kernel_rfl) (by kernel_rfl) (by kernel_rfl) (fun _ _ _ h => h) (Or.inl ⟨by kernel_rfl, fun w hSw => by (try dsimp only at hSw); go_split_ands; go_simp⟩) (by assumption) ?_
          simp only [Act.put, List.getElem_toArray, List.getElem_cons_zero, List.getElem_cons_succ, List.setIfInBounds_toArray, List.set_cons_zero, List.set_cons_succ]
          refine wpAnyH_take (i := 5) (v := .pointer (some ⟨g, 0, none⟩)) rfl (by kernel_rfl) (by kernel_rfl) (by kernel_rfl) (fun _ _ _ h => h) (Or.inl ⟨by kernel_rfl, fun w hSw => by (try dsimp only at hSw); go_split_ands; go_simp⟩) (by assumption) ?_
          simp only [Act.put, List.getElem_toArray, List.getElem_cons_zero, List.getElem_cons_succ, List.setIfInBounds_toArray, List.set_cons_zero, List.set_cons_succ]
          refine wpAnyH_ready (rs := [6, 9]) (by kernel_rfl) (by simp) ?_
          refine AllReadyH.cons (i := 6) rfl (fun K hK => ?_) (AllReadyH.cons (i := 9) rfl (fun K hK => ?_) AllReadyH.nil)
          · have S2d := hide (ldst_below (unhide S2) ((Below.refl _ _).drew))
            go_simp
            refine (unhide (C9 _ (unhide S2d).cur)).mono ?_
            rintro e W3 ⟨rfl, hcx, hgx⟩
            have S3 := hide (ldst_cur (unhide S2d) hcx hgx)
            go_wp2_with fail
            refine hK.out _ _ (DN _ _ (unhide S3)) (fun hHeld => ?_)
            clear hK hcx hgx S2d
            refine wpAnyH_ready (rs := [7, 9]) (by kernel_rfl) (by simp) ?_
            refine AllReadyH.cons (i := 7) rfl (fun K hK => ?_) (AllReadyH.cons (i := 9) rfl (fun K hK => ?_) AllReadyH.nil)
            · go_simp
              refine (unhide (CT _ n N9 (unhide S3).cur (by have := (unhide S3).size; have := (unhide S3).hB; omega))).mono ?_
              rintro e W8 ⟨rfl, hcx, hgx⟩
              have S8 := hide (ldst_cur (unhide S3) hcx hgx)
              go_wp2_with fail
              refine hK.out _ _ (DN _ _ (unhide S8)) (fun hHeld => ?_)
              clear hK hcx hgx S3
              refine wpAnyH_take (i := 8) (v := .agg #[(.string ⟨nm.toArray⟩), (.string ⟨(s2.step.text n).toArray⟩), .int .i64 0]) rfl (by kernel_rfl) (by kernel_rfl) (by kernel_rfl) (fun _ _ _ h => h) (Or.inl ⟨by kernel_rfl, fun w hSw => by (try dsimp only at hSw); go_split_ands; go_simp⟩) (by assumption) ?_
              simp only [Act.put, List.getElem_toArray, List.getElem_cons_zero, List.getElem_cons_succ, List.setIfInBounds_toArray, List.set_cons_zero, List.set_cons_succ]
              refine wpAnyH_ready (rs := [9]) (by kernel_rfl) (by simp) ?_
              refine AllReadyH.cons (i := 9) rfl (fun K hK => ?_) AllReadyH.nil
              go_simp
              have S90 := ldst_below (unhide S8) ((Below.refl _ _).alloc (Nat.le_refl _) (Obj.cells #[Value.string ⟨#[]⟩, Value.string ⟨#[]⟩, Value.int IntKind.i64 0] 34))
              have hf : (W8.alloc (Obj.cells #[Value.string ⟨#[]⟩, Value.string ⟨#[]⟩, Value.int IntKind.i64 0] 34)).heap[W8.heap.size]? = some (.cells #[.string ⟨#[]⟩, .string ⟨#[]⟩, .int .i64 0] 34 (0, 0)) := heap_alloc_new _ _
              have ob := OB _ _ (unhide S8)
              have sz : w.heap.size + 2 < W8.heap.size := (unhide S8).size
              refine hK.out _ _ (DN _ _ S90) (fun hHeld => ?_)
              clear hK
              generalize W8.heap.size = bf at hf ob sz
              generalize W8.alloc (Obj.cells #[Value.string ⟨#[]⟩, Value.string ⟨#[]⟩, Value.int IntKind.i64 0] 34) = W9 at hf S90 hHeld
              have S9 := hide S90
              clear S90 S8
              refine wpAnyH_ready (rs := [10]) (by kernel_rfl) (by simp) ?_
              refine AllReadyH.cons (i := 10) rfl (fun K hK => ?_) AllReadyH.nil
              have c0 : W9.cell? ⟨bf, 0, none⟩ = some (.string ⟨#[]⟩) := by rw [cell_of_row _ _ 0 _ _ _ hf]; rfl
              have c1 : W9.cell? ⟨bf, 1, none⟩ = some (.string ⟨#[]⟩) := by rw [cell_of_row _ _ 1 _ _ _ hf]; rfl
              have c2 : W9.cell? ⟨bf, 2, none⟩ = some (.int .i64 0) := by rw [cell_of_row _ _ 2 _ _ _ hf]; rfl
              have f0 : W9.frozen? ⟨bf, 0, none⟩ = false := by simp [World.frozen?, hf]
              have f1 : W9.frozen? ⟨bf, 1, none⟩ = false := by simp [World.frozen?, hf]
              have f2 : W9.frozen? ⟨bf, 2, none⟩ = false := by simp [World.frozen?, hf]
              have hf1 := (store_cell (j := 0) hf (.string ⟨nm.toArray⟩)).1
              have hf2 := (store_cell (j := 1) hf1 (.string ⟨(s2.step.text n).toArray⟩)).1
              have hf3 := (store_cell (j := 2) hf2 (.int .i64 0)).1
              have T9 := ldst_set (ldst_set (ldst_set (unhide S9) sz ob 0 (.string ⟨nm.toArray⟩)) sz ob 1 (.string ⟨(s2.step.text n).toArray⟩)) sz ob 2 (.int .i64 0)
              clear hf1 hf2
              have HE := hide (And.intro hf3 T9)
              clear hf3 T9
              go_simp
              refine hK.out _ _ (DN _ _ (unhide HE).2) (fun hHeld => ?_)
              clear hK
              refine wpAnyH_done (by kernel_rfl) ?_ _
              go_wp2_with fail
              go_meet
              exact ⟨bf, rfl, sz, ob, (unhide HE).1, (unhide HE).2⟩
            · go_simp
              have S40 := ldst_below (unhide S3) ((Below.refl _ _).alloc (Nat.le_refl _) (Obj.cells #[Value.string ⟨#[]⟩, Value.string ⟨#[]⟩, Value.int IntKind.i64 0] 34))
              have hf : (W3.alloc (Obj.cells #[Value.string ⟨#[]⟩, Value.string ⟨#[]⟩, Value.int IntKind.i64 0] 34)).heap[W3.heap.size]? = some (.cells #[.string ⟨#[]⟩, .string ⟨#[]⟩, .int .i64 0] 34 (0, 0)) := heap_alloc_new _ _
              have ob := OB _ _ (unhide S3)
              have sz : w.heap.size + 2 < W3.heap.size := (unhide S3).size
              refine hK.out _ _ (DN _ _ S40) (fun hHeld => ?_)
              clear hK
              generalize W3.heap.size = bf at hf ob sz
              generalize W3.alloc (Obj.cells #[Value.string ⟨#[]⟩, Value.string ⟨#[]⟩, Value.int IntKind.i64 0] 34) = W4 at hf S40 hHeld
              have S4 := hide S40
              clear S40 S3
              refine wpAnyH_ready (rs := [7]) (by kernel_rfl) (by simp) ?_
              refine AllReadyH.cons (i := 7) rfl (fun K hK => ?_) AllReadyH.nil
              go_simp
              refine (unhide (CT _ n N9 (unhide S4).cur (by have := (unhide S4).size; have := (unhide S4).hB; omega))).mono ?_
              rintro e W9 ⟨rfl, hcx, hgx⟩
              have S9 := hide (ldst_cur (unhide S4) hcx hgx)
              have hf2 := (hgx.block bf (Array.getElem?_eq_some_iff.1 hf).1 (by simp; omega)).trans hf
              replace hf := hf2
              clear hf2
              go_wp2_with fail
              refine hK.out _ _ (DN _ _ (unhide S9)) (fun hHeld => ?_)
              clear hK hcx hgx S4
              refine wpAnyH_take (i := 8) (v := .agg #[(.string ⟨nm.toArray⟩), (.string ⟨(s2.step.text n).toArray⟩), .int .i64 0]) rfl (by kernel_rfl) (by kernel_rfl) (by kernel_rfl) (fun _ _ _ h => h) (Or.inl ⟨by kernel_rfl, fun w hSw => by (try dsimp only at hSw); go_split_ands; go_simp⟩) (by assumption) ?_
              simp only [Act.put, List.getElem_toArray, List.getElem_cons_zero, List.getElem_cons_succ, List.setIfInBounds_toArray, List.set_cons_zero, List.set_cons_succ]
              refine wpAnyH_ready (rs := [10]) (by kernel_rfl) (by simp) ?_
              refine AllReadyH.cons (i := 10) rfl (fun K hK => ?_) AllReadyH.nil
              have c0 : W9.cell? ⟨bf, 0, none⟩ = some (.string ⟨#[]⟩) := by rw [cell_of_row _ _ 0 _ _ _ hf]; rfl
              have c1 : W9.cell? ⟨bf, 1, none⟩ = some (.string ⟨#[]⟩) := by rw [cell_of_row _ _ 1 _ _ _ hf]; rfl
              have c2 : W9.cell? ⟨bf, 2, none⟩ = some (.int .i64 0) := by rw [cell_of_row _ _ 2 _ _ _ hf]; rfl
              have f0 : W9.frozen? ⟨bf, 0, none⟩ = false := by simp [World.frozen?, hf]
              have f1 : W9.frozen? ⟨bf, 1, none⟩ = false := by simp [World.frozen?, hf]
              have f2 : W9.frozen? ⟨bf, 2, none⟩ = false := by simp [World.frozen?, hf]
              have hf1 := (store_cell (j := 0) hf (.string ⟨nm.toArray⟩)).1
              have hf2 := (store_cell (j := 1) hf1 (.string ⟨(s2.step.text n).toArray⟩)).1
              have hf3 := (store_cell (j := 2) hf2 (.int .i64 0)).1
              have T9 := ldst_set (ldst_set (ldst_set (unhide S9) sz ob 0 (.string ⟨nm.toArray⟩)) sz ob 1 (.string ⟨(s2.step.text n).toArray⟩)) sz ob 2 (.int .i64 0)
              clear hf1 hf2
              have HE := hide (And.intro hf3 T9)
              clear hf3 T9
              go_simp
              refine hK.out _ _ (DN _ _ (unhide HE).2) (fun hHeld => ?_)
              clear hK
              refine wpAnyH_done (by kernel_rfl) ?_ _
              go_wp2_with fail
              go_meet
              exact ⟨bf, rfl, sz, ob, (unhide HE).1, (unhide HE).2⟩
          · have S2d := hide (ldst_below (unhide S2) ((Below.refl _ _).drew))
            obtain ⟨W2, hW2⟩ : ∃ W2, W2 = w2.drew := ⟨_, rfl⟩
            rw [← hW2]
            rw [← hW2] at S2d
            clear hW2
            go_simp
            have S40 := ldst_below (unhide S2d) ((Below.refl _ _).alloc (Nat.le_refl _) (Obj.cells #[Value.string ⟨#[]⟩, Value.string ⟨#[]⟩, Value.int IntKind.i64 0] 34))
            have hf : (W2.alloc (Obj.cells #[Value.string ⟨#[]⟩, Value.string ⟨#[]⟩, Value.int IntKind.i64 0] 34)).heap[W2.heap.size]? = some (.cells #[.string ⟨#[]⟩, .string ⟨#[]⟩, .int .i64 0] 34 (0, 0)) := heap_alloc_new _ _
            have ob := OB _ _ (unhide S2d)
            have sz : w.heap.size + 2 < W2.heap.size := (unhide S2d).size
            refine hK.out _ _ (DN _ _ S40) (fun hHeld => ?_)
            clear hK
            generalize W2.heap.size = bf at hf ob sz
            generalize W2.alloc (Obj.cells #[Value.string ⟨#[]⟩, Value.string ⟨#[]⟩, Value.int IntKind.i64 0] 34) = W4 at hf S40 hHeld
            have S4 := hide S40
            clear S40 S2d
            refine wpAnyH_ready (rs := [6]) (by kernel_rfl) (by simp) ?_
            refine AllReadyH.cons (i := 6) rfl (fun K hK => ?_) AllReadyH.nil
            go_simp
            refine (unhide (C9 _ (unhide S4).cur)).mono ?_
            rintro e W5 ⟨rfl, hcx, hgx⟩
            have S5 := hide (ldst_cur (unhide S4) hcx hgx)
            have hf2 := (hgx.block bf (Array.getElem?_eq_some_iff.1 hf).1 (by simp; omega)).trans hf
            replace hf := hf2
            clear hf2
            go_wp2_with fail
            refine hK.out _ _ (DN _ _ (unhide S5)) (fun hHeld => ?_)
            clear hK hcx hgx S4
            refine wpAnyH_ready (rs := [7]) (by kernel_rfl) (by simp) ?_
            refine AllReadyH.cons (i := 7) rfl (fun K hK => ?_) AllReadyH.nil
            go_simp
            refine (unhide (CT _ n N9 (unhide S5).cur (by have := (unhide S5).size; have := (unhide S5).hB; omega))).mono ?_
            rintro e W9 ⟨rfl, hcx, hgx⟩
            have S9 := hide (ldst_cur (unhide S5) hcx hgx)
            have hf2 := (hgx.block bf (Array.getElem?_eq_some_iff.1 hf).1 (by simp; omega)).trans hf
            replace hf := hf2
            clear hf2
            go_wp2_with fail
            refine hK.out _ _ (DN _ _ (unhide S9)) (fun hHeld => ?_)
            clear hK hcx hgx S5
            refine wpAnyH_take (i := 8) (v := .agg #[(.string ⟨nm.toArray⟩), (.string ⟨(s2.step.text n).toArray⟩), .int .i64 0]) rfl (by kernel_rfl) (by kernel_rfl) (by kernel_rfl) (fun _ _ _ h => h) (Or.inl ⟨by kernel_rfl, fun w hSw => by (try dsimp only at hSw); go_split_ands; go_simp⟩) (by assumption) ?_
            simp only [Act.put, List.getElem_toArray, List.getElem_cons_zero, List.getElem_cons_succ, List.setIfInBounds_toArray, List.set_cons_zero, List.set_cons_succ]
            refine wpAnyH_ready (rs := [10]) (by kernel_rfl) (by simp) ?_
            refine AllReadyH.cons (i := 10) rfl (fun K hK => ?_) AllReadyH.nil
            have c0 : W9.cell? ⟨bf, 0, none⟩ = some (.string ⟨#[]⟩) := by rw [cell_of_row _ _ 0 _ _ _ hf]; rfl
            have c1 : W9.cell? ⟨bf, 1, none⟩ = some (.string ⟨#[]⟩) := by rw [cell_of_row _ _ 1 _ _ _ hf]; rfl
            have c2 : W9.cell? ⟨bf, 2, none⟩ = some (.int .i64 0) := by rw [cell_of_row _ _ 2 _ _ _ hf]; rfl
            have f0 : W9.frozen? ⟨bf, 0, none⟩ = false := by simp [World.frozen?, hf]
            have f1 : W9.frozen? ⟨bf, 1, none⟩ = false := by simp [World.frozen?, hf]
            have f2 : W9.frozen? ⟨bf, 2, none⟩ = false := by simp [World.frozen?, hf]
            have hf1 := (store_cell (j := 0) hf (.string ⟨nm.toArray⟩)).1
            have hf2 := (store_cell (j := 1) hf1 (.string ⟨(s2.step.text n).toArray⟩)).1
            have hf3 := (store_cell (j := 2) hf2 (.int .i64 0)).1
            have T9 := ldst_set (ldst_set (ldst_set (unhide S9) sz ob 0 (.string ⟨nm.toArray⟩)) sz ob 1 (.string ⟨(s2.step.text n).toArray⟩)) sz ob 2 (.int .i64 0)
            clear hf1 hf2
            have HE := hide (And.intro hf3 T9)
            clear hf3 T9
            go_simp
            refine hK.out _ _ (DN _ _ (unhide HE).2) (fun hHeld => ?_)
            clear hK
            refine wpAnyH_done (by kernel_rfl) ?_ _
            go_wp2_with fail
            go_meet
            exact ⟨bf, rfl, sz, ob, (unhide HE).1, (unhide HE).2⟩
        case rest =>
          obtain ⟨bf, rfl, hbf, hob, hf, h3⟩ := hcut
          have S3 := hide h3
          have hdl := CurS.text_len s2.step n
          have HD : Hid (drawFile s2 k = ⟨nm, s2.step.text n, if ((s2.step.stepN n).step.below 3 == 0) = true then (n : Int) else (((s2.step.stepN n).below (n + 1) : Nat) : Int)⟩) := hide (by unfold drawFile; rw [← hn, ← unhide HNM])
          have HS : Hid (drawFileS s2 = (s2.step.stepN n).step.step) := hide (by unfold drawFileS; rw [← hn])
          have R3 : Hid (diskGo 4 s 0 = ((acc ++ [drawFile s2 k]) ++ (diskGo (4 - (k + 1)) (drawFileS s2) (k + 1)).1, (diskGo (4 - (k + 1)) (drawFileS s2) (k + 1)).2)) := hide (by rw [unhide hat, unhide R2]; simp)
          rw [unhide HD, unhide HS] at R3
          clear h3 DN C9 CT OB HD HS R2 hat hn HNM S2
          generalize s2.step.stepN n = s3 at S3 R3
          generalize s2.step.text n = dat at hf hdl R3
          subst hdl
          have C8 : Hid (Calls Try.prog 42 #[.pointer (some ⟨g, 0, none⟩), .int .i64 ((dat.length : Int) + 1)] wc fun e w' => e = .returned (.int .i64 (s3.below (dat.length + 1) : Int)) ∧ CurIs w' B g s3.step ∧ wc.grownBy w' (some g)) := hide (below_is B g (dat.length + 1) s3 wc (unhide S3).cur (by omega) (by omega))
          generalize s3.below (dat.length + 1) = y at C8 R3
          have e1 : wc.cell? ⟨bf, 1, none⟩ = some (.string ⟨dat.toArray⟩) := by rw [cell_of_row _ _ 1 _ _ _ hf]; rfl
          go_wp2_with fail
          refine (unhide C8).mono ?_
          rintro e w4 ⟨rfl, hc4, hg4⟩
          have hf4 := (hg4.block bf (Array.getElem?_eq_some_iff.1 hf).1 (by simp; omega)).trans hf
          have S4 := ldst_cur (unhide S3) hc4 hg4
          have f2 : w4.frozen? ⟨bf, 2, none⟩ = false := by simp [World.frozen?, hf4]
          have e2 : w4.cell? ⟨bf, 2, none⟩ = some (.int .i64 0) := by rw [cell_of_row _ _ 2 _ _ _ hf4]; rfl
          have hf5 : (w4.setCell ⟨bf, 2, none⟩ (.int .i64 (y : Int))).heap[bf]? = some (.cells #[.string ⟨nm.toArray⟩, .string ⟨dat.toArray⟩, .int .i64 (y : Int)] 34 (0, 0)) := (store_cell (j := 2) hf4 (.int .i64 (y : Int))).1
          have S5 := hide (ldst_set S4 hbf hob 2 (.int .i64 (y : Int)))
          have C3 : Hid (Calls Try.prog 43 #[.pointer (some ⟨g, 0, none⟩), .int .i64 3] (w4.setCell ⟨bf, 2, none⟩ (.int .i64 (y : Int))) fun e w' => e = .returned (.bool (s3.step.below 3 == 0)) ∧ CurIs w' B g s3.step.step ∧ (w4.setCell ⟨bf, 2, none⟩ (.int .i64 (y : Int))).grownBy w' (some g)) := hide (once_is B g 3 s3.step _ (unhide S5).cur (by omega) (by omega))
          generalize (s3.step.below 3 == 0) = one at C3 R3
          obtain ⟨s4, hs4⟩ : ∃ s4, s4 = s3.step.step := ⟨_, rfl⟩
          rw [← hs4] at C3 R3
          clear C8 hc4 hg4 S4 hf4 S3 hf e1 hs4
          go_wp2_with fail
          refine (unhide C3).mono ?_
          rintro e w6 ⟨rfl, hc6, hg6⟩
          have hf6 := (hg6.block bf (Array.getElem?_eq_some_iff.1 hf5).1 (by simp; omega)).trans hf5
          have S6 := hide (ldst_cur (unhide S5) hc6 hg6)
          clear C3 hc6 hg6 hf5 S5 f2 e2
          have hdl : dat.length < 9 := N9
          cases one
          · have R4 : Hid (diskGo 4 s 0 = ((acc ++ [⟨nm, dat, (y : Int)⟩]) ++ (diskGo (4 - (k + 1)) s4 (k + 1)).1, (diskGo (4 - (k + 1)) s4 (k + 1)).2)) := R3
            clear R3
            have hown := (unhide S6).own
            have cd := cell_one (unhide S6).d
            have e0 : w6.cell? ⟨bf, 0, none⟩ = some (.string ⟨nm.toArray⟩) := by rw [cell_of_row _ _ 0 _ _ _ hf6]; rfl
            have e1 : w6.cell? ⟨bf, 1, none⟩ = some (.string ⟨dat.toArray⟩) := by rw [cell_of_row _ _ 1 _ _ _ hf6]; rfl
            have e2 : w6.cell? ⟨bf, 2, none⟩ = some (.int .i64 (y : Int)) := by rw [cell_of_row _ _ 2 _ _ _ hf6]; rfl
            have hbz : bf < w6.heap.size := (Array.getElem?_eq_some_iff.1 hf6).1
            have hsz := (unhide S6).size
            have HNL := hide hdl
            clear hf6 hdl
            go_wp2_with (at_builtin; refine wpList_append_lies _ (by rfl) _ _ _ (by rfl) (w.heap.size + 3) 34 i0 _ 3 40 Try.underlying24 hi0 hz0 hz1 hz2 rfl (by omega) _ acc.length _ (by rfl) (hown.alloc _) ⟨w6.heap.size, 0, none⟩ 1 1 (fcs ⟨nm, dat, (y : Int)⟩) (by rfl) (by rfl) (World.news_of_block (cs := #[.string ⟨nm.toArray⟩, .string ⟨dat.toArray⟩, .int .i64 (y : Int)]) (t := 34) (fr := (0, 0)) (heap_alloc_new _ _)) (by simp [fcs, sv, Value.oneCell']) (by omega) (by unfold maxLen; omega) (by omega) (by simp; omega) (w6.heap.size + 1) (by simp) ?_)
            intro g' cap' w3 ho3 hgr hat1 hlt1
            have ho4 : w3.ownsRow (w.heap.size + 3) 34 3 (.slice (some ⟨g', 0, none⟩) (acc ++ [(⟨nm, dat, (y : Int)⟩ : FileL)]).length cap') (acc ++ [(⟨nm, dat, (y : Int)⟩ : FileL)]).length (filesC (acc ++ [⟨nm, dat, (y : Int)⟩])) := by
              rw [filesC_append, List.length_append]; simpa [filesC] using ho3
            obtain ⟨x1, x2, ST3⟩ := ldst_append (unhide S6) ho4 hgr
            have ST4 : Hid (LdSt w (w3.setCell ⟨w.heap.size + 1, 0, none⟩ (.slice (some ⟨g', 0, none⟩) (acc.length + 1) cap')) B g s4 (acc ++ [⟨nm, dat, (y : Int)⟩]) (.slice (some ⟨g', 0, none⟩) (acc.length + 1) cap')) := by
              rw [List.length_append] at ST3; exact hide ST3
            clear ho3 ho4 hgr hat1 hlt1 ST3 S6 hown cd e0 e1 e2
            go_wp2
            go_roundw
            case rel => exact ⟨k + 1, _, _, s4, by omega, by go_num, by simp; omega, ST4, R4⟩
            case measure => simp [intOf]; omega
          · have R4 : Hid (diskGo 4 s 0 = ((acc ++ [⟨nm, dat, (dat.length : Int)⟩]) ++ (diskGo (4 - (k + 1)) s4 (k + 1)).1, (diskGo (4 - (k + 1)) s4 (k + 1)).2)) := R3
            clear R3
            have f2 : w6.frozen? ⟨bf, 2, none⟩ = false := by simp [World.frozen?, hf6]
            have e1 : w6.cell? ⟨bf, 1, none⟩ = some (.string ⟨dat.toArray⟩) := by rw [cell_of_row _ _ 1 _ _ _ hf6]; rfl
            have e2 : w6.cell? ⟨bf, 2, none⟩ = some (.int .i64 (y : Int)) := by rw [cell_of_row _ _ 2 _ _ _ hf6]; rfl
            have hf7 : (w6.setCell ⟨bf, 2, none⟩ (.int .i64 (dat.length : Int))).heap[bf]? = some (.cells #[.string ⟨nm.toArray⟩, .string ⟨dat.toArray⟩, .int .i64 (dat.length : Int)] 34 (0, 0)) := (store_cell (j := 2) hf6 (.int .i64 (dat.length : Int))).1
            have S7 := hide (ldst_set (unhide S6) hbf hob 2 (.int .i64 (dat.length : Int)))
            clear S6 hf6
            go_upto_region 11 with fail
            generalize w6.setCell ⟨bf, 2, none⟩ (.int .i64 (dat.length : Int)) = w7 at hf7 S7
            clear f2 e1 e2
            have hown := (unhide S7).own
            have cd := cell_one (unhide S7).d
            have e0 : w7.cell? ⟨bf, 0, none⟩ = some (.string ⟨nm.toArray⟩) := by rw [cell_of_row _ _ 0 _ _ _ hf7]; rfl
            have e1 : w7.cell? ⟨bf, 1, none⟩ = some (.string ⟨dat.toArray⟩) := by rw [cell_of_row _ _ 1 _ _ _ hf7]; rfl
            have e2 : w7.cell? ⟨bf, 2, none⟩ = some (.int .i64 (dat.length : Int)) := by rw [cell_of_row _ _ 2 _ _ _ hf7]; rfl
            have hbz : bf < w7.heap.size := (Array.getElem?_eq_some_iff.1 hf7).1
            have hsz := (unhide S7).size
            have HNL := hide hdl
            clear hf7 hdl
            go_wp2_with (at_builtin; refine wpList_append_lies _ (by rfl) _ _ _ (by rfl) (w.heap.size + 3) 34 i0 _ 3 40 Try.underlying24 hi0 hz0 hz1 hz2 rfl (by omega) _ acc.length _ (by rfl) (hown.alloc _) ⟨w7.heap.size, 0, none⟩ 1 1 (fcs ⟨nm, dat, (dat.length : Int)⟩) (by rfl) (by rfl) (World.news_of_block (cs := #[.string ⟨nm.toArray⟩, .string ⟨dat.toArray⟩, .int .i64 (dat.length : Int)]) (t := 34) (fr := (0, 0)) (heap_alloc_new _ _)) (by simp [fcs, sv, Value.oneCell']) (by omega) (by unfold maxLen; omega) (by omega) (by simp; omega) (w7.heap.size + 1) (by simp) ?_)
            intro g' cap' w3 ho3 hgr hat1 hlt1
            have ho4 : w3.ownsRow (w.heap.size + 3) 34 3 (.slice (some ⟨g', 0, none⟩) (acc ++ [(⟨nm, dat, (dat.length : Int)⟩ : FileL)]).length cap') (acc ++ [(⟨nm, dat, (dat.length : Int)⟩ : FileL)]).length (filesC (acc ++ [⟨nm, dat, (dat.length : Int)⟩])) := by
              rw [filesC_append, List.length_append]; simpa [filesC] using ho3
            obtain ⟨x1, x2, ST3⟩ := ldst_append (unhide S7) ho4 hgr
            have ST4 : Hid (LdSt w (w3.setCell ⟨w.heap.size + 1, 0, none⟩ (.slice (some ⟨g', 0, none⟩) (acc.length + 1) cap')) B g s4 (acc ++ [⟨nm, dat, (dat.length : Int)⟩]) (.slice (some ⟨g', 0, none⟩) (acc.length + 1) cap')) := by
              rw [List.length_append] at ST3; exact hide ST3
            clear ho3 ho4 hgr hat1 hlt1 ST3 S7 hown cd e0 e1 e2
            go_wp2
            go_roundw
            case rel => exact ⟨k + 1, _, _, s4, by omega, by go_num, by simp; omega, ST4, R4⟩
            case measure => simp [intOf]; omega
      · have R2 : Hid (diskGo 4 s 0 = (acc ++ (diskGo (4 - (k + 1)) s'.step.step (k + 1)).1, (diskGo (4 - (k + 1)) s'.step.step (k + 1)).2)) := hide (by rw [← D1 (by omega) hkx hone]; exact unhide hat)
        clear D1 D2 D3 hone hat
        go_wp2
        go_roundw
        case rel => exact ⟨k + 1, acc, v, _, by omega, by go_num, by omega, S2, R2⟩
        case measure => simp [intOf]; omega
    · have R2 : Hid (diskGo 4 s 0 = (acc, s'.step)) := hide (by rw [unhide hat, D3 hkx, List.append_nil])
      have hkx1 : ¬ (k : Int) < (x : Int) := by omega
      clear D1 D2 D3 hat
      have hst := unhide S1
      obtain ⟨av, cv, rfl, -⟩ := ownsRow_shape hst.own
      have c1 := cell_one hst.res
      have c2 := cell_one hst.d
      have f1 : w1.frozen? ⟨w.heap.size, 0, none⟩ = false := by simp [World.frozen?, hst.res]
      have r1 := cell_one (store_one hst.res (.slice av acc.length cv))
      have hgl := hst.glt
      have r2 := ownsRow_base (ownsRow_far hst.own ⟨w.heap.size, 0, none⟩ (.slice av acc.length cv) (by show w.heap.size < _; omega)) (B' := w.heap.size) (by omega)
      have r3 := curIs_kept hst.cur (heap_setCell_other w1 ⟨w.heap.size, 0, none⟩ g (.slice av acc.length cv) (by show g ≠ w.heap.size; omega)) ((Below.refl _ _).setCell (p := ⟨w.heap.size, 0, none⟩) (by show B ≤ w.heap.size; omega) _)
      have r4 : w.grownBy (w1.setCell ⟨w.heap.size, 0, none⟩ (.slice av acc.length cv)) (some g) := by
        have G := hst.grown
        have K := grown_set w1 ⟨w.heap.size, 0, none⟩ (.slice av acc.length cv)
        exact ⟨G.os, G.tape, G.output, Nat.le_trans G.size K.size, fun i hi hr => (K.block i (by have := G.size; omega) (by simp; omega)).trans (G.block i hi hr)⟩
      clear hst S1
      have HR := hide (And.intro r2 (And.intro r3 r4))
      clear r2 r3 r4
      go_wp2
      refine bodyPost_ret (v := .agg #[.slice av acc.length cv]) (by simp [results, Try.results25, go_sem, r1]) rfl ?_
      obtain ⟨r2, r3, r4⟩ := unhide HR
      unfold diskDrawn
      rw [unhide R2]
      exact ⟨_, rfl, r2, r3, r4⟩
end Go.Proofs.Ytfnkcpjfjijglaa
