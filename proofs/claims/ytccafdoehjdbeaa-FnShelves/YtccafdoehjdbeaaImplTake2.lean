/- The walks of the heap's take and takeHalf. -/
import Derived.Test.YtccafdoehjdbeaaImplPut
namespace Go.Proofs.Ytccafdoehjdbeaa
open Go.RowKit
set_option linter.unusedVariables false
set_option linter.unusedSimpArgs false
attribute [local go_sem ↓] Go.wp_at_zero Go.wp_at_succ

/-- A heap in a variable whose items are a piece of a row. -/
def PcHeap (w : World) (B b : Nat) (v : Value) (l : List QuadL) : Prop :=
  w.heap[b]? = some (.cells #[.func (.func 15) #[] #[], v] 55 (0, 0)) ∧ ownsPc w B 29 4 v l.length (quadsC l)
theorem pcHeap_later {w w' : World} {B b : Nat} {v : Value} {l : List QuadL} (h : PcHeap w B b v l) (hb : Below w.heap.size w w') : PcHeap w' B b v l := ⟨heapLater hb h.1, ownsPc_below h.2 hb⟩
set_option maxRecDepth 100000 in
set_option maxHeartbeats 3200000 in
theorem take_none (B b g c : Nat) (w : World) (hA : HeapAt w B b g c []) (hBb : B ≤ b) :
    Calls Try.prog 39 #[.pointer (some ⟨b, 0, none⟩)] w fun e w' => e = .returned (.tuple #[quadV quad0, .bool false]) ∧ (∃ v, PcHeap w' B b v []) ∧ Below B w w' := by
  have hbl : b < w.heap.size := (Array.getElem?_eq_some_iff.1 hA.1).1
  have q1 := cellIn (i := 1) hA.1 rfl
  have hb : Below w.heap.size w ((w.alloc (Obj.cells #[.int .i64 0, .int .i64 0, .int .i64 0, .int .i64 0] 29)).alloc (Obj.cells #[.int .i64 0, .int .i64 0, .int .i64 0, .int .i64 0] 29)) := ((Below.refl _ _).alloc (Nat.le_refl _) _).alloc (by simp) _
  have hf := pcHeap_later (⟨hA.1, pcOf hA.2⟩ : PcHeap w B b _ []) hb
  have hfin := hide hf
  have hfb := hide hb
  simp only [List.length_nil] at q1
  clear hA hf
  go_enter Try.func39, Try.ntmps39
  go_wp2
  refine bodyPost_ret (v := .tuple #[.agg #[.int .i64 0, .int .i64 0, .int .i64 0, .int .i64 0], .bool false]) (by simp [results, Try.results39, go_sem]) rfl ⟨rfl, ⟨_, unhide hfin⟩, (unhide hfb).mono (by omega)⟩
set_option maxRecDepth 100000 in
set_option maxHeartbeats 3200000 in
theorem take_some (B b g c n : Nat) (x : QuadL) (l : List QuadL) (w : World) (hA : HeapAt w B b g c l) (hn : l.length = n + 1) (hx : l[0]? = some x) (hl : l.length ≤ 3000000) (hBb : B ≤ b) :
    Calls Try.prog 39 #[.pointer (some ⟨b, 0, none⟩)] w fun e w' => e = .returned (.tuple #[quadV x, .bool true]) ∧ (∃ v, PcHeap w' B b v (l.drop 1)) ∧ Below B w w' := by
  have hbl : b < w.heap.size := (Array.getElem?_eq_some_iff.1 hA.1).1
  have hbg := heap_apart hA
  obtain ⟨cur, hBg, hgg, hnc, -⟩ := row_of hA.2
  have hgl : g < w.heap.size := (Array.getElem?_eq_some_iff.1 hgg).1
  have q1 := cellIn (i := 1) hA.1 rfl
  have hx0 : l[0] = x := by rw [List.getElem?_eq_getElem (by omega)] at hx; exact Option.some.inj hx
  obtain ⟨c1, c2, c3, c4⟩ := quadsC_cell hA.2 (k := 0) (by omega)
  rw [hx0] at c1 c2 c3 c4
  simp only [Nat.zero_mul, Nat.zero_add] at c1 c2 c3 c4
  have hH := hA
  rw [hn] at q1 hnc
  have hdl : (l.drop 1).length = n := by simp [hn]
  have HP : ∀ bb, (bb = some ⟨g, 4, none⟩ ∨ (bb = some ⟨g, 0, none⟩ ∧ n = 0)) → Hid (ownsPc w B 29 4 (.slice bb n (c - 1)) (l.drop 1).length (quadsC (l.drop 1)) ∧ (Value.slice bb n (c - 1)).ownBlock = some g) := fun bb h => by
    have h2 := hA.2
    rw [hn] at h2
    have := pcDrop h2 hn (k := 1) (by omega) (b := bb) (c := c - 1) (by rcases h with h | ⟨h, h3⟩; exact .inl h; exact .inr ⟨h, by omega⟩) (m := n) (by omega)
    rw [hdl]
    refine hide ⟨this, ?_⟩
    rcases h with h | ⟨h, _⟩ <;> rw [h] <;> rfl
  have HH := hide hH.1
  obtain ⟨v, hv⟩ : ∃ v, ((v = Value.slice (some ⟨g, 4, none⟩) n (c - 1) ∧ ¬ c = 1) ∨ (v = .slice (some ⟨g, 0, none⟩) n (c - 1) ∧ c = 1 ∧ n = 0)) ∧ Hid (ownsPc w B 29 4 v (l.drop 1).length (quadsC (l.drop 1)) ∧ v.ownBlock = some g) := by
    by_cases hc : c = 1
    · exact ⟨_, .inr ⟨rfl, hc, by omega⟩, HP _ (.inr ⟨rfl, by omega⟩)⟩
    · exact ⟨_, .inl ⟨rfl, hc⟩, HP _ (.inl rfl)⟩
  obtain ⟨hv, HV⟩ := hv
  obtain ⟨x1, x2, x3, x4⟩ := x
  dsimp only at c1 c2 c3 c4
  have hc1 : 1 ≤ c := by omega
  have hn0 : n ≤ 3000000 := by omega
  have HF : ∀ W2 : World, W2 = (w.alloc (Obj.cells #[.int .i64 0, .int .i64 0, .int .i64 0, .int .i64 0] 29)).alloc (Obj.cells #[.int .i64 x1, .int .i64 x2, .int .i64 x3, .int .i64 x4] 29) → Hid (W2.cell? ⟨b, 1, none⟩ = some (.slice (some ⟨g, 0, none⟩) (n + 1) c) ∧ W2.frozen? ⟨b, 1, none⟩ = false ∧ (∀ j, (W2.setCell ⟨b, 1, none⟩ v).frozen? ⟨w.heap.size, j, none⟩ = false) ∧ (W2.setCell ⟨b, 1, none⟩ v).cell? ⟨w.heap.size, 0, none⟩ = some (.int .i64 0) ∧ (W2.setCell ⟨b, 1, none⟩ v).cell? ⟨w.heap.size, 1, none⟩ = some (.int .i64 0) ∧ (W2.setCell ⟨b, 1, none⟩ v).cell? ⟨w.heap.size, 2, none⟩ = some (.int .i64 0) ∧ (W2.setCell ⟨b, 1, none⟩ v).cell? ⟨w.heap.size, 3, none⟩ = some (.int .i64 0) ∧
      (W2.setCell ⟨b, 1, none⟩ v).cell? ⟨w.heap.size + 1, 0, none⟩ = some (.int .i64 x1) ∧ (W2.setCell ⟨b, 1, none⟩ v).cell? ⟨w.heap.size + 1, 1, none⟩ = some (.int .i64 x2) ∧ (W2.setCell ⟨b, 1, none⟩ v).cell? ⟨w.heap.size + 1, 2, none⟩ = some (.int .i64 x3) ∧ (W2.setCell ⟨b, 1, none⟩ v).cell? ⟨w.heap.size + 1, 3, none⟩ = some (.int .i64 x4) ∧
      ∃ W4, W4 = ((((W2.setCell ⟨b, 1, none⟩ v).setCell ⟨w.heap.size, 0, none⟩ (.int .i64 x1)).setCell ⟨w.heap.size, 1, none⟩ (.int .i64 x2)).setCell ⟨w.heap.size, 2, none⟩ (.int .i64 x3)).setCell ⟨w.heap.size, 3, none⟩ (.int .i64 x4) ∧ W4.heap[w.heap.size]? = some (.cells #[.int .i64 x1, .int .i64 x2, .int .i64 x3, .int .i64 x4] 29 (0, 0)) ∧ PcHeap W4 B b v (l.drop 1) ∧ Below B w W4) := fun W2 hW2 => by
    have hb2 : Below w.heap.size w W2 := by rw [hW2]; exact ((Below.refl _ _).alloc (Nat.le_refl _) _).alloc (by simp) _
    have hbox := heapLater hb2 (unhide HH)
    rw [hn] at hbox
    have hz : W2.heap[w.heap.size]? = some (.cells #[.int .i64 0, .int .i64 0, .int .i64 0, .int .i64 0] 29 (0, 0)) := by
      rw [hW2, Below.heap_alloc _ _ _ (by simp)]; exact heap_alloc_new w _
    have ht : W2.heap[w.heap.size + 1]? = some (.cells #[.int .i64 x1, .int .i64 x2, .int .i64 x3, .int .i64 x4] 29 (0, 0)) := by
      rw [hW2]; exact alloc_atQ _ _ _ (by simp)
    have st := stored_items hbox v
    have hz2 := (st.2.block w.heap.size (Array.getElem?_eq_some_iff.1 hz).1 (by intro e; have := Option.some.inj e; omega)).trans hz
    have ht2 := (st.2.block (w.heap.size + 1) (Array.getElem?_eq_some_iff.1 ht).1 (by intro e; have := Option.some.inj e; omega)).trans ht
    obtain ⟨z0, z1, z2, z3⟩ := cells_four hz2
    obtain ⟨t0, t1, t2, t3⟩ := cells_four ht2
    have s4 := stored_four hz2 (.int .i64 x1) (.int .i64 x2) (.int .i64 x3) (.int .i64 x4)
    have fB : Below B w (W2.setCell ⟨b, 1, none⟩ v) := below_trans_grown (hb2.mono (by omega)) st.2 ⟨hBb, by have := hb2.size; omega⟩
    refine hide ⟨cellIn (i := 1) hbox rfl, by simp [World.frozen?, hbox], fun j => by simp [World.frozen?, hz2], z0, z1, z2, z3, t0, t1, t2, t3, _, rfl, s4.1, ?_, ?_⟩
    · refine ⟨?_, ?_⟩
      · rw [s4.2.block b (Array.getElem?_eq_some_iff.1 st.1).1 (by intro e; have := Option.some.inj e; omega)]; exact st.1
      · have h1 := ownsPc_below (unhide HV).1 hb2
        have h2 := h1.kept st.2 (.inr (by rw [(unhide HV).2]; simp; omega))
        exact h2.kept s4.2 (.inr (by rw [(unhide HV).2]; simp; omega))
    · exact below_trans_grown fB s4.2 ⟨by omega, by have := fB.size; omega⟩
  have hnn : (((n + 1 : Nat) : Int) == 0) = false := by simp; omega
  clear hA hH hx hx0 hgg HP HH HV
  rcases hv with ⟨hv, hc⟩ | ⟨hv, rfl, rfl⟩
  all_goals
    try simp only [Nat.sub_self] at hv
    have HV := hide hv
    clear hv
    go_enter Try.func39, Try.ntmps39
    go_upto_region 5 with fail
    obtain ⟨W2, hW2⟩ : ∃ W2, W2 = (w.alloc (Obj.cells #[.int .i64 0, .int .i64 0, .int .i64 0, .int .i64 0] 29)).alloc (Obj.cells #[.int .i64 x1, .int .i64 x2, .int .i64 x3, .int .i64 x4] 29) := ⟨_, rfl⟩
    obtain ⟨k1, k2, k3, k4, k5, k6, k7, k8, k9, k10, k11, W4, hW4, k12, k13, k14⟩ := unhide (HF W2 hW2)
    rw [← hW2]
    clear hW2 HF q1 c1 c2 c3 c4
    obtain ⟨W3, hW3⟩ : ∃ W3, W3 = W2.setCell ⟨b, 1, none⟩ v := ⟨_, rfl⟩
    rw [← hW3] at k3 k4 k5 k6 k7 k8 k9 k10 k11 hW4
    rw [unhide HV] at hW3
    have h3 := hide hW3
    clear hW3
    generalize w.heap.size = N at *
    have HK := hide (And.intro hW4 (And.intro k12 (And.intro k13 k14)))
    have f0 := k3 0
    have f1 := k3 1
    have f2 := k3 2
    have f3 := k3 3
    clear hW4 k12 k3 k13 k14
    go_upto_region 6 with fail
    rw [← unhide h3]
    clear h3 k1 k2
    clear HV
    go_wp2
    rw [← (unhide HK).1]
    obtain ⟨-, k12, k13, k14⟩ := unhide HK
    have r1 := cellIn (i := 0) k12 rfl
    have r2 := cellIn (i := 1) k12 rfl
    have r3 := cellIn (i := 2) k12 rfl
    have r4 := cellIn (i := 3) k12 rfl
    refine bodyPost_ret (v := .tuple #[.agg #[.int .i64 x1, .int .i64 x2, .int .i64 x3, .int .i64 x4], .bool true]) (by simp [results, Try.results39, go_sem, r1, r2, r3, r4]) rfl ⟨rfl, ⟨_, k13⟩, k14⟩
theorem srcTake {w : World} {B b g c m : Nat} {l : List QuadL} (h : HeapAt w B b g c l) (hm : m ≤ l.length) : SrcAt w (.slice (some ⟨g, 0, none⟩) m c) m 4 (quadsC (l.take m)) := by
  refine .inr ⟨_, _, rfl, by rw [quadsC_length, List.length_take]; omega, fun j u hj => ?_⟩
  have e : (quadsC (l.take m))[j]? = some u → (quadsC l)[j]? = some u := fun h => by
    rw [quadsC_take, List.getElem?_take] at h
    split at h
    · exact h
    · cases h
  have := (pcOf h.2).cells j u (e hj)
  rw [addQ]
  simpa using this
set_option maxRecDepth 100000 in
set_option maxHeartbeats 3200000 in
theorem half_any (B b g c : Nat) (l : List QuadL) (w : World) (hA : HeapAt w B b g c l) (hl : l.length ≤ 3000000) (hBb : B ≤ b) :
    Calls Try.prog 40 #[.pointer (some ⟨b, 0, none⟩)] w fun e w' => ∃ g1, e = .returned (.agg #[.func (.func 15) #[] #[], .slice (some ⟨g1, 0, none⟩) (halfK l) (halfK l)]) ∧ w'.ownsRow w.heap.size 29 4 (.slice (some ⟨g1, 0, none⟩) (halfK l) (halfK l)) (halfK l) (quadsC (l.take (halfK l))) ∧ (∃ v, PcHeap w' B b v (l.drop (halfK l)) ∧ v.ownBlock = some g) ∧ Below B w w' := by
  have hbl : b < w.heap.size := (Array.getElem?_eq_some_iff.1 hA.1).1
  have hbg := heap_apart hA
  obtain ⟨cur, hBg, hgg, hnc, -⟩ := row_of hA.2
  have hgl : g < w.heap.size := (Array.getElem?_eq_some_iff.1 hgg).1
  have q1 := cellIn (i := 1) hA.1 rfl
  have hq : ((l.length : Int) + 1).tdiv 2 = ((halfK l : Nat) : Int) := by
    unfold halfK
    rw [Int.tdiv_eq_ediv_of_nonneg (by omega)]
    omega
  have hkl : halfK l ≤ l.length := by unfold halfK; omega
  generalize halfK l = m at hq hkl ⊢
  have hmt : (l.take m).length = m := by rw [List.length_take]; omega
  have HMT := hide hmt
  have hcm : ¬ c < m := by omega
  have HA := hide hA
  clear hA hgg cur hmt
  go_enter Try.func40, Try.ntmps40
  go_upto_region 2 with fail
  obtain ⟨W0, hW0⟩ : ∃ W0, W0 = w.alloc (.cells #[.nilFunc, .slice none 0 0] 55) := ⟨_, rfl⟩
  have hb0 : Below w.heap.size w W0 := by rw [hW0]; exact (Below.refl _ _).alloc (Nat.le_refl _) _
  obtain ⟨bx, hbx⟩ : ∃ bx, bx = w.heap.size := ⟨_, rfl⟩
  have hX : W0.heap[bx]? = some (.cells #[.nilFunc, .slice none 0 0] 55 (0, 0)) := by rw [hW0, hbx]; exact heap_alloc_new w _
  have hbxg : bx ≠ g := by omega
  have hbxb : bx ≠ b := by omega
  have hxl : bx < W0.heap.size := (Array.getElem?_eq_some_iff.1 hX).1
  have hbW : b < W0.heap.size := by omega
  have hgW : g < W0.heap.size := by omega
  rw [← hW0, ← hbx]
  have H0 := hide (heapAt_later (unhide HA) hb0)
  have HX := hide hX
  have CH := fun W (h : HeapAt W B b g c l) => hide (heapOf_any _ (l.take m) W (by rw [unhide HMT]; exact srcTake h hkl) (by rw [unhide HMT]; omega))
  rw [unhide HMT] at CH
  have q0 := cellIn (i := 0) (unhide H0).1 rfl
  have q2 := cellIn (i := 1) (unhide H0).1 rfl
  have HW := hide (And.intro hb0 hbx)
  clear hW0 hbx hX q1 HA HMT hb0
  refine wp_region_held_drew (S := fun w' => w'.cell? ⟨b, 0, none⟩ = some (.func (.func 15) #[] #[]) ∧ w'.cell? ⟨b, 1, none⟩ = some (.slice (some ⟨g, 0, none⟩) l.length c)) (by kernel_rfl) ⟨q0, q2⟩ (fun hS => ?_)
  obtain ⟨V0, hV0⟩ : ∃ V0, V0 = W0.drew := ⟨_, rfl⟩
  have TB : Below W0.heap.size W0 V0 := by rw [hV0]; exact (Below.refl _ _).drew
  rw [← hV0] at hS ⊢
  clear hV0
  refine wpAnyH_take (i := 0) (v := .pointer (some ⟨b, 0, none⟩)) rfl (by kernel_rfl) (by kernel_rfl) (by kernel_rfl) (fun _ _ _ h => h) (Or.inl ⟨by kernel_rfl, fun w hSw => by (try dsimp only at hSw); go_split_ands; go_simp⟩) (by assumption) ?_
  simp only [Act.put, List.getElem_toArray, List.getElem_cons_zero, List.setIfInBounds_toArray, List.set_cons_zero, List.set_cons_succ]
  refine wpAnyH_take (i := 1) (v := .pointer (some ⟨b, 0, none⟩)) rfl (by kernel_rfl) (by kernel_rfl) (by kernel_rfl) (fun _ _ _ h => h) (Or.inl ⟨by kernel_rfl, fun w hSw => by (try dsimp only at hSw); go_split_ands; go_simp⟩) (by assumption) ?_
  simp only [Act.put, List.getElem_toArray, List.getElem_cons_zero, List.getElem_cons_succ, List.setIfInBounds_toArray, List.set_cons_zero, List.set_cons_succ]
  refine wpAnyH_take (i := 2) (v := .pointer (some ⟨b, 0, none⟩)) rfl (by kernel_rfl) (by kernel_rfl) (by kernel_rfl) (fun _ _ _ h => h) (Or.inl ⟨by kernel_rfl, fun w hSw => by (try dsimp only at hSw); go_split_ands; go_simp⟩) (by assumption) ?_
  simp only [Act.put, List.getElem_toArray, List.getElem_cons_zero, List.getElem_cons_succ, List.setIfInBounds_toArray, List.set_cons_zero, List.set_cons_succ]
  refine wpAnyH_take (i := 3) (v := .func (.func 15) #[] #[]) rfl (by kernel_rfl) (by kernel_rfl) (by kernel_rfl) (fun _ _ _ h => h) (Or.inl ⟨by kernel_rfl, fun w hSw => by (try dsimp only at hSw); go_split_ands; go_simp⟩) (by assumption) ?_
  simp only [Act.put, List.getElem_toArray, List.getElem_cons_zero, List.getElem_cons_succ, List.setIfInBounds_toArray, List.set_cons_zero, List.set_cons_succ]
  refine wpAnyH_take (i := 4) (v := .pointer (some ⟨b, 0, none⟩)) rfl (by kernel_rfl) (by kernel_rfl) (by kernel_rfl) (fun _ _ _ h => h) (Or.inl ⟨by kernel_rfl, fun w hSw => by (try dsimp only at hSw); go_split_ands; go_simp⟩) (by assumption) ?_
  simp only [Act.put, List.getElem_toArray, List.getElem_cons_zero, List.getElem_cons_succ, List.setIfInBounds_toArray, List.set_cons_zero, List.set_cons_succ]
  refine wpAnyH_take (i := 5) (v := .pointer (some ⟨b, 0, none⟩)) rfl (by kernel_rfl) (by kernel_rfl) (by kernel_rfl) (fun _ _ _ h => h) (Or.inl ⟨by kernel_rfl, fun w hSw => by (try dsimp only at hSw); go_split_ands; go_simp⟩) (by assumption) ?_
  simp only [Act.put, List.getElem_toArray, List.getElem_cons_zero, List.getElem_cons_succ, List.setIfInBounds_toArray, List.set_cons_zero, List.set_cons_succ]
  refine wpAnyH_take (i := 6) (v := .pointer (some ⟨b, 1, none⟩)) rfl (by kernel_rfl) (by kernel_rfl) (by kernel_rfl) (fun _ _ _ h => h) (Or.inl ⟨by kernel_rfl, fun w hSw => by (try dsimp only at hSw); go_split_ands; go_simp⟩) (by assumption) ?_
  simp only [Act.put, List.getElem_toArray, List.getElem_cons_zero, List.getElem_cons_succ, List.setIfInBounds_toArray, List.set_cons_zero, List.set_cons_succ]
  refine wpAnyH_take (i := 7) (v := .slice (some ⟨g, 0, none⟩) l.length c) rfl (by kernel_rfl) (by kernel_rfl) (by kernel_rfl) (fun _ _ _ h => h) (Or.inl ⟨by kernel_rfl, fun w hSw => by (try dsimp only at hSw); go_split_ands; go_simp⟩) (by assumption) ?_
  simp only [Act.put, List.getElem_toArray, List.getElem_cons_zero, List.getElem_cons_succ, List.setIfInBounds_toArray, List.set_cons_zero, List.set_cons_succ]
  refine wpAnyH_take (i := 8) (v := .int .i64 (m : Int)) rfl (by kernel_rfl) (by kernel_rfl) (by kernel_rfl) (fun _ _ _ h => h) (Or.inl ⟨by kernel_rfl, fun w hSw => by (try dsimp only at hSw); go_split_ands; go_simp⟩) (by assumption) ?_
  simp only [Act.put, List.getElem_toArray, List.getElem_cons_zero, List.getElem_cons_succ, List.setIfInBounds_toArray, List.set_cons_zero, List.set_cons_succ]
  refine wpAnyH_take (i := 9) (v := .slice (some ⟨g, 0, none⟩) m c) rfl (by kernel_rfl) (by kernel_rfl) (by kernel_rfl) (fun _ _ _ h => h) (Or.inl ⟨by kernel_rfl, fun w hSw => by (try dsimp only at hSw); go_split_ands; go_simp⟩) (by assumption) ?_
  simp only [Act.put, List.getElem_toArray, List.getElem_cons_zero, List.getElem_cons_succ, List.setIfInBounds_toArray, List.set_cons_zero, List.set_cons_succ]
  refine wpAnyH_ready (rs := [10, 11]) (by kernel_rfl) (by simp) ?_
  refine AllReadyH.cons (i := 10) rfl (fun K hK => ?_) (AllReadyH.cons (i := 11) rfl (fun K hK => ?_) AllReadyH.nil)
  · go_simp
    refine (unhide (CH _ (heapAt_later (unhide H0) TB))).mono ?_
    rintro e V1 ⟨g1, rfl, hown, hb⟩
    go_wp2_with fail
    have TB2 := TB.trans (hb.mono TB.size)
    have hg1 : W0.heap.size ≤ g1 := Nat.le_trans TB.size (hown.lt g1 rfl).1
    have hg2 := (hown.lt g1 rfl).1
    have hown2 := ownsRow_baseQ hown (B' := W0.heap.size) TB.size
    clear hown
    clear hg2
    refine hK.out _ _ ⟨cellIn (i := 0) (heapAt_later (unhide H0) TB2).1 rfl, cellIn (i := 1) (heapAt_later (unhide H0) TB2).1 rfl⟩ (fun hHeld1 => ?_)
    clear hK hS hb TB
    try simp only [Act.put, List.getElem_toArray, List.getElem_cons_zero, List.getElem_cons_succ, List.setIfInBounds_toArray, List.set_cons_zero, List.set_cons_succ]
    have TB := TB2
    clear TB2
    refine wpAnyH_ready (rs := [11]) (by kernel_rfl) (by simp) ?_
    refine AllReadyH.cons (i := 11) rfl (fun K hK => ?_) AllReadyH.nil
    go_simp
    obtain ⟨V2, hN⟩ : ∃ V, V = V1.alloc (Obj.cells #[.nilFunc, .slice none 0 0] 55) := ⟨_, rfl⟩
    obtain ⟨v, hx⟩ : ∃ b, b = V1.heap.size := ⟨_, rfl⟩
    have hb : Below V1.heap.size V1 V2 := by rw [hN]; exact (Below.refl _ _).alloc (Nat.le_refl _) _
    have hv : V2.heap[v]? = some (.cells #[.nilFunc, .slice none 0 0] 55 (0, 0)) := by rw [hN, hx]; exact heap_alloc_new _ _
    have hvx : W0.heap.size ≤ v := by rw [hx]; exact TB.size
    rw [← hN, ← hx]
    have TB2 := TB.trans (hb.mono TB.size)
    have hvg : v ≠ g1 := by have h1 := (hown2.lt g1 rfl).2; omega
    have hown3 := ownsRow_below hown2 hb
    clear hown2
    have hown2 := hown3
    clear hown3
    refine hK.out _ _ ⟨cellIn (i := 0) (heapAt_later (unhide H0) TB2).1 rfl, cellIn (i := 1) (heapAt_later (unhide H0) TB2).1 rfl⟩ (fun hHeld2 => ?_)
    clear hK hHeld1 hb TB hN hx
    try simp only [Act.put, List.getElem_toArray, List.getElem_cons_zero, List.getElem_cons_succ, List.setIfInBounds_toArray, List.set_cons_zero, List.set_cons_succ]
    have TB := TB2
    clear TB2
    refine wpAnyH_ready (rs := [12]) (by kernel_rfl) (by simp) ?_
    refine AllReadyH.cons (i := 12) rfl (fun K hK => ?_) AllReadyH.nil
    have z0 := cellIn (i := 0) hv rfl
    have z1 := cellIn (i := 1) hv rfl
    have f0 : V2.frozen? ⟨v, 0, none⟩ = false := by simp [World.frozen?, hv]
    have f1 : V2.frozen? ⟨v, 1, none⟩ = false := by simp [World.frozen?, hv]
    have st := stored_two hv (.func (.func 15) #[] #[]) (.slice (some ⟨g1, 0, none⟩) m m)
    have hh := heapAt_later (unhide H0) TB
    have hh2 : HeapAt ((V2.setCell ⟨v, 0, none⟩ (.func (.func 15) #[] #[])).setCell ⟨v, 1, none⟩ (.slice (some ⟨g1, 0, none⟩) m m)) B b g c l := by
      refine ⟨?_, hh.2.kept st.2 (.inr (by simp [Value.ownBlock]; omega))⟩
      rw [st.2.block b (Array.getElem?_eq_some_iff.1 hh.1).1 (by intro e; have := Option.some.inj e; omega)]; exact hh.1
    have ho2 := hown2.kept st.2 (.inr (by simp [Value.ownBlock]; omega))
    have hx1 := heapLater TB (unhide HX)
    have hx2 := (st.2.block bx (Array.getElem?_eq_some_iff.1 hx1).1 (by intro e; have := Option.some.inj e; omega)).trans hx1
    have hfb := below_trans_grown TB st.2 ⟨hvx, TB.size⟩
    have hv2 := st.1
    go_simp
    generalize (V2.setCell ⟨v, 0, none⟩ (.func (.func 15) #[] #[])).setCell ⟨v, 1, none⟩ (.slice (some ⟨g1, 0, none⟩) m m) = V3 at hh2 ho2 hx2 hfb hv2 ⊢
    refine hK.out _ _ ⟨cellIn (i := 0) hh2.1 rfl, cellIn (i := 1) hh2.1 rfl⟩ (fun hHeld3 => ?_)
    clear hK hHeld2 TB hv z0 z1 f0 f1 st hown2 hx1 hh
    try simp only [Act.put, List.getElem_toArray, List.getElem_cons_zero, List.getElem_cons_succ, List.setIfInBounds_toArray, List.set_cons_zero, List.set_cons_succ]
    have GO := hide (And.intro hh2 (And.intro ho2 (And.intro hx2 (And.intro hfb (And.intro hv2 (And.intro hvg hvx))))))
    clear hh2 ho2 hx2 hfb hv2
    refine wpAnyH_done (by kernel_rfl) ?_ _
    clear hHeld3
    obtain ⟨hH, ho, hx, hfb, hv, hvg, hvx⟩ := unhide GO
    obtain ⟨hb0, hbx⟩ := unhide HW
    clear GO HW CH H0 HX hg1 q0 q2
    have HP : ∀ bb, (bb = some ⟨g, m * 4, none⟩ ∨ (bb = some ⟨g, 0, none⟩ ∧ l.length = m)) → ownsPc V3 B 29 4 (.slice bb (l.length - m) (c - m)) (l.drop m).length (quadsC (l.drop m)) ∧ (Value.slice bb (l.length - m) (c - m)).ownBlock = some g := fun bb h => by
      have := pcDrop hH.2 rfl (k := m) hkl (b := bb) (c := c - m) h (m := l.length - m) rfl
      rw [List.length_drop]
      refine ⟨this, ?_⟩
      rcases h with h | ⟨h, _⟩ <;> rw [h] <;> rfl
    obtain ⟨vv, hvv, hp, hpo⟩ : ∃ vv, ((vv = Value.slice (some ⟨g, m * 4, none⟩) (l.length - m) (c - m) ∧ ¬ c = m) ∨ (vv = .slice (some ⟨g, 0, none⟩) 0 0 ∧ c = m ∧ l.length = m)) ∧ ownsPc V3 B 29 4 vv (l.drop m).length (quadsC (l.drop m)) ∧ vv.ownBlock = some g := by
      by_cases hc : c = m
      · have hl2 : l.length = m := by omega
        have h := HP (some ⟨g, 0, none⟩) (.inr ⟨rfl, hl2⟩)
        rw [show l.length - m = 0 by omega, show c - m = 0 by omega] at h
        exact ⟨_, .inr ⟨rfl, hc, hl2⟩, h⟩
      · exact ⟨_, .inl ⟨rfl, hc⟩, HP _ (.inl rfl)⟩
    have st := stored_items hH.1 vv
    obtain ⟨V4, hV4⟩ : ∃ V4, V4 = V3.setCell ⟨b, 1, none⟩ vv := ⟨_, rfl⟩
    rw [← hV4] at st
    have hsz := hfb.size
    have hp4 := hp.kept st.2 (.inr (by rw [hpo]; simp; omega))
    have ho4 := ho.kept st.2 (.inr (by have := (ho.lt g1 rfl).1; simp [Value.ownBlock]; omega))
    have hx4 := (st.2.block bx (Array.getElem?_eq_some_iff.1 hx).1 (by intro e; have := Option.some.inj e; omega)).trans hx
    have hv4 := (st.2.block v (Array.getElem?_eq_some_iff.1 hv).1 (by intro e; have := Option.some.inj e; omega)).trans hv
    have hf3 : Below B w V3 := (hb0.trans (hfb.mono hb0.size)).mono (by omega)
    have hf4 := below_trans_grown hf3 st.2 ⟨hBb, by have := hf3.size; omega⟩
    have s5 := stored_two hx4 (.func (.func 15) #[] #[]) (.slice (some ⟨g1, 0, none⟩) m m)
    obtain ⟨V5, hV5⟩ : ∃ V5, V5 = (V4.setCell ⟨bx, 0, none⟩ (.func (.func 15) #[] #[])).setCell ⟨bx, 1, none⟩ (.slice (some ⟨g1, 0, none⟩) m m) := ⟨_, rfl⟩
    rw [← hV5] at s5
    have hp5 := hp4.kept s5.2 (.inr (by rw [hpo]; simp; omega))
    have ho5 := ownsRow_baseQ (ho4.kept s5.2 (.inr (by have := (ho.lt g1 rfl).1; simp [Value.ownBlock]; omega))) (B' := w.heap.size) (by have := hb0.size; omega)
    have hb5 := (s5.2.block b (Array.getElem?_eq_some_iff.1 st.1).1 (by intro e; have := Option.some.inj e; omega)).trans st.1
    have hf5 := below_trans_grown hf4 s5.2 ⟨by omega, by have := hf4.size; omega⟩
    have q1 := cellIn (i := 1) hH.1 rfl
    have fz : V3.frozen? ⟨b, 1, none⟩ = false := by simp [World.frozen?, hH.1]
    have z0 := cellIn (i := 0) hv4 rfl
    have z1 := cellIn (i := 1) hv4 rfl
    have x0 := cellIn (i := 0) hx4 rfl
    have x1 := cellIn (i := 1) hx4 rfl
    have fx0 : V4.frozen? ⟨bx, 0, none⟩ = false := by simp [World.frozen?, hx4]
    have fx1 : V4.frozen? ⟨bx, 1, none⟩ = false := by simp [World.frozen?, hx4]
    have HV := hide hV5
    have HF := hide (And.intro s5.1 (And.intro hp5 (And.intro ho5 (And.intro hb5 (And.intro hf5 hpo)))))
    clear hV5 hp5 ho5 hb5 hf5 hpo s5 hf4 hf3 hv4 hx4 ho4 hp4 hsz st hp HP hH ho hx hfb hv hb0 hbx
    have hlm : ¬ l.length < m := by omega
    rcases hvv with ⟨hvv, hc⟩ | ⟨hvv, hc, hlc⟩
    all_goals
      have HVV := hide (And.intro hV4 hvv)
      clear hV4 hvv
      go_upto_region 4 with fail
      obtain ⟨hV4, hvv⟩ := unhide HVV
      rw [hvv] at hV4
      rw [← hV4]
      clear HVV hV4 hvv q1 fz
      go_wp2
      rw [← unhide HV]
      obtain ⟨k1, k2, k3, k4, k5, k6⟩ := unhide HF
      have r1 := cellIn (i := 0) k1 rfl
      have r2 := cellIn (i := 1) k1 rfl
      refine bodyPost_ret (v := .agg #[.func (.func 15) #[] #[], .slice (some ⟨g1, 0, none⟩) m m]) (by simp [results, Try.results40, go_sem, r1, r2]) rfl ⟨g1, rfl, k3, ⟨vv, ⟨k4, k2⟩, k6⟩, k5⟩
  · go_simp
    obtain ⟨V1, hN⟩ : ∃ V, V = V0.alloc (Obj.cells #[.nilFunc, .slice none 0 0] 55) := ⟨_, rfl⟩
    obtain ⟨v, hx⟩ : ∃ b, b = V0.heap.size := ⟨_, rfl⟩
    have hb : Below V0.heap.size V0 V1 := by rw [hN]; exact (Below.refl _ _).alloc (Nat.le_refl _) _
    have hv : V1.heap[v]? = some (.cells #[.nilFunc, .slice none 0 0] 55 (0, 0)) := by rw [hN, hx]; exact heap_alloc_new _ _
    have hvx : W0.heap.size ≤ v := by rw [hx]; exact TB.size
    rw [← hN, ← hx]
    have TB2 := TB.trans (hb.mono TB.size)
    have hvn : v < V1.heap.size := (Array.getElem?_eq_some_iff.1 hv).1
    refine hK.out _ _ ⟨cellIn (i := 0) (heapAt_later (unhide H0) TB2).1 rfl, cellIn (i := 1) (heapAt_later (unhide H0) TB2).1 rfl⟩ (fun hHeld1 => ?_)
    clear hK hS hb TB hN hx
    try simp only [Act.put, List.getElem_toArray, List.getElem_cons_zero, List.getElem_cons_succ, List.setIfInBounds_toArray, List.set_cons_zero, List.set_cons_succ]
    have TB := TB2
    clear TB2
    refine wpAnyH_ready (rs := [10]) (by kernel_rfl) (by simp) ?_
    refine AllReadyH.cons (i := 10) rfl (fun K hK => ?_) AllReadyH.nil
    go_simp
    refine (unhide (CH _ (heapAt_later (unhide H0) TB))).mono ?_
    rintro e V2 ⟨g1, rfl, hown, hb⟩
    go_wp2_with fail
    have TB2 := TB.trans (hb.mono TB.size)
    have hg1 : W0.heap.size ≤ g1 := Nat.le_trans TB.size (hown.lt g1 rfl).1
    have hg2 := (hown.lt g1 rfl).1
    have hown2 := ownsRow_baseQ hown (B' := W0.heap.size) TB.size
    clear hown
    have hv2 := heapLater hb hv
    clear hv
    have hv := hv2
    clear hv2
    have hvg : v ≠ g1 := by omega
    refine hK.out _ _ ⟨cellIn (i := 0) (heapAt_later (unhide H0) TB2).1 rfl, cellIn (i := 1) (heapAt_later (unhide H0) TB2).1 rfl⟩ (fun hHeld2 => ?_)
    clear hK hHeld1 hb TB hg2 hvn
    try simp only [Act.put, List.getElem_toArray, List.getElem_cons_zero, List.getElem_cons_succ, List.setIfInBounds_toArray, List.set_cons_zero, List.set_cons_succ]
    have TB := TB2
    clear TB2
    refine wpAnyH_ready (rs := [12]) (by kernel_rfl) (by simp) ?_
    refine AllReadyH.cons (i := 12) rfl (fun K hK => ?_) AllReadyH.nil
    have z0 := cellIn (i := 0) hv rfl
    have z1 := cellIn (i := 1) hv rfl
    have f0 : V2.frozen? ⟨v, 0, none⟩ = false := by simp [World.frozen?, hv]
    have f1 : V2.frozen? ⟨v, 1, none⟩ = false := by simp [World.frozen?, hv]
    have st := stored_two hv (.func (.func 15) #[] #[]) (.slice (some ⟨g1, 0, none⟩) m m)
    have hh := heapAt_later (unhide H0) TB
    have hh2 : HeapAt ((V2.setCell ⟨v, 0, none⟩ (.func (.func 15) #[] #[])).setCell ⟨v, 1, none⟩ (.slice (some ⟨g1, 0, none⟩) m m)) B b g c l := by
      refine ⟨?_, hh.2.kept st.2 (.inr (by simp [Value.ownBlock]; omega))⟩
      rw [st.2.block b (Array.getElem?_eq_some_iff.1 hh.1).1 (by intro e; have := Option.some.inj e; omega)]; exact hh.1
    have ho2 := hown2.kept st.2 (.inr (by simp [Value.ownBlock]; omega))
    have hx1 := heapLater TB (unhide HX)
    have hx2 := (st.2.block bx (Array.getElem?_eq_some_iff.1 hx1).1 (by intro e; have := Option.some.inj e; omega)).trans hx1
    have hfb := below_trans_grown TB st.2 ⟨hvx, TB.size⟩
    have hv2 := st.1
    go_simp
    generalize (V2.setCell ⟨v, 0, none⟩ (.func (.func 15) #[] #[])).setCell ⟨v, 1, none⟩ (.slice (some ⟨g1, 0, none⟩) m m) = V3 at hh2 ho2 hx2 hfb hv2 ⊢
    refine hK.out _ _ ⟨cellIn (i := 0) hh2.1 rfl, cellIn (i := 1) hh2.1 rfl⟩ (fun hHeld3 => ?_)
    clear hK hHeld2 TB hv z0 z1 f0 f1 st hown2 hx1 hh
    try simp only [Act.put, List.getElem_toArray, List.getElem_cons_zero, List.getElem_cons_succ, List.setIfInBounds_toArray, List.set_cons_zero, List.set_cons_succ]
    have GO := hide (And.intro hh2 (And.intro ho2 (And.intro hx2 (And.intro hfb (And.intro hv2 (And.intro hvg hvx))))))
    clear hh2 ho2 hx2 hfb hv2
    refine wpAnyH_done (by kernel_rfl) ?_ _
    clear hHeld3
    obtain ⟨hH, ho, hx, hfb, hv, hvg, hvx⟩ := unhide GO
    obtain ⟨hb0, hbx⟩ := unhide HW
    clear GO HW CH H0 HX hg1 q0 q2
    have HP : ∀ bb, (bb = some ⟨g, m * 4, none⟩ ∨ (bb = some ⟨g, 0, none⟩ ∧ l.length = m)) → ownsPc V3 B 29 4 (.slice bb (l.length - m) (c - m)) (l.drop m).length (quadsC (l.drop m)) ∧ (Value.slice bb (l.length - m) (c - m)).ownBlock = some g := fun bb h => by
      have := pcDrop hH.2 rfl (k := m) hkl (b := bb) (c := c - m) h (m := l.length - m) rfl
      rw [List.length_drop]
      refine ⟨this, ?_⟩
      rcases h with h | ⟨h, _⟩ <;> rw [h] <;> rfl
    obtain ⟨vv, hvv, hp, hpo⟩ : ∃ vv, ((vv = Value.slice (some ⟨g, m * 4, none⟩) (l.length - m) (c - m) ∧ ¬ c = m) ∨ (vv = .slice (some ⟨g, 0, none⟩) 0 0 ∧ c = m ∧ l.length = m)) ∧ ownsPc V3 B 29 4 vv (l.drop m).length (quadsC (l.drop m)) ∧ vv.ownBlock = some g := by
      by_cases hc : c = m
      · have hl2 : l.length = m := by omega
        have h := HP (some ⟨g, 0, none⟩) (.inr ⟨rfl, hl2⟩)
        rw [show l.length - m = 0 by omega, show c - m = 0 by omega] at h
        exact ⟨_, .inr ⟨rfl, hc, hl2⟩, h⟩
      · exact ⟨_, .inl ⟨rfl, hc⟩, HP _ (.inl rfl)⟩
    have st := stored_items hH.1 vv
    obtain ⟨V4, hV4⟩ : ∃ V4, V4 = V3.setCell ⟨b, 1, none⟩ vv := ⟨_, rfl⟩
    rw [← hV4] at st
    have hsz := hfb.size
    have hp4 := hp.kept st.2 (.inr (by rw [hpo]; simp; omega))
    have ho4 := ho.kept st.2 (.inr (by have := (ho.lt g1 rfl).1; simp [Value.ownBlock]; omega))
    have hx4 := (st.2.block bx (Array.getElem?_eq_some_iff.1 hx).1 (by intro e; have := Option.some.inj e; omega)).trans hx
    have hv4 := (st.2.block v (Array.getElem?_eq_some_iff.1 hv).1 (by intro e; have := Option.some.inj e; omega)).trans hv
    have hf3 : Below B w V3 := (hb0.trans (hfb.mono hb0.size)).mono (by omega)
    have hf4 := below_trans_grown hf3 st.2 ⟨hBb, by have := hf3.size; omega⟩
    have s5 := stored_two hx4 (.func (.func 15) #[] #[]) (.slice (some ⟨g1, 0, none⟩) m m)
    obtain ⟨V5, hV5⟩ : ∃ V5, V5 = (V4.setCell ⟨bx, 0, none⟩ (.func (.func 15) #[] #[])).setCell ⟨bx, 1, none⟩ (.slice (some ⟨g1, 0, none⟩) m m) := ⟨_, rfl⟩
    rw [← hV5] at s5
    have hp5 := hp4.kept s5.2 (.inr (by rw [hpo]; simp; omega))
    have ho5 := ownsRow_baseQ (ho4.kept s5.2 (.inr (by have := (ho.lt g1 rfl).1; simp [Value.ownBlock]; omega))) (B' := w.heap.size) (by have := hb0.size; omega)
    have hb5 := (s5.2.block b (Array.getElem?_eq_some_iff.1 st.1).1 (by intro e; have := Option.some.inj e; omega)).trans st.1
    have hf5 := below_trans_grown hf4 s5.2 ⟨by omega, by have := hf4.size; omega⟩
    have q1 := cellIn (i := 1) hH.1 rfl
    have fz : V3.frozen? ⟨b, 1, none⟩ = false := by simp [World.frozen?, hH.1]
    have z0 := cellIn (i := 0) hv4 rfl
    have z1 := cellIn (i := 1) hv4 rfl
    have x0 := cellIn (i := 0) hx4 rfl
    have x1 := cellIn (i := 1) hx4 rfl
    have fx0 : V4.frozen? ⟨bx, 0, none⟩ = false := by simp [World.frozen?, hx4]
    have fx1 : V4.frozen? ⟨bx, 1, none⟩ = false := by simp [World.frozen?, hx4]
    have HV := hide hV5
    have HF := hide (And.intro s5.1 (And.intro hp5 (And.intro ho5 (And.intro hb5 (And.intro hf5 hpo)))))
    clear hV5 hp5 ho5 hb5 hf5 hpo s5 hf4 hf3 hv4 hx4 ho4 hp4 hsz st hp HP hH ho hx hfb hv hb0 hbx
    have hlm : ¬ l.length < m := by omega
    rcases hvv with ⟨hvv, hc⟩ | ⟨hvv, hc, hlc⟩
    all_goals
      have HVV := hide (And.intro hV4 hvv)
      clear hV4 hvv
      go_upto_region 4 with fail
      obtain ⟨hV4, hvv⟩ := unhide HVV
      rw [hvv] at hV4
      rw [← hV4]
      clear HVV hV4 hvv q1 fz
      go_wp2
      rw [← unhide HV]
      obtain ⟨k1, k2, k3, k4, k5, k6⟩ := unhide HF
      have r1 := cellIn (i := 0) k1 rfl
      have r2 := cellIn (i := 1) k1 rfl
      refine bodyPost_ret (v := .agg #[.func (.func 15) #[] #[], .slice (some ⟨g1, 0, none⟩) m m]) (by simp [results, Try.results40, go_sem, r1, r2]) rfl ⟨g1, rfl, k3, ⟨vv, ⟨k4, k2⟩, k6⟩, k5⟩
end Go.Proofs.Ytccafdoehjdbeaa
