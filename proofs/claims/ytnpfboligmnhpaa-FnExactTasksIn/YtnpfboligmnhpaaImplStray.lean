/- The walks of the program's hasStrayEdge and hasCycle. -/
import Derived.Test.YtnpfboligmnhpaaImplTask
import Derived.Test.YtnpfboligmnhpaaSpecPlans
namespace Go.Proofs.Ytnpfboligmnhpaa
open Go.RowKit
open scoped Classical
set_option linter.unusedVariables false
set_option linter.unusedSimpArgs false
attribute [local go_sem ↓] Go.wp_at_zero Go.wp_at_succ

theorem edgeCells {w w' : World} {a b : Int} (hb : Below (w.alloc (Obj.cells #[.int .i64 a, .int .i64 b] 96)).heap.size (w.alloc (Obj.cells #[.int .i64 a, .int .i64 b] 96)) w') : w'.cell? ⟨w.heap.size, 0, none⟩ = some (.int .i64 a) ∧ w'.cell? ⟨w.heap.size, 1, none⟩ = some (.int .i64 b) := by
  have h : w'.heap[w.heap.size]? = some (.cells #[.int .i64 a, .int .i64 b] 96 (0, 0)) := by rw [hb.block _ (by simp)]; exact heap_alloc_new _ _
  exact ⟨by rw [cell_of_row w' _ 0 _ _ _ h]; rfl, by rw [cell_of_row w' _ 1 _ _ _ h]; rfl⟩
set_option maxRecDepth 100000 in
set_option maxHeartbeats 1600000 in
theorem implStray_any (va : Value) (ba n : Nat) (p : PlanL) (w : World) (hA : w.ownsRow ba 96 2 va p.edges.length (edgesC p.edges)) (hl : p.edges.length ≤ 2000000) (hn : p.tasks = (n : Int)) (h12 : n ≤ 12) :
    Calls Try.prog 80 #[planV p va] w fun e w' => ∃ r : Bool, e = .returned (.bool r) ∧ (r = true ↔ ¬ edgesIn p) ∧ Below w.heap.size w w' := by
  obtain ⟨aa, ca, rfl, sga⟩ := ownsRow_shape hA
  have C := fun (a : Int) (W : World) => hide (implTask_any (.slice aa p.edges.length ca) n p a W hn h12)
  obtain ⟨p1, p2, p3, p4, es⟩ := p
  unfold planV at C ⊢
  simp only at C hA hl hn ⊢
  subst hn
  unfold edgesIn
  simp only
  go_enter Try.func80, Try.ntmps80
  go_wp2
  obtain ⟨W, hW⟩ : ∃ W, W = w.alloc (Obj.cells #[.int .i64 p1, .int .i64 p2, .int .i64 p3, .int .i64 (n : Int), .slice aa es.length ca] 26) := ⟨_, rfl⟩
  have HX := hide (show W.heap[w.heap.size]? = some (.cells #[.int .i64 p1, .int .i64 p2, .int .i64 p3, .int .i64 (n : Int), .slice aa es.length ca] 26 (0, 0)) by rw [hW]; exact heap_alloc_new _ _)
  have hW0 : Below w.heap.size w W := by rw [hW]; exact (Below.refl _ _).alloc (Nat.le_refl _) _
  rw [← hW]
  clear hW
  go_loopw [8] (fun i wr => ∃ k : Nat, k ≤ es.length ∧ i = .int .i64 k ∧ Below W.heap.size W wr ∧ Hid (∀ e ∈ es.take k, edgeIn n e))
    (fun i _ => es.length - (intOf i).toNat)
  case atStart => exact ⟨0, Nat.zero_le _, rfl, Below.refl _ _, hide (by simp)⟩
  case round =>
    obtain ⟨k, hk, rfl, hb, hat⟩ := hrel
    obtain ⟨c0, c1, c2, c3, c4⟩ := box_cells (unhide HX) hb
    have hbw := hW0.trans (hb.mono hW0.size)
    by_cases hlt : k < es.length
    · obtain ⟨ga, rfl⟩ := sga (by omega)
      have hk0 : (0 : Int) ≤ (k : Int) := Int.natCast_nonneg _
      have hk1 : (k : Int) < (es.length : Int) := by omega
      obtain ⟨e1, e2⟩ := edgesC_cell (ownsRow_below hA hbw) hlt
      have HS := hide (List.take_succ_eq_append_getElem hlt)
      have HI := hide (List.getElem_mem hlt)
      generalize es[k] = q at e1 e2 HS HI
      obtain ⟨a, b⟩ := q
      simp only at e1 e2
      have hbV := hb.alloc hb.size (Obj.cells #[.int .i64 a, .int .i64 b] 96)
      obtain ⟨x0, x1, x2, x3, x4⟩ := box_cells (unhide HX) hbV
      clear sga hA c0 c1 c2 c3 c4
      by_cases ha : 0 ≤ a ∧ a < (n : Int)
      · have C1 := fun W => C a W
        rw [decide_eq_true ha] at C1
        by_cases hb2 : 0 ≤ b ∧ b < (n : Int)
        · have C2 := fun W => C b W
          rw [decide_eq_true hb2] at C2
          have hat2 : Hid (∀ e ∈ es.take (k + 1), edgeIn n e) := hide (by
            rw [unhide HS]
            intro e he
            rcases List.mem_append.1 he with he | he
            · exact unhide hat e he
            · simp at he; subst he; exact ⟨ha.1, ha.2, hb2.1, hb2.2⟩)
          clear ha hb2 C hat HS HI
          go_wp2_with fail
          refine (unhide (C1 _)).mono ?_
          rintro e V1 ⟨rfl, hb1⟩
          obtain ⟨d1, d2⟩ := edgeCells hb1
          have hB1 := hbV.trans (hb1.mono hbV.size)
          obtain ⟨c0, c1, c2, c3, c4⟩ := box_cells (unhide HX) hB1
          clear hb1
          go_wp2_with fail
          refine (unhide (C2 _)).mono ?_
          rintro e V2 ⟨rfl, hb3⟩
          have hB2 := hB1.trans (hb3.mono hB1.size)
          clear hb3 c0 c1 c2 c3 c4 d1 d2
          go_wp2
          go_roundw
          case rel => exact ⟨k + 1, by omega, by go_num, hB2, hat2⟩
          case measure => simp [intOf]; omega
        · have C2 := fun W => C b W
          rw [decide_eq_false hb2] at C2
          have hbad : Hid (¬ ∀ e ∈ es, edgeIn n e) := hide (fun h => hb2 ⟨(h _ (unhide HI)).2.2.1, (h _ (unhide HI)).2.2.2⟩)
          clear ha hb2 C hat HS HI
          go_wp2_with fail
          refine (unhide (C1 _)).mono ?_
          rintro e V1 ⟨rfl, hb1⟩
          obtain ⟨d1, d2⟩ := edgeCells hb1
          have hB1 := hbV.trans (hb1.mono hbV.size)
          obtain ⟨c0, c1, c2, c3, c4⟩ := box_cells (unhide HX) hB1
          clear hb1
          go_wp2_with fail
          refine (unhide (C2 _)).mono ?_
          rintro e V2 ⟨rfl, hb3⟩
          have hB2 := hB1.trans (hb3.mono hB1.size)
          clear hb3 c0 c1 c2 c3 c4 d1 d2
          go_wp2
          go_ret
          exact ⟨true, rfl, ⟨fun _ => unhide hbad, fun _ => rfl⟩, hW0.trans (hB2.mono hW0.size)⟩
      · have C1 := fun W => C a W
        rw [decide_eq_false ha] at C1
        have hbad : Hid (¬ ∀ e ∈ es, edgeIn n e) := hide (fun h => ha ⟨(h _ (unhide HI)).1, (h _ (unhide HI)).2.1⟩)
        clear ha C hat HS HI
        go_wp2_with fail
        refine (unhide (C1 _)).mono ?_
        rintro e V1 ⟨rfl, hb1⟩
        have hB1 := hbV.trans (hb1.mono hbV.size)
        clear hb1
        go_wp2
        go_ret
        exact ⟨true, rfl, ⟨fun _ => unhide hbad, fun _ => rfl⟩, hW0.trans (hB1.mono hW0.size)⟩
    · have hke : es.take k = es := List.take_of_length_le (by omega)
      rw [hke] at hat
      clear sga hA hke C c0 c1 c2 c3 c4
      go_wp2
      go_ret
      exact ⟨false, rfl, ⟨fun h => (by cases h), fun h => absurd (unhide hat) h⟩, hbw⟩
set_option maxRecDepth 100000 in
set_option maxHeartbeats 1600000 in
theorem implCycle_any (va : Value) (ba n : Nat) (p : PlanL) (w : World) (hA : w.ownsRow ba 96 2 va p.edges.length (edgesC p.edges)) (hl : p.edges.length ≤ 2000000) (hn : p.tasks = (n : Int)) (h12 : n ≤ 12) (hin : edgesIn p) :
    Calls Try.prog 82 #[planV p va] w fun e w' => ∃ r : Bool, e = .returned (.bool r) ∧ (r = true ↔ ¬ noCycle p) ∧ Below w.heap.size w w' := by
  obtain ⟨aa, ca, rfl, -⟩ := ownsRow_shape hA
  have hin2 : ∀ e ∈ p.edges, edgeIn n e := fun e he => by have := hin e he; rwa [hn] at this
  have C := fun (W : World) (h : W.ownsRow ba 96 2 (.slice aa p.edges.length ca) p.edges.length (edgesC p.edges)) => hide (implReached_any (.slice aa p.edges.length ca) ba n p W h hl hn h12 hin2)
  have HA := hide hA
  have HN := hide hin2
  clear hA hin hin2
  obtain ⟨p1, p2, p3, p4, es⟩ := p
  unfold planV at C ⊢
  simp only at C HA HN hl hn ⊢
  subst hn
  unfold noCycle
  simp only
  have hz := zeroGrid
  go_enter Try.func82, Try.ntmps82
  go_wp2_with fail
  obtain ⟨W, hW⟩ : ∃ W, W = w.alloc (Obj.cells #[.int .i64 p1, .int .i64 p2, .int .i64 p3, .int .i64 (n : Int), .slice aa es.length ca] 26) := ⟨_, rfl⟩
  have hx : W.heap[w.heap.size]? = some (.cells #[.int .i64 p1, .int .i64 p2, .int .i64 p3, .int .i64 (n : Int), .slice aa es.length ca] 26 (0, 0)) := by rw [hW]; exact heap_alloc_new _ _
  have hW0 : Below w.heap.size w W := by rw [hW]; exact (Below.refl _ _).alloc (Nat.le_refl _) _
  rw [← hW]
  clear hW
  refine (unhide (C _ (ownsRow_below (unhide HA) hW0))).mono ?_
  rintro e w1 ⟨m, rfl, hG, hb1⟩
  have HG := hide hG
  obtain ⟨c0, c1, c2, c3, c4⟩ := box_cells hx hb1
  have hB1 := hW0.trans (hb1.mono hW0.size)
  have hI : (Try.prog.info? 116).map (·.size) = some (gridC m).size := by rw [gridC_size]; exact infoGrid
  clear C hG hx hW0 hb1 HA
  have hrow := setRow_heap (w1.alloc (.cells (gridC fun _ _ => false) 116)) w1.heap.size _ (gridC m) _ _ (heap_alloc_new w1 _)
  have hrb : Below w1.heap.size w1 ((w1.alloc (.cells (gridC fun _ _ => false) 116)).setRow w1.heap.size (gridC m)) :=
    ((Below.refl _ _).alloc (Nat.le_refl _) _).trans ⟨rfl, rfl, rfl, by simp [World.setRow], fun k hk => setRow_other _ _ k (gridC m) (by omega)⟩
  have d3 := cell_later hrb c3
  have hcell : ∀ j, j < 12 → ((w1.alloc (.cells (gridC fun _ _ => false) 116)).setRow w1.heap.size (gridC m)).cell? ⟨w1.heap.size, j * 12 + j, none⟩ = some (.bool (m j j)) := fun j hj => by
    rw [cell_of_row _ _ _ _ _ _ hrow, gridC_get m j j hj hj]
  have HC := hide hcell
  have R := hide (hB1.trans (hrb.mono hB1.size))
  clear hcell hrow hrb c0 c1 c2 c3 c4
  go_wp2_with (refine wpList_store_row rfl 116 _ _ rfl w1.heap.size (gridC m) rfl rfl 116 _ (heap_alloc_new w1 _) hI (by rw [gridC_size, gridC_size]) (gridC_one m) ?_)
  clear hz d3 hI
  generalize (w1.alloc (.cells (gridC fun _ _ => false) 116)).setRow w1.heap.size (gridC m) = V at HC R ⊢
  go_loopw [9] (fun i wr => ∃ k : Nat, k ≤ n ∧ i = .int .i64 k ∧ wr = V ∧ Hid (∀ j : Nat, j < k → m j j = false))
    (fun i _ => n - (intOf i).toNat)
  case atStart => exact ⟨0, Nat.zero_le _, rfl, rfl, hide (fun j h => by omega)⟩
  case round =>
    obtain ⟨k, hk, rfl, rfl, hat⟩ := hrel
    by_cases hlt : k < n
    · have hk0 : (0 : Int) ≤ (k : Int) := Int.natCast_nonneg _
      have hk1 : (k : Int) < (n : Int) := by omega
      have hk2 : (k : Int) < 12 := by omega
      have cc := unhide HC k (by omega)
      cases hm : m k k
      · rw [hm] at cc
        have hat2 : Hid (∀ j : Nat, j < k + 1 → m j j = false) := hide (fun j hj => by
          rcases Nat.lt_or_ge j k with h | h
          · exact unhide hat j h
          · rw [show j = k by omega]; exact hm)
        clear hat hm
        go_wp2
        go_roundw
        case rel => exact ⟨k + 1, by omega, by go_num, (by first | trivial | rfl), hat2⟩
        case measure => simp [intOf]; omega
      · rw [hm] at cc
        have hbad : Hid (¬ ∀ t : Int, 0 ≤ t → t < (n : Int) → ¬ Reach es t t) := hide (fun h => h (k : Int) hk0 hk1 ((grid_reach (unhide HG) (unhide HN) hlt hlt).1 hm))
        clear hat hm
        go_wp2
        go_ret
        exact ⟨true, rfl, ⟨fun _ => unhide hbad, fun _ => rfl⟩, unhide R⟩
    · have hgood : Hid (∀ t : Int, 0 ≤ t → t < (n : Int) → ¬ Reach es t t) := hide (fun t h0 h1 hr => by
        obtain ⟨j, rfl⟩ : ∃ j : Nat, t = (j : Int) := ⟨t.toNat, by omega⟩
        have hj : j < n := by omega
        have := (grid_reach (unhide HG) (unhide HN) hj hj).2 hr
        rw [unhide hat j (by omega)] at this
        cases this)
      clear hat
      go_wp2
      go_ret
      exact ⟨false, rfl, ⟨fun h => (by cases h), fun h => absurd (unhide hgood) h⟩, unhide R⟩
end Go.Proofs.Ytnpfboligmnhpaa
