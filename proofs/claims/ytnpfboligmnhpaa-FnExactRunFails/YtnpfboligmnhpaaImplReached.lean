/- The walk of the program's reachedOf: who is reached, in a square that is filled by ways through one task behind the other. -/
import Derived.Test.YtnpfboligmnhpaaGridBase
import Derived.Test.YtnpfboligmnhpaaEdgeHelp
namespace Go.Proofs.Ytnpfboligmnhpaa
open Go.RowKit
set_option linter.unusedVariables false
set_option linter.unusedSimpArgs false
attribute [local go_sem ↓] Go.wp_at_zero Go.wp_at_succ

theorem infoGrid : (Try.prog.info? 116).map (·.size) = some 144 := by kernel_rfl
theorem zeroGrid (w : World) : (zeroValue 116).run Try.prog w = .ok (.agg (gridC fun _ _ => false)) w := by kernel_rfl
/-- The plan, the result and the square lie behind one another; the square holds m. -/
structure RV (w wr : World) (pc : Array Value) (m : Nat → Nat → Bool) : Prop where
  plan : wr.heap[w.heap.size]? = some (.cells pc 26 (0, 0))
  res : wr.heap[w.heap.size + 1]? = some (.cells (gridC fun _ _ => false) 116 (0, 0))
  grid : wr.heap[w.heap.size + 1 + 1]? = some (.cells (gridC m) 116 (0, 0))
  below : Below w.heap.size w wr
theorem RV.alloc {w wr : World} {pc : Array Value} {m : Nat → Nat → Bool} (h : RV w wr pc m) (o : Obj) : RV w (wr.alloc o) pc m := by
  have hs := (Array.getElem?_eq_some_iff.1 h.grid).1
  exact ⟨by rw [Below.heap_alloc _ _ _ (by omega)]; exact h.plan, by rw [Below.heap_alloc _ _ _ (by omega)]; exact h.res, by rw [Below.heap_alloc _ _ _ (by omega)]; exact h.grid, h.below.alloc h.below.size _⟩
theorem RV.drew {w wr : World} {pc : Array Value} {m : Nat → Nat → Bool} (h : RV w wr pc m) : RV w wr.drew pc m := ⟨h.plan, h.res, h.grid, h.below.drew⟩
theorem RV.cell {w wr : World} {pc : Array Value} {m : Nat → Nat → Bool} (h : RV w wr pc m) (a b : Nat) (ha : a < 12) (hb : b < 12) : wr.cell? ⟨w.heap.size + 1 + 1, a * 12 + b, none⟩ = some (.bool (m a b)) := by
  rw [cell_of_row wr _ _ _ _ _ h.grid, gridC_get m a b ha hb]
theorem RV.soft {w wr : World} {pc : Array Value} {m : Nat → Nat → Bool} (h : RV w wr pc m) (o : Nat) : wr.frozen? ⟨w.heap.size + 1 + 1, o, none⟩ = false := by simp [World.frozen?, h.grid]
theorem RV.set {w wr : World} {pc : Array Value} {m : Nat → Nat → Bool} (h : RV w wr pc m) (a b : Nat) (ha : a < 12) (hb : b < 12) : RV w (wr.setCell ⟨w.heap.size + 1 + 1, a * 12 + b, none⟩ (.bool true)) pc (fun x y => m x y || (x == a && y == b)) := by
  have hg := grown_setP wr ⟨w.heap.size + 1 + 1, a * 12 + b, none⟩ (.bool true)
  have hs := (Array.getElem?_eq_some_iff.1 h.grid).1
  refine ⟨by rw [hg.block _ (by omega) (by simp; omega)]; exact h.plan, by rw [hg.block _ (by omega) (by simp)]; exact h.res, ?_, h.below.setCell (p := ⟨w.heap.size + 1 + 1, a * 12 + b, none⟩) (by simp; omega) _⟩
  rw [heap_setCell_same wr _ _ _ _ _ h.grid, gridC_set m a b ha hb]
theorem RV.to {w wr : World} {pc : Array Value} {m m' : Nat → Nat → Bool} (h : RV w wr pc m) (e : m = m') : RV w wr pc m' := e ▸ h
set_option maxRecDepth 100000 in
set_option maxHeartbeats 3200000 in
theorem implReached_any (va : Value) (ba n : Nat) (p : PlanL) (w : World) (hA : w.ownsRow ba 96 2 va p.edges.length (edgesC p.edges)) (hl : p.edges.length ≤ 2000000) (hn : p.tasks = (n : Int)) (h12 : n ≤ 12) (hin : ∀ e ∈ p.edges, edgeIn n e) :
    Calls Try.prog 102 #[planV p va] w fun e w' => ∃ m, e = .returned (.agg (gridC m)) ∧ GridIs p.edges n n m ∧ Below w.heap.size w w' := by
  obtain ⟨p1, p2, p3, p4, es⟩ := p
  unfold planV
  simp only at hA hl hn hin ⊢
  subst hn
  obtain ⟨aa, ca, rfl, sga⟩ := ownsRow_shape hA
  have HIN := hide hin
  clear hin
  have hz := zeroGrid
  go_enter Try.func102, Try.ntmps102
  go_wp2
  clear hz
  obtain ⟨pc, hpc⟩ : ∃ pc : Array Value, pc = #[.int .i64 p1, .int .i64 p2, .int .i64 p3, .int .i64 (n : Int), .slice aa es.length ca] := ⟨_, rfl⟩
  obtain ⟨W, hW⟩ : ∃ W, W = ((w.alloc (Obj.cells #[.int .i64 p1, .int .i64 p2, .int .i64 p3, .int .i64 (n : Int), .slice aa es.length ca] 26)).alloc (Obj.cells (gridC fun _ _ => false) 116)).alloc (Obj.cells (gridC fun _ _ => false) 116) := ⟨_, rfl⟩
  have hR0 : RV w W pc (fun _ _ => false) := by
    rw [hW, hpc]
    refine ⟨?_, ?_, alloc_atP _ _ _ (by simp), (((Below.refl _ _).alloc (Nat.le_refl _) _).alloc (by simp) _).alloc (by simp; omega) _⟩
    · rw [Below.heap_alloc _ _ _ (by simp; omega), Below.heap_alloc _ _ _ (by simp)]; exact heap_alloc_new _ _
    · rw [Below.heap_alloc _ _ _ (by simp)]; exact alloc_atP _ _ _ (by simp)
  rw [← hW]
  clear hW
  have hT : ∀ (wr : World) (m : Nat → Nat → Bool), RV w wr pc m → wr.cell? ⟨w.heap.size, 3, none⟩ = some (.int .i64 (n : Int)) := fun wr m h => by
    rw [cell_of_row wr _ 3 _ _ _ h.plan, hpc]; rfl
  have HT := hide hT
  clear hT hpc
  go_loopw [12] (fun i wr => ∃ k : Nat, k ≤ es.length ∧ i = .int .i64 k ∧ RV w wr pc (edgesG (es.take k)))
    (fun i _ => es.length - (intOf i).toNat)
  case atStart => exact ⟨0, Nat.zero_le _, rfl, by simpa [edgesG_nil] using hR0⟩
  case round =>
    obtain ⟨k, hk, rfl, hR⟩ := hrel
    by_cases hlt : k < es.length
    · obtain ⟨ga, rfl⟩ := sga (by omega)
      have hk0 : (0 : Int) ≤ (k : Int) := Int.natCast_nonneg _
      have hk1 : (k : Int) < (es.length : Int) := by omega
      obtain ⟨c1, c2⟩ := edgesC_cell (ownsRow_below hA hR.below) hlt
      have HS := hide (List.take_succ_eq_append_getElem hlt)
      obtain ⟨i1, i2, i3, i4⟩ := unhide HIN es[k] (List.getElem_mem hlt)
      generalize es[k] = q at c1 c2 HS i1 i2 i3 i4
      obtain ⟨qa, qb⟩ := q
      simp only at c1 c2 i1 i2 i3 i4
      obtain ⟨a, rfl⟩ : ∃ a : Nat, qa = (a : Int) := ⟨qa.toNat, by omega⟩
      obtain ⟨b, rfl⟩ : ∃ b : Nat, qb = (b : Int) := ⟨qb.toNat, by omega⟩
      have ha12 : (a : Int) < 12 := by omega
      have hb12 : (b : Int) < 12 := by omega
      have hR2 := hR.alloc (Obj.cells #[.int .i64 (a : Int), .int .i64 (b : Int)] 96)
      have c3 := hR2.cell a b (by omega) (by omega)
      have f3 := hR2.soft (a * 12 + b)
      have hR3 := hide ((hR2.drew.set a b (by omega) (by omega)).to (edgesG_snoc (es.take k) ⟨(a : Int), (b : Int)⟩ a b rfl rfl).symm)
      rw [← unhide HS] at hR3
      have d1 : (wr.alloc (Obj.cells #[.int .i64 (a : Int), .int .i64 (b : Int)] 96)).cell? ⟨wr.heap.size, 0, none⟩ = some (.int .i64 (a : Int)) := by rw [cell_of_row _ _ 0 _ _ _ (heap_alloc_new _ _)]; rfl
      have d2 : (wr.alloc (Obj.cells #[.int .i64 (a : Int), .int .i64 (b : Int)] 96)).cell? ⟨wr.heap.size, 1, none⟩ = some (.int .i64 (b : Int)) := by rw [cell_of_row _ _ 1 _ _ _ (heap_alloc_new _ _)]; rfl
      have hne : w.heap.size + 1 + 1 ≠ wr.heap.size := by have := (Array.getElem?_eq_some_iff.1 hR.grid).1; omega
      have hz0 : (0 : Int) ≤ (a : Int) := Int.natCast_nonneg _
      have hz1 : (0 : Int) ≤ (b : Int) := Int.natCast_nonneg _
      clear hR hA sga hR2
      go_wp2_with fail
      generalize wr.alloc (Obj.cells #[Value.int IntKind.i64 (a : Int), Value.int IntKind.i64 (b : Int)] 96) = V at c3 f3 hR3 d1 d2 ⊢
      generalize wr.heap.size = g at d1 d2 hne ⊢
      go_region_held3 (fun w' => w'.cell? ⟨g, 0, none⟩ = some (.int .i64 (a : Int)) ∧ w'.cell? ⟨g, 1, none⟩ = some (.int .i64 (b : Int))) (go_keep) (fail)
      clear d1 d2 c3 f3
      go_wp2
      go_roundw
      case rel => exact ⟨k + 1, by omega, by go_num, unhide hR3⟩
      case measure => simp [intOf]; omega
    · have hke : es.take k = es := List.take_of_length_le (by omega)
      rw [hke] at hR
      clear hke sga hA hR0 W
      have hG := hide (grid_edges (unhide HIN))
      have c3 := unhide HT _ _ hR
      go_wp2
      go_loopw [25] (fun i wr => ∃ (k : Nat) (m : Nat → Nat → Bool), k ≤ n ∧ i = .int .i64 k ∧ RV w wr pc m ∧ Hid (GridIs es n k m))
        (fun i _ => n - (intOf i).toNat)
      case atStart => exact ⟨0, _, Nat.zero_le _, rfl, hR, hG⟩
      case round =>
        clear hR hG c3
        obtain ⟨kk, m, hkk, rfl, hR, hG⟩ := hrel
        by_cases hlk : kk < n
        · have c3 := unhide HT _ _ hR
          have hq0 : (0 : Int) ≤ (kk : Int) := Int.natCast_nonneg _
          have hq1 : (kk : Int) < (n : Int) := by omega
          go_wp2
          go_loopw [30] (fun i wr => ∃ a : Nat, a ≤ n ∧ i = .int .i64 a ∧ RV w wr pc (fwP m kk n a 0))
            (fun i _ => n - (intOf i).toNat)
          case atStart => exact ⟨0, Nat.zero_le _, rfl, hR.to (fwP_zero m kk n).symm⟩
          case round =>
            clear hR c3
            obtain ⟨a, ha, rfl, hR⟩ := hrel
            by_cases hla : a < n
            · have c3 := unhide HT _ _ hR
              have ha0 : (0 : Int) ≤ (a : Int) := Int.natCast_nonneg _
              have ha1 : (a : Int) < (n : Int) := by omega
              go_wp2
              go_loopw [35] (fun i wr => ∃ b : Nat, b ≤ n ∧ i = .int .i64 b ∧ RV w wr pc (fwP m kk n a b))
                (fun i _ => n - (intOf i).toNat)
              case atStart => exact ⟨0, Nat.zero_le _, rfl, hR⟩
              case round =>
                clear hR c3
                obtain ⟨b, hb, rfl, hR⟩ := hrel
                by_cases hlb : b < n
                · have hb0 : (0 : Int) ≤ (b : Int) := Int.natCast_nonneg _
                  have hb1 : (b : Int) < (n : Int) := by omega
                  have a12 : (a : Int) < 12 := by omega
                  have b12 : (b : Int) < 12 := by omega
                  have k12 : (kk : Int) < 12 := by omega
                  have e1 := hR.cell a kk (by omega) (by omega)
                  have e2 := hR.cell kk b (by omega) (by omega)
                  rw [fwP_from] at e1
                  rw [fwP_to] at e2
                  by_cases hv : (m a kk && m kk b) = true
                  · have hv1 : m a kk = true := by simp at hv; exact hv.1
                    have hv2 : m kk b = true := by simp at hv; exact hv.2
                    rw [hv1] at e1
                    rw [hv2] at e2
                    have e3 := hR.cell a b (by omega) (by omega)
                    have f3 := hR.soft (a * 12 + b)
                    have hR3 := hide ((hR.set a b (by omega) (by omega)).to (fwP_set m kk n a b hv))
                    clear hR hv hv1 hv2
                    generalize fwP m kk n a b a b = v3 at e3
                    go_wp2
                    go_roundw
                    case rel => exact ⟨b + 1, by omega, by go_num, unhide hR3⟩
                    case measure => simp [intOf]; omega
                  · have hv0 : (m a kk && m kk b) = false := by simpa using hv
                    have hR3 := hide (hR.to (fwP_not m kk n a b hv0))
                    cases hv1 : m a kk
                    · rw [hv1] at e1
                      clear hR hv hv0 e2 hv1
                      go_wp2
                      go_roundw
                      case rel => exact ⟨b + 1, by omega, by go_num, unhide hR3⟩
                      case measure => simp [intOf]; omega
                    · have hv2 : m kk b = false := by rw [hv1] at hv0; simpa using hv0
                      rw [hv1] at e1
                      rw [hv2] at e2
                      clear hR hv hv0 hv1 hv2
                      go_wp2
                      go_roundw
                      case rel => exact ⟨b + 1, by omega, by go_num, unhide hR3⟩
                      case measure => simp [intOf]; omega
                · have hbe : b = n := by omega
                  have hR3 := hide (hR.to (show fwP m kk n a b = fwP m kk n (a + 1) 0 by rw [hbe]; exact fwP_row m kk n a))
                  clear hR hbe
                  go_wp2
                  go_roundw
                  case rel => exact ⟨a + 1, by omega, by go_num, unhide hR3⟩
                  case measure => simp [intOf]; omega
            · have hae : a = n := by omega
              have hR3 := hide (hR.to (show fwP m kk n a 0 = fwP m kk n n 0 by rw [hae]))
              have hG3 : Hid (GridIs es n (kk + 1) (fwP m kk n n 0)) := hide (grid_round (unhide hG))
              clear hR
              go_wp2
              go_roundw
              case rel => exact ⟨kk + 1, _, by omega, by go_num, unhide hR3, hG3⟩
              case measure => simp [intOf]; omega
        · have hke : kk = n := by omega
          have hG3 : Hid (GridIs es n n m) := by rw [hke] at hG; exact hG
          have hI : (Try.prog.info? 116).map (·.size) = some (gridC m).size := by rw [gridC_size]; exact infoGrid
          have hT := hR.grid
          have hQ := hR.res
          have hS := hide (setRow_heap wr _ _ (gridC m) _ _ hQ)
          have hB2 : Hid (Below w.heap.size w (wr.setRow (w.heap.size + 1) (gridC m))) := hide (hR.below.trans ⟨rfl, rfl, rfl, by simp [World.setRow], fun k hk => setRow_other wr _ k (gridC m) (by omega)⟩)
          clear hR hke hG
          go_wp2_with (first | (refine wpList_load_row rfl 116 _ rfl (w.heap.size + 1 + 1) rfl 116 (gridC m) (0, 0) _ hT Try.underlying116 rfl hI ?_) | (refine wpList_store_row rfl 116 _ _ rfl (w.heap.size + 1) (gridC m) rfl rfl 116 _ hQ hI (by rw [gridC_size, gridC_size]) (gridC_one m) ?_))
          refine bodyPost_ret (v := .agg (gridC m)) (results_cell_row Try.results102 _ _ (w.heap.size + 1) 116 (gridC m) (0, 0) _ rfl (unhide hS) Try.underlying116 rfl hI) rfl ⟨m, rfl, unhide hG3, unhide hB2⟩
end Go.Proofs.Ytnpfboligmnhpaa
