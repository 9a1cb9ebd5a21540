/- A square of twelve by twelve truths, as the cells of an array; what is reached, put together by ways through lesser tasks. Nothing here speaks of the program. -/
import Derived.Test.YtodlnhmlhpadbaaS2
import Derived.Test.YtodlnhmlhpadbaaEdgeHelp
namespace Go.Proofs.Ytodlnhmlhpadbaa
open Go.RowKit
set_option linter.unusedVariables false

/-- The cells of a square. -/
def gridC (m : Nat → Nat → Bool) : Array Value := Array.ofFn (n := 144) fun i => .bool (m (i.val / 12) (i.val % 12))
theorem gridC_size (m : Nat → Nat → Bool) : (gridC m).size = 144 := by simp [gridC]
theorem gridC_get (m : Nat → Nat → Bool) (a b : Nat) (ha : a < 12) (hb : b < 12) : (gridC m)[a * 12 + b]? = some (.bool (m a b)) := by
  have h1 : a * 12 + b < 144 := by omega
  have h2 : (a * 12 + b) / 12 = a := by omega
  have h3 : (a * 12 + b) % 12 = b := by omega
  rw [gridC, Array.getElem?_ofFn]
  simp [h1, h2, h3]
theorem gridC_set (m : Nat → Nat → Bool) (a b : Nat) (ha : a < 12) (hb : b < 12) : (gridC m).setIfInBounds (a * 12 + b) (.bool true) = gridC (fun x y => m x y || (x == a && y == b)) := by
  apply Array.ext
  · simp [gridC]
  · intro i h1 h2
    have hi : i < 144 := by simpa [gridC] using h2
    rw [Array.getElem_setIfInBounds (by rw [gridC_size]; exact hi)]
    simp only [gridC, Array.getElem_ofFn]
    by_cases e : a * 12 + b = i
    · have h2 : i / 12 = a := by omega
      have h3 : i % 12 = b := by omega
      rw [if_pos e]
      simp [h2, h3]
    · rw [if_neg e]
      have : (i / 12 == a && i % 12 == b) = false := by
        cases h : (i / 12 == a && i % 12 == b)
        · rfl
        · simp at h; omega
      rw [this]
      simp
theorem gridC_one (m : Nat → Nat → Bool) : (gridC m).all (·.oneCell') = true := by
  rw [Array.all_eq_true]
  intro i hi
  simp [gridC, Value.oneCell']
/-- What is known when the ways through task k are put together of the tasks ahead of a, and of a's own up to b. -/
def fwP (m : Nat → Nat → Bool) (k n a b : Nat) : Nat → Nat → Bool := fun x y => m x y || (m x k && m k y && ((decide (x < a) && decide (y < n)) || (x == a && decide (y < b))))
theorem fwP_zero (m : Nat → Nat → Bool) (k n : Nat) : fwP m k n 0 0 = m := by
  funext x y
  simp [fwP]
theorem fwP_row (m : Nat → Nat → Bool) (k n a : Nat) : fwP m k n a n = fwP m k n (a + 1) 0 := by
  funext x y
  unfold fwP
  have : ((decide (x < a) && decide (y < n)) || (x == a && decide (y < n))) = ((decide (x < a + 1) && decide (y < n)) || (x == a + 1 && decide (y < 0))) := by
    rw [Bool.eq_iff_iff]
    simp
    omega
  rw [this]
theorem fwP_from (m : Nat → Nat → Bool) (k n a b x : Nat) : fwP m k n a b x k = m x k := by
  unfold fwP
  cases m x k <;> simp
theorem fwP_to (m : Nat → Nat → Bool) (k n a b y : Nat) : fwP m k n a b k y = m k y := by
  unfold fwP
  cases m k y <;> simp
theorem fwP_set (m : Nat → Nat → Bool) (k n a b : Nat) (h : (m a k && m k b) = true) : (fun x y => fwP m k n a b x y || (x == a && y == b)) = fwP m k n a (b + 1) := by
  funext x y
  unfold fwP
  simp at h
  by_cases hx : x = a
  · subst hx
    by_cases hy : y = b
    · subst hy
      simp [h.1, h.2]
    · have h1 : (y == b) = false := by simp [hy]
      have h2 : decide (y < b + 1) = decide (y < b) := by rw [Bool.eq_iff_iff]; simp; omega
      simp [h1, h2]
  · have h1 : (x == a) = false := by simp [hx]
    simp [h1]
theorem fwP_not (m : Nat → Nat → Bool) (k n a b : Nat) (h : (m a k && m k b) = false) : fwP m k n a b = fwP m k n a (b + 1) := by
  funext x y
  unfold fwP
  by_cases hx : x = a
  · subst hx
    by_cases hy : y = b
    · subst hy
      rw [h]; simp
    · have h2 : decide (y < b + 1) = decide (y < b) := by rw [Bool.eq_iff_iff]; simp; omega
      simp [h2]
  · have h1 : (x == a) = false := by simp [hx]
    simp [h1]
/-- The square holds the edges, what it holds is reached, and it is closed by ways through tasks ahead of k. -/
structure GridIs (es : List EdgeL) (n : Nat) (k : Nat) (m : Nat → Nat → Bool) : Prop where
  within : ∀ x y, m x y = true → x < n ∧ y < n
  sound : ∀ x y, m x y = true → Reach es (x : Int) (y : Int)
  edge : ∀ (x y : Nat), (∃ e ∈ es, e.fr = (x : Int) ∧ e.dst = (y : Int)) → m x y = true
  closed : ∀ t, t < k → ∀ a c, m a t = true → m t c = true → m a c = true
theorem grid_round {es : List EdgeL} {n k : Nat} {m : Nat → Nat → Bool} (h : GridIs es n k m) : GridIs es n (k + 1) (fwP m k n n 0) := by
  have hp : ∀ x y, fwP m k n n 0 x y = true ↔ (m x y = true ∨ (m x k = true ∧ m k y = true)) := fun x y => by
    unfold fwP
    simp only [Bool.or_eq_true, Bool.and_eq_true, decide_eq_true_eq]
    constructor
    · rintro (h1 | ⟨⟨h1, h2⟩, _⟩)
      · exact .inl h1
      · exact .inr ⟨h1, h2⟩
    · rintro (h1 | ⟨h1, h2⟩)
      · exact .inl h1
      · exact .inr ⟨⟨h1, h2⟩, .inl ⟨(h.within _ _ h1).1, (h.within _ _ h2).2⟩⟩
  refine ⟨fun x y hxy => ?_, fun x y hxy => ?_, fun x y hxy => (hp x y).2 (.inl (h.edge x y hxy)), fun t ht a c h1 h2 => ?_⟩
  · rcases (hp x y).1 hxy with h1 | ⟨h1, h2⟩
    · exact h.within _ _ h1
    · exact ⟨(h.within _ _ h1).1, (h.within _ _ h2).2⟩
  · rcases (hp x y).1 hxy with h1 | ⟨h1, h2⟩
    · exact h.sound _ _ h1
    · exact reach_trans (h.sound _ _ h1) (h.sound _ _ h2)
  · refine (hp a c).2 ?_
    rcases Nat.lt_or_ge t k with htk | htk
    · rcases (hp a t).1 h1 with h1 | ⟨h1, h3⟩ <;> rcases (hp t c).1 h2 with h2 | ⟨h2, h4⟩
      · exact .inl (h.closed t htk a c h1 h2)
      · exact .inr ⟨h.closed t htk a k h1 h2, h4⟩
      · exact .inr ⟨h1, h.closed t htk k c h3 h2⟩
      · exact .inr ⟨h1, h4⟩
    · have : t = k := by omega
      subst this
      have ha : m a t = true := by rcases (hp a t).1 h1 with h | ⟨h, _⟩ <;> exact h
      have hc : m t c = true := by rcases (hp t c).1 h2 with h | ⟨_, h⟩ <;> exact h
      exact .inr ⟨ha, hc⟩
theorem grid_reach {es : List EdgeL} {n : Nat} {m : Nat → Nat → Bool} (h : GridIs es n n m) (hin : ∀ e ∈ es, edgeIn n e) {a b : Nat} (ha : a < n) (hb : b < n) : m a b = true ↔ Reach es (a : Int) (b : Int) := by
  refine ⟨h.sound a b, fun hr => ?_⟩
  have := reach_closed (es := es) (a := (a : Int)) (P := fun z => ∃ t : Nat, z = (t : Int) ∧ m a t = true) (fun e he hf => ?_) (fun e he hP => ?_) hr
  · obtain ⟨t, h1, h2⟩ := this
    have : t = b := by omega
    exact this ▸ h2
  · obtain ⟨h1, h2, h3, h4⟩ := hin e he
    exact ⟨e.dst.toNat, by omega, h.edge _ _ ⟨e, he, hf, by omega⟩⟩
  · obtain ⟨h1, h2, h3, h4⟩ := hin e he
    obtain ⟨t, h5, h6⟩ := hP
    refine ⟨e.dst.toNat, by omega, h.closed t (by omega) a e.dst.toNat h6 (h.edge _ _ ⟨e, he, h5, by omega⟩)⟩
/-- The square of the edges alone. -/
def edgesG (es : List EdgeL) : Nat → Nat → Bool := fun x y => es.any fun e => e.fr == (x : Int) && e.dst == (y : Int)
theorem edgesG_nil : edgesG [] = fun _ _ => false := rfl
theorem edgesG_snoc (es : List EdgeL) (e : EdgeL) (a b : Nat) (ha : e.fr = (a : Int)) (hb : e.dst = (b : Int)) : edgesG (es ++ [e]) = fun x y => edgesG es x y || (x == a && y == b) := by
  funext x y
  unfold edgesG
  rw [List.any_append]
  congr 1
  simp only [List.any_cons, List.any_nil, Bool.or_false]
  rw [ha, hb, Bool.eq_iff_iff]
  simp
  omega
theorem grid_edges {es : List EdgeL} {n : Nat} (hin : ∀ e ∈ es, edgeIn n e) : GridIs es n 0 (edgesG es) := by
  have he : ∀ x y, edgesG es x y = true ↔ ∃ e ∈ es, e.fr = (x : Int) ∧ e.dst = (y : Int) := fun x y => by
    unfold edgesG
    simp [List.any_eq_true]
  refine ⟨fun x y h => ?_, fun x y h => ?_, fun x y h => (he x y).2 h, fun t ht => by omega⟩
  · obtain ⟨e, h1, h2, h3⟩ := (he x y).1 h
    obtain ⟨i1, i2, i3, i4⟩ := hin e h1
    omega
  · obtain ⟨e, h1, h2, h3⟩ := (he x y).1 h
    have := reach_one h1
    rwa [h2, h3] at this
end Go.Proofs.Ytodlnhmlhpadbaa

/- The walk of the program's reachedOf: who is reached, in a square that is filled by ways through one task behind the other. -/
namespace Go.Proofs.Ytodlnhmlhpadbaa
open Go.RowKit
set_option linter.unusedVariables false
set_option linter.unusedSimpArgs false
attribute [local go_sem ↓] Go.wp_at_zero Go.wp_at_succ

theorem infoGrid : (Try.prog.info? 144).map (·.size) = some 144 := by kernel_rfl
theorem zeroGrid (w : World) : (zeroValue 144).run Try.prog w = .ok (.agg (gridC fun _ _ => false)) w := by kernel_rfl
/-- The plan, the result and the square lie behind one another; the square holds m. -/
structure RV (w wr : World) (pc : Array Value) (m : Nat → Nat → Bool) : Prop where
  plan : wr.heap[w.heap.size]? = some (.cells pc 62 (0, 0))
  res : wr.heap[w.heap.size + 1]? = some (.cells (gridC fun _ _ => false) 144 (0, 0))
  grid : wr.heap[w.heap.size + 1 + 1]? = some (.cells (gridC m) 144 (0, 0))
  below : Below w.heap.size w wr
theorem RV.alloc {w wr : World} {pc : Array Value} {m : Nat → Nat → Bool} (h : RV w wr pc m) (o : Obj) : RV w (wr.alloc o) pc m := by
  have hs := (Array.getElem?_eq_some_iff.1 h.grid).1
  exact ⟨by rw [Below.heap_alloc _ _ _ (by omega)]; exact h.plan, by rw [Below.heap_alloc _ _ _ (by omega)]; exact h.res, by rw [Below.heap_alloc _ _ _ (by omega)]; exact h.grid, h.below.alloc h.below.size _⟩
theorem RV.drew {w wr : World} {pc : Array Value} {m : Nat → Nat → Bool} (h : RV w wr pc m) : RV w wr.drew pc m := ⟨h.plan, h.res, h.grid, h.below.drew⟩
theorem RV.cell {w wr : World} {pc : Array Value} {m : Nat → Nat → Bool} (h : RV w wr pc m) (a b : Nat) (ha : a < 12) (hb : b < 12) : wr.cell? ⟨w.heap.size + 1 + 1, a * 12 + b, none⟩ = some (.bool (m a b)) := by
  rw [cell_of_row wr _ _ _ _ _ h.grid, gridC_get m a b ha hb]
theorem RV.soft {w wr : World} {pc : Array Value} {m : Nat → Nat → Bool} (h : RV w wr pc m) (o : Nat) : wr.frozen? ⟨w.heap.size + 1 + 1, o, none⟩ = false := by simp [World.frozen?, h.grid]
theorem RV.set {w wr : World} {pc : Array Value} {m : Nat → Nat → Bool} (h : RV w wr pc m) (a b : Nat) (ha : a < 12) (hb : b < 12) : RV w (wr.setCell ⟨w.heap.size + 1 + 1, a * 12 + b, none⟩ (.bool true)) pc (fun x y => m x y || (x == a && y == b)) := by
  have hg := grown_setP wr ⟨w.heap.size + 1 + 1, a * 12 + b, none⟩ (.bool true)
  have hs := (Array.getElem?_eq_some_iff.1 h.grid).1
  refine ⟨by rw [hg.block _ (by omega) (by simp; omega)]; exact h.plan, by rw [hg.block _ (by omega) (by simp)]; exact h.res, ?_, h.below.setCell (p := ⟨w.heap.size + 1 + 1, a * 12 + b, none⟩) (by simp; omega) _⟩
  rw [heap_setCell_same wr _ _ _ _ _ h.grid, gridC_set m a b ha hb]
theorem RV.to {w wr : World} {pc : Array Value} {m m' : Nat → Nat → Bool} (h : RV w wr pc m) (e : m = m') : RV w wr pc m' := e ▸ h
set_option maxRecDepth 100000 in
set_option maxHeartbeats 3200000 in
theorem implReached_any (va : Value) (ba n : Nat) (p : PlanL) (w : World) (hA : w.ownsRow ba 111 2 va p.edges.length (edgesC p.edges)) (hl : p.edges.length ≤ 2000000) (hn : p.tasks = (n : Int)) (h12 : n ≤ 12) (hin : ∀ e ∈ p.edges, edgeIn n e) :
    Calls Try.prog 117 #[planV p va] w fun e w' => ∃ m, e = .returned (.agg (gridC m)) ∧ GridIs p.edges n n m ∧ Below w.heap.size w w' := by
  obtain ⟨p1, p2, p3, p4, es⟩ := p
  unfold planV
  simp only at hA hl hn hin ⊢
  subst hn
  obtain ⟨aa, ca, rfl, sga⟩ := ownsRow_shape hA
  have HIN := hide hin
  clear hin
  have hz := zeroGrid
  go_enter Try.func117, Try.ntmps117
  go_wp2
  clear hz
  obtain ⟨pc, hpc⟩ : ∃ pc : Array Value, pc = #[.int .i64 p1, .int .i64 p2, .int .i64 p3, .int .i64 (n : Int), .slice aa es.length ca] := ⟨_, rfl⟩
  obtain ⟨W, hW⟩ : ∃ W, W = ((w.alloc (Obj.cells #[.int .i64 p1, .int .i64 p2, .int .i64 p3, .int .i64 (n : Int), .slice aa es.length ca] 62)).alloc (Obj.cells (gridC fun _ _ => false) 144)).alloc (Obj.cells (gridC fun _ _ => false) 144) := ⟨_, rfl⟩
  have hR0 : RV w W pc (fun _ _ => false) := by
    rw [hW, hpc]
    refine ⟨?_, ?_, alloc_atP _ _ _ (by simp), (((Below.refl _ _).alloc (Nat.le_refl _) _).alloc (by simp) _).alloc (by simp; omega) _⟩
    · rw [Below.heap_alloc _ _ _ (by simp; omega), Below.heap_alloc _ _ _ (by simp)]; exact heap_alloc_new _ _
    · rw [Below.heap_alloc _ _ _ (by simp)]; exact alloc_atP _ _ _ (by simp)
  rw [← hW]
  clear hW
  have hT : ∀ (wr : World) (m : Nat → Nat → Bool), RV w wr pc m → wr.cell? ⟨w.heap.size, 3, none⟩ = some (.int .i64 (n : Int)) := fun wr m h => by
    rw [cell_of_row wr _ 3 _ _ _ h.plan, hpc]; rfl
  have HT := hide hT
  clear hT hpc
  go_loopw [12] (fun i wr => ∃ k : Nat, k ≤ es.length ∧ i = .int .i64 k ∧ RV w wr pc (edgesG (es.take k)))
    (fun i _ => es.length - (intOf i).toNat)
  case atStart => exact ⟨0, Nat.zero_le _, rfl, by simpa [edgesG_nil] using hR0⟩
  case round =>
    obtain ⟨k, hk, rfl, hR⟩ := hrel
    by_cases hlt : k < es.length
    · obtain ⟨ga, rfl⟩ := sga (by omega)
      have hk0 : (0 : Int) ≤ (k : Int) := Int.natCast_nonneg _
      have hk1 : (k : Int) < (es.length : Int) := by omega
      obtain ⟨c1, c2⟩ := edgesC_cell (ownsRow_below hA hR.below) hlt
      have HS := hide (List.take_succ_eq_append_getElem hlt)
      obtain ⟨i1, i2, i3, i4⟩ := unhide HIN es[k] (List.getElem_mem hlt)
      generalize es[k] = q at c1 c2 HS i1 i2 i3 i4
      obtain ⟨qa, qb⟩ := q
      simp only at c1 c2 i1 i2 i3 i4
      obtain ⟨a, rfl⟩ : ∃ a : Nat, qa = (a : Int) := ⟨qa.toNat, by omega⟩
      obtain ⟨b, rfl⟩ : ∃ b : Nat, qb = (b : Int) := ⟨qb.toNat, by omega⟩
      have ha12 : (a : Int) < 12 := by omega
      have hb12 : (b : Int) < 12 := by omega
      have hR2 := hR.alloc (Obj.cells #[.int .i64 (a : Int), .int .i64 (b : Int)] 111)
      have c3 := hR2.cell a b (by omega) (by omega)
      have f3 := hR2.soft (a * 12 + b)
      have hR3 := hide ((hR2.drew.set a b (by omega) (by omega)).to (edgesG_snoc (es.take k) ⟨(a : Int), (b : Int)⟩ a b rfl rfl).symm)
      rw [← unhide HS] at hR3
      have d1 : (wr.alloc (Obj.cells #[.int .i64 (a : Int), .int .i64 (b : Int)] 111)).cell? ⟨wr.heap.size, 0, none⟩ = some (.int .i64 (a : Int)) := by rw [cell_of_row _ _ 0 _ _ _ (heap_alloc_new _ _)]; rfl
      have d2 : (wr.alloc (Obj.cells #[.int .i64 (a : Int), .int .i64 (b : Int)] 111)).cell? ⟨wr.heap.size, 1, none⟩ = some (.int .i64 (b : Int)) := by rw [cell_of_row _ _ 1 _ _ _ (heap_alloc_new _ _)]; rfl
      have hne : w.heap.size + 1 + 1 ≠ wr.heap.size := by have := (Array.getElem?_eq_some_iff.1 hR.grid).1; omega
      have hz0 : (0 : Int) ≤ (a : Int) := Int.natCast_nonneg _
      have hz1 : (0 : Int) ≤ (b : Int) := Int.natCast_nonneg _
      clear hR hA sga hR2
      go_wp2_with fail
      generalize wr.alloc (Obj.cells #[Value.int IntKind.i64 (a : Int), Value.int IntKind.i64 (b : Int)] 111) = V at c3 f3 hR3 d1 d2 ⊢
      generalize wr.heap.size = g at d1 d2 hne ⊢
      go_region_held3 (fun w' => w'.cell? ⟨g, 0, none⟩ = some (.int .i64 (a : Int)) ∧ w'.cell? ⟨g, 1, none⟩ = some (.int .i64 (b : Int))) (go_keep) (fail)
      clear d1 d2 c3 f3
      go_wp2
      go_roundw
      case rel => exact ⟨k + 1, by omega, by go_num, unhide hR3⟩
      case measure => simp [intOf]; omega
    · have hke : es.take k = es := List.take_of_length_le (by omega)
      rw [hke] at hR
      clear hke sga hA hR0 W
      have hG := hide (grid_edges (unhide HIN))
      have c3 := unhide HT _ _ hR
      go_wp2
      go_loopw [25] (fun i wr => ∃ (k : Nat) (m : Nat → Nat → Bool), k ≤ n ∧ i = .int .i64 k ∧ RV w wr pc m ∧ Hid (GridIs es n k m))
        (fun i _ => n - (intOf i).toNat)
      case atStart => exact ⟨0, _, Nat.zero_le _, rfl, hR, hG⟩
      case round =>
        clear hR hG c3
        obtain ⟨kk, m, hkk, rfl, hR, hG⟩ := hrel
        by_cases hlk : kk < n
        · have c3 := unhide HT _ _ hR
          have hq0 : (0 : Int) ≤ (kk : Int) := Int.natCast_nonneg _
          have hq1 : (kk : Int) < (n : Int) := by omega
          go_wp2
          go_loopw [30] (fun i wr => ∃ a : Nat, a ≤ n ∧ i = .int .i64 a ∧ RV w wr pc (fwP m kk n a 0))
            (fun i _ => n - (intOf i).toNat)
          case atStart => exact ⟨0, Nat.zero_le _, rfl, hR.to (fwP_zero m kk n).symm⟩
          case round =>
            clear hR c3
            obtain ⟨a, ha, rfl, hR⟩ := hrel
            by_cases hla : a < n
            · have c3 := unhide HT _ _ hR
              have ha0 : (0 : Int) ≤ (a : Int) := Int.natCast_nonneg _
              have ha1 : (a : Int) < (n : Int) := by omega
              go_wp2
              go_loopw [35] (fun i wr => ∃ b : Nat, b ≤ n ∧ i = .int .i64 b ∧ RV w wr pc (fwP m kk n a b))
                (fun i _ => n - (intOf i).toNat)
              case atStart => exact ⟨0, Nat.zero_le _, rfl, hR⟩
              case round =>
                clear hR c3
                obtain ⟨b, hb, rfl, hR⟩ := hrel
                by_cases hlb : b < n
                · have hb0 : (0 : Int) ≤ (b : Int) := Int.natCast_nonneg _
                  have hb1 : (b : Int) < (n : Int) := by omega
                  have a12 : (a : Int) < 12 := by omega
                  have b12 : (b : Int) < 12 := by omega
                  have k12 : (kk : Int) < 12 := by omega
                  have e1 := hR.cell a kk (by omega) (by omega)
                  have e2 := hR.cell kk b (by omega) (by omega)
                  rw [fwP_from] at e1
                  rw [fwP_to] at e2
                  by_cases hv : (m a kk && m kk b) = true
                  · have hv1 : m a kk = true := by simp at hv; exact hv.1
                    have hv2 : m kk b = true := by simp at hv; exact hv.2
                    rw [hv1] at e1
                    rw [hv2] at e2
                    have e3 := hR.cell a b (by omega) (by omega)
                    have f3 := hR.soft (a * 12 + b)
                    have hR3 := hide ((hR.set a b (by omega) (by omega)).to (fwP_set m kk n a b hv))
                    clear hR hv hv1 hv2
                    generalize fwP m kk n a b a b = v3 at e3
                    go_wp2
                    go_roundw
                    case rel => exact ⟨b + 1, by omega, by go_num, unhide hR3⟩
                    case measure => simp [intOf]; omega
                  · have hv0 : (m a kk && m kk b) = false := by simpa using hv
                    have hR3 := hide (hR.to (fwP_not m kk n a b hv0))
                    cases hv1 : m a kk
                    · rw [hv1] at e1
                      clear hR hv hv0 e2 hv1
                      go_wp2
                      go_roundw
                      case rel => exact ⟨b + 1, by omega, by go_num, unhide hR3⟩
                      case measure => simp [intOf]; omega
                    · have hv2 : m kk b = false := by rw [hv1] at hv0; simpa using hv0
                      rw [hv1] at e1
                      rw [hv2] at e2
                      clear hR hv hv0 hv1 hv2
                      go_wp2
                      go_roundw
                      case rel => exact ⟨b + 1, by omega, by go_num, unhide hR3⟩
                      case measure => simp [intOf]; omega
                · have hbe : b = n := by omega
                  have hR3 := hide (hR.to (show fwP m kk n a b = fwP m kk n (a + 1) 0 by rw [hbe]; exact fwP_row m kk n a))
                  clear hR hbe
                  go_wp2
                  go_roundw
                  case rel => exact ⟨a + 1, by omega, by go_num, unhide hR3⟩
                  case measure => simp [intOf]; omega
            · have hae : a = n := by omega
              have hR3 := hide (hR.to (show fwP m kk n a 0 = fwP m kk n n 0 by rw [hae]))
              have hG3 : Hid (GridIs es n (kk + 1) (fwP m kk n n 0)) := hide (grid_round (unhide hG))
              clear hR
              go_wp2
              go_roundw
              case rel => exact ⟨kk + 1, _, by omega, by go_num, unhide hR3, hG3⟩
              case measure => simp [intOf]; omega
        · have hke : kk = n := by omega
          have hG3 : Hid (GridIs es n n m) := by rw [hke] at hG; exact hG
          have hI : (Try.prog.info? 144).map (·.size) = some (gridC m).size := by rw [gridC_size]; exact infoGrid
          have hT := hR.grid
          have hQ := hR.res
          have hS := hide (setRow_heap wr _ _ (gridC m) _ _ hQ)
          have hB2 : Hid (Below w.heap.size w (wr.setRow (w.heap.size + 1) (gridC m))) := hide (hR.below.trans ⟨rfl, rfl, rfl, by simp [World.setRow], fun k hk => setRow_other wr _ k (gridC m) (by omega)⟩)
          clear hR hke hG
          go_wp2_with (first | (refine wpList_load_row rfl 144 _ rfl (w.heap.size + 1 + 1) rfl 144 (gridC m) (0, 0) _ hT Try.underlying144 rfl hI ?_) | (refine wpList_store_row rfl 144 _ _ rfl (w.heap.size + 1) (gridC m) rfl rfl 144 _ hQ hI (by rw [gridC_size, gridC_size]) (gridC_one m) ?_))
          refine bodyPost_ret (v := .agg (gridC m)) (results_cell_row Try.results117 _ _ (w.heap.size + 1) 144 (gridC m) (0, 0) _ rfl (unhide hS) Try.underlying144 rfl hI) rfl ⟨m, rfl, unhide hG3, unhide hB2⟩
end Go.Proofs.Ytodlnhmlhpadbaa

/- The walks of the program's isWithin, withinLimits, hasTask, hasStrayEdge and hasCycle. -/
namespace Go.Proofs.Ytodlnhmlhpadbaa
open Go.RowKit
set_option linter.unusedVariables false
set_option linter.unusedSimpArgs false
attribute [local go_sem ↓] Go.wp_at_zero Go.wp_at_succ

set_option maxHeartbeats 400000 in
theorem wi_yes (n lo hi : Int) (w : World) (h0 : lo ≤ n) (h1 : n ≤ hi) : Calls Try.prog 56 #[.int .i64 n, .int .i64 lo, .int .i64 hi] w fun e w' => e = .returned (.bool true) ∧ w' = w := by
  go_enter Try.func56, Try.ntmps56
  go_wp2
  go_ret
  exact ⟨rfl, rfl⟩
set_option maxHeartbeats 400000 in
theorem wi_low (n lo hi : Int) (w : World) (h0 : n < lo) : Calls Try.prog 56 #[.int .i64 n, .int .i64 lo, .int .i64 hi] w fun e w' => e = .returned (.bool false) ∧ w' = w := by
  have hd : decide (lo ≤ n) = false := by simp; omega
  go_enter Try.func56, Try.ntmps56
  go_wp2
  go_ret
  exact ⟨rfl, rfl⟩
set_option maxHeartbeats 400000 in
theorem wi_high (n lo hi : Int) (w : World) (h0 : lo ≤ n) (h1 : hi < n) : Calls Try.prog 56 #[.int .i64 n, .int .i64 lo, .int .i64 hi] w fun e w' => e = .returned (.bool false) ∧ w' = w := by
  have hd : decide (n ≤ hi) = false := by simp; omega
  go_enter Try.func56, Try.ntmps56
  go_wp2
  go_ret
  exact ⟨rfl, rfl⟩
theorem wi_no (n lo hi : Int) (w : World) (h : ¬ (lo ≤ n ∧ n ≤ hi)) : Calls Try.prog 56 #[.int .i64 n, .int .i64 lo, .int .i64 hi] w fun e w' => e = .returned (.bool false) ∧ w' = w := by
  by_cases h1 : lo ≤ n
  · exact wi_high n lo hi w h1 (by omega)
  · exact wi_low n lo hi w (by omega)
set_option maxRecDepth 100000 in
set_option maxHeartbeats 1600000 in
theorem implLim_yes (va : Value) (ba : Nat) (p : PlanL) (w : World) (hA : w.ownsRow ba 111 2 va p.edges.length (edgesC p.edges)) (h : manyOk p) :
    Calls Try.prog 105 #[planV p va] w fun e w' => e = .returned (.bool true) ∧ Below w.heap.size w w' := by
  obtain ⟨aa, ca, rfl, -⟩ := ownsRow_shape hA
  clear hA
  obtain ⟨p1, p2, p3, p4, es⟩ := p
  obtain ⟨h0a, h0b, h1, h2a, h2b, h3a, h3b, h4a, h4b⟩ := h
  unfold planV
  simp only at h0a h0b h1 h2a h2b h3a h3b h4a h4b ⊢
  have h1' : decide ((es.length : Int) ≤ (30 : Int)) = true := by simp; omega
  go_enter Try.func105, Try.ntmps105
  go_wp2_with fail
  refine (wi_yes p4 1 12 _ h0a h0b).mono ?_
  rintro e w1 ⟨rfl, rfl⟩
  go_wp2_with fail
  refine (wi_yes p1 0 9 _ h2a h2b).mono ?_
  rintro e w1 ⟨rfl, rfl⟩
  go_wp2_with fail
  refine (wi_yes p2 1 5 _ h3a h3b).mono ?_
  rintro e w1 ⟨rfl, rfl⟩
  go_wp2_with fail
  refine (wi_yes p3 1 20 _ h4a h4b).mono ?_
  rintro e w1 ⟨rfl, rfl⟩
  go_wp2
  go_ret
  exact ⟨rfl, (Below.refl _ _).alloc (Nat.le_refl _) _⟩
set_option maxRecDepth 100000 in
set_option maxHeartbeats 1600000 in
theorem implLim_no (va : Value) (ba : Nat) (p : PlanL) (w : World) (hA : w.ownsRow ba 111 2 va p.edges.length (edgesC p.edges)) (hl : p.edges.length ≤ 2000000) (h : ¬ manyOk p) :
    Calls Try.prog 105 #[planV p va] w fun e w' => e = .returned (.bool false) ∧ Below w.heap.size w w' := by
  obtain ⟨aa, ca, rfl, -⟩ := ownsRow_shape hA
  clear hA
  obtain ⟨p1, p2, p3, p4, es⟩ := p
  have HN := hide h
  clear h
  unfold planV
  simp only at hl ⊢
  by_cases h0 : 1 ≤ p4 ∧ p4 ≤ 12
  · obtain ⟨h0a, h0b⟩ := h0
    by_cases h1 : es.length ≤ 30
    · have h1' : decide ((es.length : Int) ≤ (30 : Int)) = true := by simp; omega
      by_cases h2 : 0 ≤ p1 ∧ p1 ≤ 9
      · obtain ⟨h2a, h2b⟩ := h2
        by_cases h3 : 1 ≤ p2 ∧ p2 ≤ 5
        · obtain ⟨h3a, h3b⟩ := h3
          by_cases h4 : 1 ≤ p3 ∧ p3 ≤ 20
          · obtain ⟨h4a, h4b⟩ := h4
            exact absurd (show manyOk ⟨p1, p2, p3, p4, es⟩ from ⟨h0a, h0b, h1, h2a, h2b, h3a, h3b, h4a, h4b⟩) (unhide HN)
          · clear HN
            go_enter Try.func105, Try.ntmps105
            go_wp2_with fail
            refine (wi_yes p4 1 12 _ h0a h0b).mono ?_
            rintro e w1 ⟨rfl, rfl⟩
            go_wp2_with fail
            refine (wi_yes p1 0 9 _ h2a h2b).mono ?_
            rintro e w1 ⟨rfl, rfl⟩
            go_wp2_with fail
            refine (wi_yes p2 1 5 _ h3a h3b).mono ?_
            rintro e w1 ⟨rfl, rfl⟩
            go_wp2_with fail
            refine (wi_no p3 1 20 _ h4).mono ?_
            rintro e w1 ⟨rfl, rfl⟩
            go_wp2
            go_ret
            exact ⟨rfl, (Below.refl _ _).alloc (Nat.le_refl _) _⟩
        · clear HN
          go_enter Try.func105, Try.ntmps105
          go_wp2_with fail
          refine (wi_yes p4 1 12 _ h0a h0b).mono ?_
          rintro e w1 ⟨rfl, rfl⟩
          go_wp2_with fail
          refine (wi_yes p1 0 9 _ h2a h2b).mono ?_
          rintro e w1 ⟨rfl, rfl⟩
          go_wp2_with fail
          refine (wi_no p2 1 5 _ h3).mono ?_
          rintro e w1 ⟨rfl, rfl⟩
          go_wp2
          go_ret
          exact ⟨rfl, (Below.refl _ _).alloc (Nat.le_refl _) _⟩
      · clear HN
        go_enter Try.func105, Try.ntmps105
        go_wp2_with fail
        refine (wi_yes p4 1 12 _ h0a h0b).mono ?_
        rintro e w1 ⟨rfl, rfl⟩
        go_wp2_with fail
        refine (wi_no p1 0 9 _ h2).mono ?_
        rintro e w1 ⟨rfl, rfl⟩
        go_wp2
        go_ret
        exact ⟨rfl, (Below.refl _ _).alloc (Nat.le_refl _) _⟩
    · have h1' : decide ((es.length : Int) ≤ (30 : Int)) = false := by simp; omega
      go_enter Try.func105, Try.ntmps105
      go_wp2_with fail
      refine (wi_yes p4 1 12 _ h0a h0b).mono ?_
      rintro e w1 ⟨rfl, rfl⟩
      go_wp2
      go_ret
      exact ⟨rfl, (Below.refl _ _).alloc (Nat.le_refl _) _⟩
  · clear HN
    go_enter Try.func105, Try.ntmps105
    go_wp2_with fail
    refine (wi_no p4 1 12 _ h0).mono ?_
    rintro e w1 ⟨rfl, rfl⟩
    go_wp2
    go_ret
    exact ⟨rfl, (Below.refl _ _).alloc (Nat.le_refl _) _⟩
set_option maxRecDepth 100000 in
set_option maxHeartbeats 1600000 in
theorem implTask_any (va : Value) (n : Nat) (p : PlanL) (a : Int) (w : World) (hn : p.tasks = (n : Int)) (h12 : n ≤ 12) :
    Calls Try.prog 116 #[planV p va, .int .i64 a] w fun e w' => e = .returned (.bool (decide (0 ≤ a ∧ a < (n : Int)))) ∧ Below w.heap.size w w' := by
  obtain ⟨p1, p2, p3, p4, es⟩ := p
  unfold planV
  simp only at hn ⊢
  subst hn
  have hwr : IntKind.i64.wrap ((n : Int) - 1) = (n : Int) - 1 := IntWalk.i64_in _ ⟨by omega, by omega⟩
  by_cases h : 0 ≤ a ∧ a < (n : Int)
  · have C := fun W => hide (wi_yes a 0 ((n : Int) - 1) W h.1 (by omega))
    rw [decide_eq_true h]
    clear h
    go_enter Try.func116, Try.ntmps116
    go_wp2_with fail
    refine (unhide (C _)).mono ?_
    rintro e w1 ⟨rfl, rfl⟩
    go_wp2
    go_ret
    exact ⟨rfl, (Below.refl _ _).alloc (Nat.le_refl _) _⟩
  · have C := fun W => hide (wi_no a 0 ((n : Int) - 1) W (by omega))
    rw [decide_eq_false h]
    clear h
    go_enter Try.func116, Try.ntmps116
    go_wp2_with fail
    refine (unhide (C _)).mono ?_
    rintro e w1 ⟨rfl, rfl⟩
    go_wp2
    go_ret
    exact ⟨rfl, (Below.refl _ _).alloc (Nat.le_refl _) _⟩
end Go.Proofs.Ytodlnhmlhpadbaa
