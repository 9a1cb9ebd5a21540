/- How much there is of shelves, of runs, of a yard that came in: told exactly. -/
import Derived.Test.YtodlnhmlhpadbaaRunsMark
import Derived.Test.YtodlnhmlhpadbaaS14
import Derived.Test.YtodlnhmlhpadbaaS5
namespace Go.Proofs.Ytodlnhmlhpadbaa
open Go.RowKit
set_option linter.unusedVariables false
set_option linter.unusedSimpArgs false
attribute [local go_sem ↓] Go.wp_at_zero Go.wp_at_succ

/-- A list of lists of entries that came in. -/
def shelvesIn (w : World) (B : Nat) (a : Option Addr) (sh : List (List QuadL)) : Prop :=
  ∀ (j : Nat) (hj : j < sh.length), ∃ (b off : Nat) (x : Option Addr) (c : Nat), a = some ⟨b, off, none⟩ ∧ b < B ∧ w.cell? ⟨b, off + j, none⟩ = some (.slice x (sh[j]).length c) ∧ (sh[j]).length ≤ 9223372036854775807 ∧ QuadsIn w B x sh[j]
theorem shelvesIn_below {w w' : World} {B : Nat} {a : Option Addr} {sh : List (List QuadL)} (h : shelvesIn w B a sh) (hb : Below B w w') : shelvesIn w' B a sh := fun j hj => by
  obtain ⟨b, off, x, c, ha, hB, h1, h2, h3⟩ := h j hj
  exact ⟨b, off, x, c, ha, hB, by rw [hb.cell (p := ⟨b, off + j, none⟩) hB]; exact h1, h2, quadsIn_below h3 hb⟩
theorem shelvesIn_on {w w1 : World} {a : Option Addr} {sh : List (List QuadL)} (h : shelvesIn w w.heap.size a sh) (hb : Below w.heap.size w w1) : shelvesIn w1 w1.heap.size a sh := fun j hj => by
  obtain ⟨b, off, x, c, ha, hB, h1, h2, h3⟩ := h j hj
  exact ⟨b, off, x, c, ha, Nat.lt_of_lt_of_le hB hb.size, by rw [hb.cell (p := ⟨b, off + j, none⟩) hB]; exact h1, h2, quadsIn_on h3 hb⟩
theorem runIn_below {w w' : World} {B : Nat} {x y : Option Addr} {r : RunL} (h : RunIn w B x y r) (hb : Below B w w') : RunIn w' B x y r := ⟨edgesIn_below h.edges hb, quadsIn_below h.tasks hb⟩
/-- A list of runs that came in. -/
def runsIn (w : World) (B : Nat) (a : Option Addr) (rs : List RunL) : Prop :=
  ∀ (j : Nat) (hj : j < rs.length), ∃ (b off : Nat) (x : Option Addr) (c : Nat) (y : Option Addr) (d : Nat), a = some ⟨b, off, none⟩ ∧ b < B ∧ (w.cell? ⟨b, off + j * 8, none⟩ = some (.int .i64 (rs[j]).id) ∧ w.cell? ⟨b, off + j * 8 + 1, none⟩ = some (.int .i64 (rs[j]).plan.prio) ∧ w.cell? ⟨b, off + j * 8 + 2, none⟩ = some (.int .i64 (rs[j]).plan.most) ∧ w.cell? ⟨b, off + j * 8 + 3, none⟩ = some (.int .i64 (rs[j]).plan.wait) ∧ w.cell? ⟨b, off + j * 8 + 4, none⟩ = some (.int .i64 (rs[j]).plan.tasks) ∧ w.cell? ⟨b, off + j * 8 + 5, none⟩ = some (.slice x (rs[j]).plan.edges.length c) ∧ w.cell? ⟨b, off + j * 8 + 6, none⟩ = some (.int .i64 (rs[j]).state) ∧ w.cell? ⟨b, off + j * 8 + 7, none⟩ = some (.slice y (rs[j]).tasks.length d)) ∧
    ((rs[j]).plan.edges.length ≤ 9223372036854775807 ∧ (rs[j]).tasks.length ≤ 9223372036854775807) ∧ RunIn w B x y rs[j]
theorem runsIn_below {w w' : World} {B : Nat} {a : Option Addr} {rs : List RunL} (h : runsIn w B a rs) (hb : Below B w w') : runsIn w' B a rs := fun j hj => by
  obtain ⟨b, off, x, c, y, d, ha, hB, ⟨c0, c1, c2, c3, c4, c5, c6, c7⟩, h2, h3⟩ := h j hj
  have k := fun (o : Nat) (v : Value) (hv : w.cell? ⟨b, o, none⟩ = some v) => (hb.cell (p := ⟨b, o, none⟩) hB).trans hv
  exact ⟨b, off, x, c, y, d, ha, hB, ⟨k _ _ c0, k _ _ c1, k _ _ c2, k _ _ c3, k _ _ c4, k _ _ c5, k _ _ c6, k _ _ c7⟩, h2, runIn_below h3 hb⟩
theorem runsIn_on {w w1 : World} {a : Option Addr} {rs : List RunL} (h : runsIn w w.heap.size a rs) (hb : Below w.heap.size w w1) : runsIn w1 w1.heap.size a rs := fun j hj => by
  obtain ⟨b, off, x, c, y, d, ha, hB, ⟨c0, c1, c2, c3, c4, c5, c6, c7⟩, h2, h3⟩ := h j hj
  have k := fun (o : Nat) (v : Value) (hv : w.cell? ⟨b, o, none⟩ = some v) => (hb.cell (p := ⟨b, o, none⟩) hB).trans hv
  exact ⟨b, off, x, c, y, d, ha, Nat.lt_of_lt_of_le hB hb.size, ⟨k _ _ c0, k _ _ c1, k _ _ c2, k _ _ c3, k _ _ c4, k _ _ c5, k _ _ c6, k _ _ c7⟩, h2, runIn_on h3 hb⟩
/-- How many entries there are; how many edges and tasks. -/
def sumE : List (List QuadL) → Nat
  | [] => 0
  | r :: t => r.length + sumE t
def sumT : List RunL → Nat
  | [] => 0
  | r :: t => r.plan.edges.length + r.tasks.length + sumT t
theorem sumE_append (a b : List (List QuadL)) : sumE (a ++ b) = sumE a + sumE b := by
  induction a with
  | nil => simp [sumE]
  | cons x t ih => simp only [List.cons_append, sumE, ih]; omega
theorem sumT_append (a b : List RunL) : sumT (a ++ b) = sumT a + sumT b := by
  induction a with
  | nil => simp [sumT]
  | cons x t ih => simp only [List.cons_append, sumT, ih]; omega
theorem sumE_take_succ (rs : List (List QuadL)) (i : Nat) (h : i < rs.length) : sumE (rs.take (i + 1)) = sumE (rs.take i) + (rs[i]).length := by
  rw [List.take_succ_eq_append_getElem h, sumE_append]; simp [sumE]
theorem sumT_take_succ (rs : List RunL) (i : Nat) (h : i < rs.length) : sumT (rs.take (i + 1)) = sumT (rs.take i) + ((rs[i]).plan.edges.length + (rs[i]).tasks.length) := by
  rw [List.take_succ_eq_append_getElem h, sumT_append]; simp [sumT]
theorem sumQ_E (sh : List (List QuadL)) : sumQ sh = 4 * sumE sh := by
  induction sh with
  | nil => rfl
  | cons r t ih => simp only [sumQ, sumE, ih]; omega
theorem sumR_T (rs : List RunL) : sumR rs ≤ 6 * rs.length + 4 * sumT rs := by
  induction rs with
  | nil => simp [sumR]
  | cons r t ih => simp only [sumR, sumT, sizeRS, List.length_cons]; omega
theorem sumE_mem {sh : List (List QuadL)} {x : List QuadL} (h : x ∈ sh) : x.length ≤ sumE sh := by
  induction sh with
  | nil => cases h
  | cons r t ih =>
    simp only [sumE]
    rcases List.mem_cons.1 h with e | e
    · subst e; omega
    · have := ih e; omega
theorem sumT_mem {rs : List RunL} {x : RunL} (h : x ∈ rs) : x.plan.edges.length + x.tasks.length ≤ sumT rs := by
  induction rs with
  | nil => cases h
  | cons r t ih =>
    simp only [sumT]
    rcases List.mem_cons.1 h with e | e
    · subst e; omega
    · have := ih e; omega
set_option maxRecDepth 100000 in
set_option maxHeartbeats 3200000 in
theorem szEntryS_eq (a : Option Addr) (cap : Nat) (es : List QuadL) (left : Int) (w : World) (h0 : 0 ≤ left) (h1 : left ≤ 1048576) (hn : es.length ≤ 9223372036854775807) :
    Calls Try.prog 68 #[.slice a es.length cap, .int .i64 left] w fun e w' => ∃ r : Int, e = .returned (.int .i64 r) ∧ r ≤ left ∧ (r = -1 ∨ (0 ≤ r ∧ r = left - (es.length : Int))) ∧ Below w.heap.size w w' := by
  by_cases hbig : left - (es.length : Int) < 0
  · go_enter Try.func68, Try.ntmps68
    go_wp2
    go_ret
    exact ⟨_, rfl, by omega, .inl rfl, Below.refl _ _⟩
  · have hbig1 : (0 : Int) ≤ left - (es.length : Int) := by omega
    go_enter Try.func68, Try.ntmps68
    go_wp2
    go_ret
    exact ⟨_, rfl, by omega, .inr ⟨hbig1, rfl⟩, Below.refl _ _⟩
set_option maxRecDepth 100000 in
set_option maxHeartbeats 3200000 in
theorem szTaskS_eq (a : Option Addr) (cap : Nat) (es : List QuadL) (left : Int) (w : World) (h0 : 0 ≤ left) (h1 : left ≤ 1048576) (hn : es.length ≤ 9223372036854775807) :
    Calls Try.prog 84 #[.slice a es.length cap, .int .i64 left] w fun e w' => ∃ r : Int, e = .returned (.int .i64 r) ∧ r ≤ left ∧ (r = -1 ∨ (0 ≤ r ∧ r = left - (es.length : Int))) ∧ Below w.heap.size w w' := by
  by_cases hbig : left - (es.length : Int) < 0
  · go_enter Try.func84, Try.ntmps84
    go_wp2
    go_ret
    exact ⟨_, rfl, by omega, .inl rfl, Below.refl _ _⟩
  · have hbig1 : (0 : Int) ≤ left - (es.length : Int) := by omega
    go_enter Try.func84, Try.ntmps84
    go_wp2
    go_ret
    exact ⟨_, rfl, by omega, .inr ⟨hbig1, rfl⟩, Below.refl _ _⟩
set_option maxRecDepth 100000 in
set_option maxHeartbeats 3200000 in
theorem szPlan_eq (a : Option Addr) (cap : Nat) (p : PlanL) (left : Int) (w : World) (h0 : 0 ≤ left) (h1 : left ≤ 1048576) (hn : p.edges.length ≤ 9223372036854775807) :
    Calls Try.prog 83 #[planV p (.slice a p.edges.length cap), .int .i64 left] w fun e w' => ∃ r : Int, e = .returned (.int .i64 r) ∧ r ≤ left ∧ (r = -1 ∨ (0 ≤ r ∧ r = left - (p.edges.length : Int))) ∧ Below w.heap.size w w' := by
  obtain ⟨p1, p2, p3, p4, es⟩ := p
  unfold planV
  simp only at hn ⊢
  by_cases hbig : left - (es.length : Int) < 0
  · go_enter Try.func83, Try.ntmps83
    go_wp2_with (first | (go_at_call 100; go_in))
    go_ret
    exact ⟨_, rfl, by omega, .inl rfl, (Below.refl _ _).alloc (Nat.le_refl _) _⟩
  · have hbig1 : (0 : Int) ≤ left - (es.length : Int) := by omega
    go_enter Try.func83, Try.ntmps83
    go_wp2_with (first | (go_at_call 100; go_in))
    go_ret
    exact ⟨_, rfl, by omega, .inr ⟨hbig1, rfl⟩, (Below.refl _ _).alloc (Nat.le_refl _) _⟩
set_option maxRecDepth 100000 in
set_option maxHeartbeats 3200000 in
theorem szRun_eq (ae at_ : Option Addr) (ce ct : Nat) (r : RunL) (left : Int) (w : World) (h0 : 0 ≤ left) (h1 : left ≤ 1048576) (hn : r.plan.edges.length ≤ 9223372036854775807) (hm : r.tasks.length ≤ 9223372036854775807) :
    Calls Try.prog 69 #[runV r (.slice ae r.plan.edges.length ce) (.slice at_ r.tasks.length ct), .int .i64 left] w fun e w' => ∃ s : Int, e = .returned (.int .i64 s) ∧ s ≤ left ∧ (s = -1 ∨ (0 ≤ s ∧ s = left - (r.plan.edges.length : Int) - (r.tasks.length : Int))) ∧ Below w.heap.size w w' := by
  obtain ⟨id, p, st, ts⟩ := r
  have C1 := fun W => hide (szPlan_eq ae ce p left W h0 h1 hn)
  have C2 := fun (s : Int) (k0 : 0 ≤ s) (k1 : s ≤ 1048576) W => hide (szTaskS_eq at_ ct ts s W k0 k1 hm)
  obtain ⟨p1, p2, p3, p4, es⟩ := p
  unfold runV runC
  unfold planV at C1
  simp only at hn hm C1 C2 ⊢
  go_enter Try.func69, Try.ntmps69
  go_wp2_with fail
  obtain ⟨W, hW⟩ : ∃ W, W = w.alloc (Obj.cells #[.int .i64 id, .int .i64 p1, .int .i64 p2, .int .i64 p3, .int .i64 p4, .slice ae es.length ce, .int .i64 st, .slice at_ ts.length ct] 97) := ⟨_, rfl⟩
  have hx : W.heap[w.heap.size]? = some (.cells #[.int .i64 id, .int .i64 p1, .int .i64 p2, .int .i64 p3, .int .i64 p4, .slice ae es.length ce, .int .i64 st, .slice at_ ts.length ct] 97 (0, 0)) := by rw [hW]; exact heap_alloc_new _ _
  have hb0 : Below w.heap.size w W := by rw [hW]; exact (Below.refl _ _).alloc (Nat.le_refl _) _
  rw [← hW]
  clear hW
  refine (unhide (C1 _)).mono ?_
  rintro e w1 ⟨s1, rfl, hs1, hc1, hb1⟩
  have c7 := cellIn (i := 7) (heapLater hb1 hx) rfl
  have t1 := hb0.trans (hb1.mono hb0.size)
  clear hx hb1 hb0 C1
  rcases hc1 with rfl | ⟨g0, g1⟩
  · clear c7 C2
    go_wp2
    go_ret
    exact ⟨-1, rfl, by omega, .inl rfl, t1⟩
  · have d0 : decide (s1 < 0) = false := decide_eq_false (by omega)
    have G1 := hide g1
    clear g1
    have C3 := C2 s1 g0 (by omega)
    clear C2
    go_wp2_with fail
    refine (unhide (C3 _)).mono ?_
    rintro e w2 ⟨s2, rfl, hs2, hc2, hb2⟩
    have t2 := t1.trans (hb2.mono t1.size)
    clear hb2 t1 c7 C3
    rcases hc2 with rfl | ⟨k0, k1⟩
    · go_wp2
      go_ret
      exact ⟨-1, rfl, by omega, .inl rfl, t2⟩
    · have d1 : decide (s2 < 0) = false := decide_eq_false (by omega)
      have K1 := hide k1
      clear k1
      go_wp2
      go_ret
      exact ⟨s2, rfl, by omega, .inr ⟨k0, by rw [unhide K1, unhide G1]⟩, t2⟩
set_option maxRecDepth 100000 in
set_option maxHeartbeats 3200000 in
theorem szShelves_any (a : Option Addr) (cap : Nat) (rs : List (List QuadL)) (left : Int) (w : World) (h0 : 0 ≤ left) (h1 : left ≤ 1048576) (hn : rs.length ≤ 9223372036854775807) (hk : left - (rs.length : Int) < 0 ∨ shelvesIn w w.heap.size a rs) :
    Calls Try.prog 43 #[.slice a rs.length cap, .int .i64 left] w fun e w' => ∃ s : Int, e = .returned (.int .i64 s) ∧ s ≤ left ∧ (s = -1 ∨ (0 ≤ s ∧ s = left - (rs.length : Int) - (sumE rs : Int))) ∧ Below w.heap.size w w' := by
  by_cases hbig : left - (rs.length : Int) < 0
  · clear hk
    go_enter Try.func43, Try.ntmps43
    go_wp2
    go_ret
    exact ⟨-1, rfl, by omega, .inl rfl, Below.refl _ _⟩
  · have HK := hide (hk.resolve_left hbig)
    have hb0 : decide (left - (rs.length : Int) < 0) = false := decide_eq_false hbig
    clear hk
    go_enter Try.func43, Try.ntmps43
    go_wp2
    go_loopw [1, 5] (fun q i wr => ∃ (k : Nat) (l : Int), k ≤ rs.length ∧ i = .int .i64 k ∧ q = .int .i64 l ∧ 0 ≤ l ∧ Hid (l = left - (rs.length : Int) - (sumE (rs.take k) : Int)) ∧ Below w.heap.size w wr)
      (fun _ i _ => rs.length - (intOf i).toNat)
    case atStart => exact ⟨0, left - (rs.length : Int), Nat.zero_le _, rfl, rfl, by omega, hide (by simp [sumE]), Below.refl _ _⟩
    case round =>
      obtain ⟨k, l, hk, rfl, rfl, hl0, HL, hb⟩ := hrel
      by_cases hlt : k < rs.length
      · obtain ⟨b, off, x, c, rfl, hB, c1, hln, -⟩ := shelvesIn_below (unhide HK) hb k hlt
        have hk0 : (0 : Int) ≤ (k : Int) := Int.natCast_nonneg _
        have hk1 : (k : Int) < (rs.length : Int) := by omega
        have hll : l ≤ 1048576 := by have := unhide HL; have : (0 : Int) ≤ (sumE (rs.take k) : Int) := Int.natCast_nonneg _; omega
        have SU := hide (sumE_take_succ rs k hlt)
        have SZ := hide (szEntryS_eq x c rs[k] l wr hl0 hll hln)
        generalize rs[k] = r at *
        skip
        go_wp2_with fail
        refine (unhide SZ).mono ?_
        rintro e w1 ⟨s, rfl, hs, hc, hb1⟩
        have R := hide (hb.trans (hb1.mono hb.size))
        clear hb1 hb SZ
        rcases hc with rfl | ⟨g0, g1⟩
        · go_wp2
          go_ret
          exact ⟨-1, rfl, by omega, .inl rfl, unhide R⟩
        · have d1 : decide (s < 0) = false := decide_eq_false (by omega)
          have HS := hide g1
          clear g1 c1
          go_wp2
          go_roundw
          case rel => exact ⟨k + 1, s, by omega, by go_num, rfl, g0, hide (by rw [unhide HS, unhide HL, unhide SU]; omega), unhide R⟩
          case measure => simp [intOf]; omega
      · have hke : rs.take k = rs := List.take_of_length_le (by omega)
        rw [hke] at HL
        clear HK hke
        go_wp2
        go_ret
        exact ⟨l, rfl, by have := unhide HL; have : (0 : Int) ≤ (sumE rs : Int) := Int.natCast_nonneg _; omega, .inr ⟨hl0, unhide HL⟩, hb⟩
set_option maxRecDepth 100000 in
set_option maxHeartbeats 3200000 in
theorem szRuns_any (a : Option Addr) (cap : Nat) (rs : List RunL) (left : Int) (w : World) (h0 : 0 ≤ left) (h1 : left ≤ 1048576) (hn : rs.length ≤ 9223372036854775807) (hk : left - (rs.length : Int) < 0 ∨ runsIn w w.heap.size a rs) :
    Calls Try.prog 44 #[.slice a rs.length cap, .int .i64 left] w fun e w' => ∃ s : Int, e = .returned (.int .i64 s) ∧ s ≤ left ∧ (s = -1 ∨ (0 ≤ s ∧ s = left - (rs.length : Int) - (sumT rs : Int))) ∧ Below w.heap.size w w' := by
  by_cases hbig : left - (rs.length : Int) < 0
  · clear hk
    go_enter Try.func44, Try.ntmps44
    go_wp2
    go_ret
    exact ⟨-1, rfl, by omega, .inl rfl, Below.refl _ _⟩
  · have HK := hide (hk.resolve_left hbig)
    have hb0 : decide (left - (rs.length : Int) < 0) = false := decide_eq_false hbig
    clear hk
    go_enter Try.func44, Try.ntmps44
    go_wp2
    go_loopw [1, 5] (fun q i wr => ∃ (k : Nat) (l : Int), k ≤ rs.length ∧ i = .int .i64 k ∧ q = .int .i64 l ∧ 0 ≤ l ∧ Hid (l = left - (rs.length : Int) - (sumT (rs.take k) : Int)) ∧ Below w.heap.size w wr)
      (fun _ i _ => rs.length - (intOf i).toNat)
    case atStart => exact ⟨0, left - (rs.length : Int), Nat.zero_le _, rfl, rfl, by omega, hide (by simp [sumT]), Below.refl _ _⟩
    case round =>
      obtain ⟨k, l, hk, rfl, rfl, hl0, HL, hb⟩ := hrel
      by_cases hlt : k < rs.length
      · obtain ⟨b, off, x, c, y, d, rfl, hB, ⟨c0, c1, c2, c3, c4, c5, c6, c7⟩, ⟨hln, htn⟩, -⟩ := runsIn_below (unhide HK) hb k hlt
        have hk0 : (0 : Int) ≤ (k : Int) := Int.natCast_nonneg _
        have hk1 : (k : Int) < (rs.length : Int) := by omega
        have hll : l ≤ 1048576 := by have := unhide HL; have : (0 : Int) ≤ (sumT (rs.take k) : Int) := Int.natCast_nonneg _; omega
        have SU := hide (sumT_take_succ rs k hlt)
        have SZ := hide (szRun_eq x y c d rs[k] l wr hl0 hll hln htn)
        generalize rs[k] = r at *
        unfold runV runC at SZ
        go_wp2_with fail
        refine (unhide SZ).mono ?_
        rintro e w1 ⟨s, rfl, hs, hc, hb1⟩
        have R := hide (hb.trans (hb1.mono hb.size))
        clear hb1 hb SZ
        rcases hc with rfl | ⟨g0, g1⟩
        · go_wp2
          go_ret
          exact ⟨-1, rfl, by omega, .inl rfl, unhide R⟩
        · have d1 : decide (s < 0) = false := decide_eq_false (by omega)
          have HS := hide g1
          clear g1 c0 c1 c2 c3 c4 c5 c6 c7
          go_wp2
          go_roundw
          case rel => exact ⟨k + 1, s, by omega, by go_num, rfl, g0, hide (by rw [unhide HS, unhide HL, unhide SU]; omega), unhide R⟩
          case measure => simp [intOf]; omega
      · have hke : rs.take k = rs := List.take_of_length_le (by omega)
        rw [hke] at HL
        clear HK hke
        go_wp2
        go_ret
        exact ⟨l, rfl, by have := unhide HL; have : (0 : Int) ≤ (sumT rs : Int) := Int.natCast_nonneg _; omega, .inr ⟨hl0, unhide HL⟩, hb⟩
end Go.Proofs.Ytodlnhmlhpadbaa

/- The walk of the laws' toRun: a copy of a run that came in, in memory of its own. -/
namespace Go.Proofs.Ytodlnhmlhpadbaa
open Go.RowKit
set_option linter.unusedVariables false
set_option linter.unusedSimpArgs false
attribute [local go_sem ↓] Go.wp_at_zero Go.wp_at_succ

theorem ownsRow_baseS {w : World} {B B' size n : Nat} {e : TypeId} {v : Value} {xs : List Value} (h : w.ownsRow B e size v n xs) (hB : B' ≤ B) : w.ownsRow B' e size v n xs := by
  refine ⟨h.1, ?_⟩
  rcases h.2 with h' | ⟨g, cap, cur, q1, q2, q3⟩
  · exact .inl h'
  · exact .inr ⟨g, cap, cur, q1, by omega, q3⟩
set_option maxRecDepth 100000 in
set_option maxHeartbeats 6400000 in
theorem toRun_any (ae at_ : Option Addr) (ce ct : Nat) (r : RunL) (w : World) (hn : r.plan.edges.length ≤ 1048576) (hm : r.tasks.length ≤ 1048576) (hk : RunIn w w.heap.size ae at_ r) :
    Calls Try.prog 71 #[runV r (.slice ae r.plan.edges.length ce) (.slice at_ r.tasks.length ct)] w fun e w' => ∃ g h, e = .returned (runV r (.slice (some ⟨g, 0, none⟩) r.plan.edges.length r.plan.edges.length) (.slice (some ⟨h, 0, none⟩) r.tasks.length r.tasks.length)) ∧ RunOwn w' w.heap.size (.slice (some ⟨g, 0, none⟩) r.plan.edges.length r.plan.edges.length) (.slice (some ⟨h, 0, none⟩) r.tasks.length r.tasks.length) r ∧ Below w.heap.size w w' := by
  obtain ⟨id, p, st, ts⟩ := r
  obtain ⟨k1, k2⟩ := hk
  simp only at k1 k2 hn hm
  have C1 := fun W (h : EdgesIn W W.heap.size ae p.edges) => hide (toPlan_any ae ce p W hn h)
  have C2 := fun W (h : QuadsIn W W.heap.size at_ ts) => hide (toTaskS_any at_ ct ts W hm h)
  have HK := hide (And.intro k1 k2)
  have RO : Hid (∀ (W : World) (ve vt : Value), W.ownsRow w.heap.size 111 2 ve p.edges.length (edgesC p.edges) → W.ownsRow w.heap.size 74 4 vt ts.length (quadsC ts) → RunOwn W w.heap.size ve vt ⟨id, p, st, ts⟩) := hide (fun W ve vt h1 h2 => ⟨h1, h2⟩)
  clear k1 k2
  obtain ⟨p1, p2, p3, p4, es⟩ := p
  unfold runV runC
  unfold planV at C1
  simp only at C1 C2 hn HK RO ⊢
  go_enter Try.func71, Try.ntmps71
  go_wp2_with fail
  obtain ⟨W, hW⟩ : ∃ W, W = ((w.alloc (Obj.cells #[.int .i64 id, .int .i64 p1, .int .i64 p2, .int .i64 p3, .int .i64 p4, .slice ae es.length ce, .int .i64 st, .slice at_ ts.length ct] 97)).alloc (Obj.cells #[.int .i64 0, .int .i64 0, .int .i64 0, .int .i64 0, .int .i64 0, .slice none 0 0, .int .i64 0, .slice none 0 0] 65)).alloc (Obj.cells #[.int .i64 id, .int .i64 0, .int .i64 0, .int .i64 0, .int .i64 0, .slice none 0 0, .int .i64 0, .slice none 0 0] 65) := ⟨_, rfl⟩
  have hx : W.heap[w.heap.size]? = some (.cells #[.int .i64 id, .int .i64 p1, .int .i64 p2, .int .i64 p3, .int .i64 p4, .slice ae es.length ce, .int .i64 st, .slice at_ ts.length ct] 97 (0, 0)) := by rw [hW, Below.heap_alloc _ _ _ (by simp; omega), Below.heap_alloc _ _ _ (by simp)]; exact heap_alloc_new _ _
  have hr : W.heap[w.heap.size + 1]? = some (.cells #[.int .i64 0, .int .i64 0, .int .i64 0, .int .i64 0, .int .i64 0, .slice none 0 0, .int .i64 0, .slice none 0 0] 65 (0, 0)) := by rw [hW, Below.heap_alloc _ _ _ (by simp)]; exact allocAt _ _ _ (by simp)
  have ho : W.heap[w.heap.size + 1 + 1]? = some (.cells #[.int .i64 id, .int .i64 0, .int .i64 0, .int .i64 0, .int .i64 0, .slice none 0 0, .int .i64 0, .slice none 0 0] 65 (0, 0)) := by rw [hW]; exact allocAt _ _ _ (by simp)
  have hb0 : Below w.heap.size w W := by rw [hW]; exact (((Below.refl _ _).alloc (Nat.le_refl _) _).alloc (by simp) _).alloc (by simp; omega) _
  have hsz : W.heap.size = w.heap.size + 3 := by rw [hW]; simp
  rw [← hW]
  clear hW
  refine (unhide (C1 _ (edgesIn_on (unhide HK).1 hb0))).mono ?_
  rintro e w1 ⟨g, rfl, oe, hb1⟩
  have hx1 := heapLater hb1 hx
  have hr1 := heapLater hb1 hr
  have ho1 := heapLater hb1 ho
  have t1 := hb0.trans (hb1.mono hb0.size)
  have s1 : W.heap.size ≤ w1.heap.size := hb1.size
  clear hx hr ho hb1 C1
  have x6 := cellIn (i := 6) hx1 rfl
  have x7 := cellIn (i := 7) hx1 rfl
  have o0 := cellIn (i := 0) ho1 rfl
  have f0 := softIn (i := 0) ho1
  have o1 := cellIn (i := 1) ho1 rfl
  have f1 := softIn (i := 1) ho1
  have o2 := cellIn (i := 2) ho1 rfl
  have f2 := softIn (i := 2) ho1
  have o3 := cellIn (i := 3) ho1 rfl
  have f3 := softIn (i := 3) ho1
  have o4 := cellIn (i := 4) ho1 rfl
  have f4 := softIn (i := 4) ho1
  have o5 := cellIn (i := 5) ho1 rfl
  have f5 := softIn (i := 5) ho1
  have o6 := cellIn (i := 6) ho1 rfl
  have f6 := softIn (i := 6) ho1
  have o7 := cellIn (i := 7) ho1 rfl
  have f7 := softIn (i := 7) ho1
  obtain ⟨ho2, G2⟩ := setMany_is [(1, .int .i64 p1), (2, .int .i64 p2), (3, .int .i64 p3), (4, .int .i64 p4), (5, .slice (some ⟨g, 0, none⟩) es.length es.length), (6, .int .i64 st)] w1 _ ho1
  have hx2 := heapBut G2 hx1 (by omega)
  have hr2 := heapBut G2 hr1 (by omega)
  have oe2 := rowBut G2 oe (by omega)
  have t2 : Below w.heap.size w (setMany w1 (w.heap.size + 1 + 1) [(1, .int .i64 p1), (2, .int .i64 p2), (3, .int .i64 p3), (4, .int .i64 p4), (5, .slice (some ⟨g, 0, none⟩) es.length es.length), (6, .int .i64 st)]) := t1.grown G2 t1.size (fun j hj => by cases hj; omega)
  have s2 : w1.heap.size ≤ (setMany w1 (w.heap.size + 1 + 1) [(1, .int .i64 p1), (2, .int .i64 p2), (3, .int .i64 p3), (4, .int .i64 p4), (5, .slice (some ⟨g, 0, none⟩) es.length es.length), (6, .int .i64 st)]).heap.size := G2.size
  have ho2' : (setMany w1 (w.heap.size + 1 + 1) [(1, .int .i64 p1), (2, .int .i64 p2), (3, .int .i64 p3), (4, .int .i64 p4), (5, .slice (some ⟨g, 0, none⟩) es.length es.length), (6, .int .i64 st)]).heap[w.heap.size + 1 + 1]? = some (.cells #[.int .i64 id, .int .i64 p1, .int .i64 p2, .int .i64 p3, .int .i64 p4, .slice (some ⟨g, 0, none⟩) es.length es.length, .int .i64 st, .slice none 0 0] 65 (0, 0)) := by rw [ho2]; rfl
  clear hx1 hr1 ho1 oe t1 G2 ho2
  obtain ⟨W2, hW2⟩ : ∃ W2, W2 = setMany w1 (w.heap.size + 1 + 1) [(1, .int .i64 p1), (2, .int .i64 p2), (3, .int .i64 p3), (4, .int .i64 p4), (5, .slice (some ⟨g, 0, none⟩) es.length es.length), (6, .int .i64 st)] := ⟨_, rfl⟩
  rw [← hW2] at hx2 hr2 oe2 t2 s2 ho2'
  have eW : ((((((w1).setCell ⟨w.heap.size + 1 + 1, 1, none⟩ (.int .i64 p1)).setCell ⟨w.heap.size + 1 + 1, 2, none⟩ (.int .i64 p2)).setCell ⟨w.heap.size + 1 + 1, 3, none⟩ (.int .i64 p3)).setCell ⟨w.heap.size + 1 + 1, 4, none⟩ (.int .i64 p4)).setCell ⟨w.heap.size + 1 + 1, 5, none⟩ (.slice (some ⟨g, 0, none⟩) es.length es.length)).setCell ⟨w.heap.size + 1 + 1, 6, none⟩ (.int .i64 st) = W2 := by rw [hW2]; rfl
  have EW := hide eW
  clear eW hW2
  go_wp2_with fail
  rw [unhide EW]
  clear EW x6 x7 o0 o1 o2 o3 o4 o5 o6 o7 f0 f1 f2 f3 f4 f5 f6 f7
  refine (unhide (C2 _ (quadsIn_on (unhide HK).2 t2))).mono ?_
  rintro e w3 ⟨h, rfl, ot, hb3⟩
  have hr3 := heapLater hb3 hr2
  have ho3 := heapLater hb3 ho2'
  have oe3 := ownsRow_below oe2 hb3
  have t3 := t2.trans (hb3.mono t2.size)
  have s3 : W2.heap.size ≤ w3.heap.size := hb3.size
  clear hx2 hr2 ho2' oe2 t2 hb3 C2 HK
  have o0 := cellIn (i := 0) ho3 rfl
  have f0 := softIn (i := 0) ho3
  have z0 := cellIn (i := 0) hr3 rfl
  have u0 := softIn (i := 0) hr3
  have o1 := cellIn (i := 1) ho3 rfl
  have f1 := softIn (i := 1) ho3
  have z1 := cellIn (i := 1) hr3 rfl
  have u1 := softIn (i := 1) hr3
  have o2 := cellIn (i := 2) ho3 rfl
  have f2 := softIn (i := 2) ho3
  have z2 := cellIn (i := 2) hr3 rfl
  have u2 := softIn (i := 2) hr3
  have o3 := cellIn (i := 3) ho3 rfl
  have f3 := softIn (i := 3) ho3
  have z3 := cellIn (i := 3) hr3 rfl
  have u3 := softIn (i := 3) hr3
  have o4 := cellIn (i := 4) ho3 rfl
  have f4 := softIn (i := 4) ho3
  have z4 := cellIn (i := 4) hr3 rfl
  have u4 := softIn (i := 4) hr3
  have o5 := cellIn (i := 5) ho3 rfl
  have f5 := softIn (i := 5) ho3
  have z5 := cellIn (i := 5) hr3 rfl
  have u5 := softIn (i := 5) hr3
  have o6 := cellIn (i := 6) ho3 rfl
  have f6 := softIn (i := 6) ho3
  have z6 := cellIn (i := 6) hr3 rfl
  have u6 := softIn (i := 6) hr3
  have o7 := cellIn (i := 7) ho3 rfl
  have f7 := softIn (i := 7) ho3
  have z7 := cellIn (i := 7) hr3 rfl
  have u7 := softIn (i := 7) hr3
  obtain ⟨ho4, G4⟩ := setMany_is [(7, .slice (some ⟨h, 0, none⟩) ts.length ts.length)] w3 _ ho3
  have hr4 := heapBut G4 hr3 (by omega)
  have oe4 := rowBut G4 oe3 (by omega)
  have ot4 := rowBut G4 ot (by omega)
  have t4 : Below w.heap.size w (setMany w3 (w.heap.size + 1 + 1) [(7, .slice (some ⟨h, 0, none⟩) ts.length ts.length)]) := t3.grown G4 t3.size (fun j hj => by cases hj; omega)
  obtain ⟨hr5, G5⟩ := setMany_is [(0, .int .i64 id), (1, .int .i64 p1), (2, .int .i64 p2), (3, .int .i64 p3), (4, .int .i64 p4), (5, .slice (some ⟨g, 0, none⟩) es.length es.length), (6, .int .i64 st), (7, .slice (some ⟨h, 0, none⟩) ts.length ts.length)] (setMany w3 (w.heap.size + 1 + 1) [(7, .slice (some ⟨h, 0, none⟩) ts.length ts.length)]) _ hr4
  have oe5 := rowBut G5 oe4 (by omega)
  have ot5 := rowBut G5 ot4 (by omega)
  have t5 : Below w.heap.size w (setMany (setMany w3 (w.heap.size + 1 + 1) [(7, .slice (some ⟨h, 0, none⟩) ts.length ts.length)]) (w.heap.size + 1) [(0, .int .i64 id), (1, .int .i64 p1), (2, .int .i64 p2), (3, .int .i64 p3), (4, .int .i64 p4), (5, .slice (some ⟨g, 0, none⟩) es.length es.length), (6, .int .i64 st), (7, .slice (some ⟨h, 0, none⟩) ts.length ts.length)]) := t4.grown G5 t4.size (fun j hj => by cases hj; omega)
  have hr5' : (setMany (setMany w3 (w.heap.size + 1 + 1) [(7, .slice (some ⟨h, 0, none⟩) ts.length ts.length)]) (w.heap.size + 1) [(0, .int .i64 id), (1, .int .i64 p1), (2, .int .i64 p2), (3, .int .i64 p3), (4, .int .i64 p4), (5, .slice (some ⟨g, 0, none⟩) es.length es.length), (6, .int .i64 st), (7, .slice (some ⟨h, 0, none⟩) ts.length ts.length)]).heap[w.heap.size + 1]? = some (.cells #[.int .i64 id, .int .i64 p1, .int .i64 p2, .int .i64 p3, .int .i64 p4, .slice (some ⟨g, 0, none⟩) es.length es.length, .int .i64 st, .slice (some ⟨h, 0, none⟩) ts.length ts.length] 65 (0, 0)) := by rw [hr5]; rfl
  have ER := hide (And.intro (unhide RO _ _ _ (ownsRow_baseS oe5 (by omega)) (ownsRow_baseS ot5 (by omega))) (And.intro t5 hr5'))
  clear hr3 ho3 ho4 G4 hr4 oe4 ot4 t4 hr5 G5 oe5 ot5 t5 hr5' oe3 ot t3 RO
  obtain ⟨W5, hW5⟩ : ∃ W5, W5 = setMany (setMany w3 (w.heap.size + 1 + 1) [(7, .slice (some ⟨h, 0, none⟩) ts.length ts.length)]) (w.heap.size + 1) [(0, .int .i64 id), (1, .int .i64 p1), (2, .int .i64 p2), (3, .int .i64 p3), (4, .int .i64 p4), (5, .slice (some ⟨g, 0, none⟩) es.length es.length), (6, .int .i64 st), (7, .slice (some ⟨h, 0, none⟩) ts.length ts.length)] := ⟨_, rfl⟩
  rw [← hW5] at ER
  have eW : (((((((((w3).setCell ⟨w.heap.size + 1 + 1, 7, none⟩ (.slice (some ⟨h, 0, none⟩) ts.length ts.length)).setCell ⟨w.heap.size + 1, 0, none⟩ (.int .i64 id)).setCell ⟨w.heap.size + 1, 1, none⟩ (.int .i64 p1)).setCell ⟨w.heap.size + 1, 2, none⟩ (.int .i64 p2)).setCell ⟨w.heap.size + 1, 3, none⟩ (.int .i64 p3)).setCell ⟨w.heap.size + 1, 4, none⟩ (.int .i64 p4)).setCell ⟨w.heap.size + 1, 5, none⟩ (.slice (some ⟨g, 0, none⟩) es.length es.length)).setCell ⟨w.heap.size + 1, 6, none⟩ (.int .i64 st)).setCell ⟨w.heap.size + 1, 7, none⟩ (.slice (some ⟨h, 0, none⟩) ts.length ts.length) = W5 := by rw [hW5]; rfl
  have EW := hide eW
  clear eW hW5
  go_wp2
  rw [unhide EW]
  obtain ⟨R1, R2, R3⟩ := unhide ER
  have r0 := cellIn (i := 0) R3 rfl
  have r1 := cellIn (i := 1) R3 rfl
  have r2 := cellIn (i := 2) R3 rfl
  have r3 := cellIn (i := 3) R3 rfl
  have r4 := cellIn (i := 4) R3 rfl
  have r5 := cellIn (i := 5) R3 rfl
  have r6 := cellIn (i := 6) R3 rfl
  have r7 := cellIn (i := 7) R3 rfl
  refine bodyPost_ret (v := .agg #[.int .i64 id, .int .i64 p1, .int .i64 p2, .int .i64 p3, .int .i64 p4, .slice (some ⟨g, 0, none⟩) es.length es.length, .int .i64 st, .slice (some ⟨h, 0, none⟩) ts.length ts.length]) (by simp [results, Try.results71, go_sem, r0, r1, r2, r3, r4, r5, r6, r7]) rfl ⟨g, h, rfl, R1, R2⟩
end Go.Proofs.Ytodlnhmlhpadbaa
