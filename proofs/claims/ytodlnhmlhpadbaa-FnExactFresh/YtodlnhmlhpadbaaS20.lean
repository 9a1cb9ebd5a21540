/- A yard: its numbers, its shelves, its runs; what the laws do with one: how much there is, made anew, alike, marked, held. -/
import Derived.Test.YtodlnhmlhpadbaaYardTo
import Derived.Test.YtodlnhmlhpadbaaS4
import Derived.Deep.DeepCutAuto
namespace Go.Proofs.Ytodlnhmlhpadbaa
open Go.RowKit
set_option linter.unusedVariables false
set_option linter.unusedSimpArgs false
attribute [local go_sem ↓] Go.wp_at_zero Go.wp_at_succ

theorem cells_fourY {w : World} {g : Nat} {a b c d : Value} {t : TypeId} {fr : Nat × Nat} (h : w.heap[g]? = some (.cells #[a, b, c, d] t fr)) : w.cell? ⟨g, 0, none⟩ = some a ∧ w.cell? ⟨g, 1, none⟩ = some b ∧ w.cell? ⟨g, 2, none⟩ = some c ∧ w.cell? ⟨g, 3, none⟩ = some d := by
  refine ⟨?_, ?_, ?_, ?_⟩ <;> (rw [cell_of_row w g _ _ _ _ h]; rfl)
structure YardL where
  now : Int
  seq : Int
  shelf : List (List QuadL)
  runs : List RunL
def yardC (y : YardL) (vs vr : Value) : Array Value := #[.int .i64 y.now, .int .i64 y.seq, vs, vr]
def yardV (y : YardL) (vs vr : Value) : Value := .agg (yardC y vs vr)
/-- A yard within a span. -/
structure YardX (w : World) (lo hi : Nat) (vs vr : Value) (us : List Value) (ps : List (Value × Value)) (y : YardL) : Prop where
  sh : ShelvesX w lo hi vs us y.shelf
  rn : RunsX w lo hi vr ps y.runs
section
variable {w w' : World} {lo hi l2 h2 : Nat} {vs vr : Value} {us : List Value} {ps : List (Value × Value)} {y : YardL}
theorem yardX_frame (h : YardX w lo hi vs vr us ps y) (k : Within l2 h2 w w') (d : hi ≤ l2 ∨ h2 ≤ lo) : YardX w' lo hi vs vr us ps y := ⟨shelvesX_frame h.sh k d, runsX_frame h.rn k d⟩
theorem yardX_below (h : YardX w lo hi vs vr us ps y) (hb : Below w.heap.size w w') : YardX w' lo hi vs vr us ps y := ⟨shelvesX_below h.sh hb, runsX_below h.rn hb⟩
theorem yardX_wide (h : YardX w lo hi vs vr us ps y) {lo' hi' : Nat} (h1 : lo' ≤ lo) (h2 : hi ≤ hi') : YardX w lo' hi' vs vr us ps y := ⟨shelvesX_wide h.sh h1 h2, runsX_wide h.rn h1 h2⟩
end
/-- A yard that came in. -/
structure YardIn (w : World) (B : Nat) (a b : Option Addr) (y : YardL) : Prop where
  sh : shelvesIn w B a y.shelf
  rn : runsIn w B b y.runs
theorem yardIn_on {w w1 : World} {a b : Option Addr} {y : YardL} (h : YardIn w w.heap.size a b y) (hb : Below w.heap.size w w1) : YardIn w1 w1.heap.size a b y := ⟨shelvesIn_on h.sh hb, runsIn_on h.rn hb⟩
/-- A yard that is not too much: how much the laws let in. -/
structure YardFew (y : YardL) : Prop where
  sh : y.shelf.length + sumE y.shelf ≤ 1048576
  rn : y.runs.length + sumT y.runs ≤ 1048576
set_option maxRecDepth 100000 in
set_option maxHeartbeats 3200000 in
theorem szYard_any (a b : Option Addr) (c d : Nat) (y : YardL) (left : Int) (w : World) (h0 : 0 ≤ left) (h1 : left ≤ 1048576) (hn : y.shelf.length ≤ 9223372036854775807) (hm : y.runs.length ≤ 9223372036854775807) (hk : YardIn w w.heap.size a b y) :
    Calls Try.prog 17 #[yardV y (.slice a y.shelf.length c) (.slice b y.runs.length d), .int .i64 left] w fun e w' => ∃ s : Int, e = .returned (.int .i64 s) ∧ s ≤ left ∧ (s = -1 ∨ (0 ≤ s ∧ YardFew y)) ∧ Below w.heap.size w w' := by
  obtain ⟨now, seq, sh, rs⟩ := y
  obtain ⟨k1, k2⟩ := hk
  simp only at hn hm k1 k2
  have C1 := fun W (hb : Below w.heap.size w W) => hide (szShelves_any a c sh left W h0 h1 hn (.inr (shelvesIn_on k1 hb)))
  have C2 := fun (s : Int) (g0 : 0 ≤ s) (g1 : s ≤ 1048576) W (hb : Below w.heap.size w W) => hide (szRuns_any b d rs s W g0 g1 hm (.inr (runsIn_on k2 hb)))
  unfold yardV yardC
  simp only
  clear k1 k2
  go_enter Try.func17, Try.ntmps17
  go_wp2_with fail
  obtain ⟨W, hW⟩ : ∃ W, W = w.alloc (Obj.cells #[.int .i64 now, .int .i64 seq, .slice a sh.length c, .slice b rs.length d] 35) := ⟨_, rfl⟩
  have hx : W.heap[w.heap.size]? = some (.cells #[.int .i64 now, .int .i64 seq, .slice a sh.length c, .slice b rs.length d] 35 (0, 0)) := by rw [hW]; exact heap_alloc_new _ _
  have hb0 : Below w.heap.size w W := by rw [hW]; exact (Below.refl _ _).alloc (Nat.le_refl _) _
  rw [← hW]
  clear hW
  refine (unhide (C1 W hb0)).mono ?_
  rintro e w1 ⟨s1, rfl, hs1, hc1, hb1⟩
  have c3 := cellIn (i := 3) (heapLater hb1 hx) rfl
  have t1 := hb0.trans (hb1.mono hb0.size)
  clear hx hb1 hb0 C1
  rcases hc1 with rfl | ⟨g0, g1⟩
  · clear c3 C2
    go_wp2
    go_ret
    exact ⟨-1, rfl, by omega, .inl rfl, t1⟩
  · have d0 : decide (s1 < 0) = false := decide_eq_false (by omega)
    have G1 := hide g1
    have C3 := C2 s1 g0 (by omega) w1 t1
    have T1 := hide t1
    clear C2 g1 t1
    go_wp2_with fail
    refine (unhide C3).mono ?_
    rintro e w2 ⟨s2, rfl, hs2, hc2, hb2⟩
    have t2 := (unhide T1).trans (hb2.mono (unhide T1).size)
    clear hb2 T1 c3 C3
    rcases hc2 with rfl | ⟨g2, g3⟩
    · go_wp2
      go_ret
      exact ⟨-1, rfl, by omega, .inl rfl, t2⟩
    · have d1 : decide (s2 < 0) = false := decide_eq_false (by omega)
      have G3 := hide g3
      clear g3
      go_wp2
      go_ret
      exact ⟨s2, rfl, by omega, .inr ⟨g2, ⟨by have := unhide G1; show sh.length + sumE sh ≤ 1048576; omega, by have := unhide G3; have := unhide G1; show rs.length + sumT rs ≤ 1048576; omega⟩⟩, t2⟩
set_option maxRecDepth 100000 in
set_option maxHeartbeats 3200000 in
theorem eqYard_any (va vb vc vd : Value) (l1 h1 l2 h2 : Nat) (us us2 : List Value) (ps ps2 : List (Value × Value)) (y : YardL) (w : World) (hA : YardX w l1 h1 va vb us ps y) (hB : YardX w l2 h2 vc vd us2 ps2 y) (hf : YardFew y) :
    Calls Try.prog 12 #[yardV y va vb, yardV y vc vd] w fun e w' => e = .returned (.bool true) ∧ Below w.heap.size w w' := by
  have f1 := hf.sh
  have f2 := hf.rn
  have C1 := fun W (hb : Below w.heap.size w W) => hide (eqShelves_any _ _ _ _ _ _ _ _ y.shelf W (shelvesX_below hA.sh hb) (shelvesX_below hB.sh hb) (by omega) (fun r hr => by have := sumE_mem hr; omega))
  have C2 := fun W (hb : Below w.heap.size w W) => hide (eqRuns_any _ _ _ _ _ _ _ _ y.runs W (runsX_below hA.rn hb) (runsX_below hB.rn hb) (by omega) (fun r hr => by have := sumT_mem hr; omega))
  obtain ⟨a1, c1, rfl, -⟩ := ownsPc_shape hA.sh.out.own
  obtain ⟨a2, c2, rfl, -⟩ := ownsPc_shape hA.rn.out.own
  obtain ⟨a3, c3, rfl, -⟩ := ownsPc_shape hB.sh.out.own
  obtain ⟨a4, c4, rfl, -⟩ := ownsPc_shape hB.rn.out.own
  have n1 : (y.now != y.now) = false := by simp
  have n2 : (y.seq != y.seq) = false := by simp
  clear hA hB hf f1 f2
  unfold yardV yardC
  go_enter Try.func12, Try.ntmps12
  go_wp2_with fail
  obtain ⟨W, hW⟩ : ∃ W, W = (w.alloc (Obj.cells #[.int .i64 y.now, .int .i64 y.seq, .slice a1 y.shelf.length c1, .slice a2 y.runs.length c2] 25)).alloc (Obj.cells #[.int .i64 y.now, .int .i64 y.seq, .slice a3 y.shelf.length c3, .slice a4 y.runs.length c4] 25) := ⟨_, rfl⟩
  have hx : W.heap[w.heap.size]? = some (.cells #[.int .i64 y.now, .int .i64 y.seq, .slice a1 y.shelf.length c1, .slice a2 y.runs.length c2] 25 (0, 0)) := by rw [hW, Below.heap_alloc _ _ _ (by simp)]; exact heap_alloc_new _ _
  have hy : W.heap[w.heap.size + 1]? = some (.cells #[.int .i64 y.now, .int .i64 y.seq, .slice a3 y.shelf.length c3, .slice a4 y.runs.length c4] 25 (0, 0)) := by rw [hW]; exact allocAt _ _ _ (by simp)
  have hb0 : Below w.heap.size w W := by rw [hW]; exact ((Below.refl _ _).alloc (Nat.le_refl _) _).alloc (by simp) _
  rw [← hW]
  clear hW
  refine (unhide (C1 W hb0)).mono ?_
  rintro e w1 ⟨rfl, hb1⟩
  have t1 := hb0.trans (hb1.mono hb0.size)
  have c3_ := cellIn (i := 3) (heapLater hb1 hx) rfl
  have d3_ := cellIn (i := 3) (heapLater hb1 hy) rfl
  have C3 := C2 w1 t1
  have T1 := hide t1
  clear hx hy hb1 hb0 C1 C2 t1
  go_wp2_with fail
  refine (unhide C3).mono ?_
  rintro e w2 ⟨rfl, hb2⟩
  have t2 := (unhide T1).trans (hb2.mono (unhide T1).size)
  clear hb2 T1 C3 c3_ d3_
  go_wp2
  go_ret
  exact ⟨rfl, t2⟩
set_option maxRecDepth 100000 in
set_option maxHeartbeats 3200000 in
theorem toYard_any (a b : Option Addr) (c d : Nat) (y : YardL) (w : World) (hf : YardFew y) (hk : YardIn w w.heap.size a b y) :
    Calls Try.prog 19 #[yardV y (.slice a y.shelf.length c) (.slice b y.runs.length d)] w fun e w' => ∃ g h us ps, e = .returned (yardV y (.slice (some ⟨g, 0, none⟩) y.shelf.length y.shelf.length) (.slice (some ⟨h, 0, none⟩) y.runs.length y.runs.length)) ∧ YardX w' w.heap.size w'.heap.size (.slice (some ⟨g, 0, none⟩) y.shelf.length y.shelf.length) (.slice (some ⟨h, 0, none⟩) y.runs.length y.runs.length) us ps y ∧ Below w.heap.size w w' := by
  have f1 := hf.sh
  have f2 := hf.rn
  have C1 := fun W (hb : Below w.heap.size w W) => hide (toShelves_any a c y.shelf W (by omega) (fun r hr => by have := sumE_mem hr; omega) (shelvesIn_on hk.sh hb))
  have C2 := fun W (hb : Below w.heap.size w W) => hide (toRuns_any b d y.runs W (by omega) (fun r hr => by have := sumT_mem hr; omega) (runsIn_on hk.rn hb))
  clear hk hf f1 f2
  unfold yardV yardC
  go_enter Try.func19, Try.ntmps19
  go_wp2_with fail
  obtain ⟨W0, hW0⟩ : ∃ W0, W0 = ((w.alloc (Obj.cells #[.int .i64 y.now, .int .i64 y.seq, .slice a y.shelf.length c, .slice b y.runs.length d] 35)).alloc (Obj.cells #[.int .i64 0, .int .i64 0, .slice none 0 0, .slice none 0 0] 25)).alloc (Obj.cells #[.int .i64 y.now, .int .i64 y.seq, .slice none 0 0, .slice none 0 0] 25) := ⟨_, rfl⟩
  have hx : W0.heap[w.heap.size]? = some (.cells #[.int .i64 y.now, .int .i64 y.seq, .slice a y.shelf.length c, .slice b y.runs.length d] 35 (0, 0)) := by rw [hW0, Below.heap_alloc _ _ _ (by simp; omega), Below.heap_alloc _ _ _ (by simp)]; exact heap_alloc_new _ _
  have hr : W0.heap[w.heap.size + 1]? = some (.cells #[.int .i64 0, .int .i64 0, .slice none 0 0, .slice none 0 0] 25 (0, 0)) := by rw [hW0, Below.heap_alloc _ _ _ (by simp)]; exact allocAt _ _ _ (by simp)
  have ho : W0.heap[w.heap.size + 1 + 1]? = some (.cells #[.int .i64 y.now, .int .i64 y.seq, .slice none 0 0, .slice none 0 0] 25 (0, 0)) := by rw [hW0]; exact allocAt _ _ _ (by simp)
  have hs0 : W0.heap.size = w.heap.size + 1 + 1 + 1 := by rw [hW0]; simp
  have hb0 : Below w.heap.size w W0 := by rw [hW0]; exact (((Below.refl _ _).alloc (Nat.le_refl _) _).alloc (by simp) _).alloc (by simp; omega) _
  rw [← hW0]
  clear hW0
  refine (unhide (C1 W0 hb0)).mono ?_
  rintro e w1 ⟨g, us, rfl, S1, hb1⟩
  have hx1 := heapLater hb1 hx
  have hr1 := heapLater hb1 hr
  have ho1 := heapLater hb1 ho
  have st2 := setMany_is [(2, .slice (some ⟨g, 0, none⟩) y.shelf.length y.shelf.length)] w1 _ ho1
  simp only [setMany, putMany, List.setIfInBounds_toArray, List.set_cons_zero, List.set_cons_succ] at st2
  obtain ⟨W2, hW2⟩ : ∃ W2, W2 = w1.setCell ⟨w.heap.size + 1 + 1, 2, none⟩ (.slice (some ⟨g, 0, none⟩) y.shelf.length y.shelf.length) := ⟨_, rfl⟩
  rw [← hW2] at st2
  have hz1 := hb1.size
  have k2 : Within (w.heap.size + 1 + 1) (w.heap.size + 1 + 1 + 1) w1 W2 := within_grown st2.2 (fun j hj => by cases hj; exact ⟨Nat.le_refl _, by omega⟩)
  have S2 := shelvesX_frame S1 k2 (.inr (by omega))
  have hx2 := box_frame hx1 k2 (.inl (by omega))
  have hr2 := box_frame hr1 k2 (.inl (by omega))
  have t1 := hb0.trans (hb1.mono hb0.size)
  have t2 := below_trans_grown t1 st2.2 ⟨by omega, t1.size⟩
  have hz2 := st2.2.size
  have C3 := C2 W2 t2
  have z2 := cellIn (i := 2) ho1 rfl
  have q2 : w1.frozen? ⟨w.heap.size + 1 + 1, 2, none⟩ = false := softIn ho1
  have x3 := cellIn (i := 3) hx2 rfl
  have HA := hide (And.intro S2 (And.intro hr2 (And.intro st2.1 (And.intro t2 (And.intro hz1 (And.intro hz2 hs0))))))
  have HW2 := hide hW2
  clear C1 C2 hx hr ho hs0 hb0 S1 hb1 hx1 hr1 ho1 st2 hW2 hz1 k2 S2 hx2 hr2 t1 t2 hz2
  go_upto_region 5 with fail
  rw [← unhide HW2]
  clear z2 q2 HW2
  go_wp2_with fail
  refine (unhide C3).mono ?_
  rintro e w3 ⟨h, ps, rfl, R3, hb3⟩
  obtain ⟨S2, hr2, ho2, t2, hz1, hz2, hs0⟩ := unhide HA
  have S3 := shelvesX_below S2 hb3
  have hr3 := heapLater hb3 hr2
  have ho3 := heapLater hb3 ho2
  have st4 := setMany_is [(3, .slice (some ⟨h, 0, none⟩) y.runs.length y.runs.length)] w3 _ ho3
  simp only [setMany, putMany, List.setIfInBounds_toArray, List.set_cons_zero, List.set_cons_succ] at st4
  obtain ⟨W4, hW4⟩ : ∃ W4, W4 = w3.setCell ⟨w.heap.size + 1 + 1, 3, none⟩ (.slice (some ⟨h, 0, none⟩) y.runs.length y.runs.length) := ⟨_, rfl⟩
  rw [← hW4] at st4
  have hz3 := hb3.size
  have k4 : Within (w.heap.size + 1 + 1) (w.heap.size + 1 + 1 + 1) w3 W4 := within_grown st4.2 (fun j hj => by cases hj; exact ⟨Nat.le_refl _, by omega⟩)
  have S4 := shelvesX_frame S3 k4 (.inr (by omega))
  have R4 := runsX_frame R3 k4 (.inr (by omega))
  have hr4 := box_frame hr3 k4 (.inl (by omega))
  have t3 := t2.trans (hb3.mono t2.size)
  have t4 := below_trans_grown t3 st4.2 ⟨by omega, t3.size⟩
  have hz4 := st4.2.size
  obtain ⟨o0, o1, o2, o3⟩ := cells_fourY st4.1
  obtain ⟨p0, p1, p2, p3⟩ := cells_fourY hr4
  have q0 : W4.frozen? ⟨w.heap.size + 1, 0, none⟩ = false := softIn hr4
  have q1 : W4.frozen? ⟨w.heap.size + 1, 1, none⟩ = false := softIn hr4
  have q2 : W4.frozen? ⟨w.heap.size + 1, 2, none⟩ = false := softIn hr4
  have q3 : W4.frozen? ⟨w.heap.size + 1, 3, none⟩ = false := softIn hr4
  have st5 := setMany_is [(0, .int .i64 y.now), (1, .int .i64 y.seq), (2, .slice (some ⟨g, 0, none⟩) y.shelf.length y.shelf.length), (3, .slice (some ⟨h, 0, none⟩) y.runs.length y.runs.length)] W4 _ hr4
  simp only [setMany, putMany, List.setIfInBounds_toArray, List.set_cons_zero, List.set_cons_succ] at st5
  obtain ⟨W5, hW5⟩ : ∃ W5, W5 = (((W4.setCell ⟨w.heap.size + 1, 0, none⟩ (.int .i64 y.now)).setCell ⟨w.heap.size + 1, 1, none⟩ (.int .i64 y.seq)).setCell ⟨w.heap.size + 1, 2, none⟩ (.slice (some ⟨g, 0, none⟩) y.shelf.length y.shelf.length)).setCell ⟨w.heap.size + 1, 3, none⟩ (.slice (some ⟨h, 0, none⟩) y.runs.length y.runs.length) := ⟨_, rfl⟩
  rw [← hW5] at st5
  have k5 : Within (w.heap.size + 1) (w.heap.size + 1 + 1) W4 W5 := within_grown st5.2 (fun j hj => by cases hj; exact ⟨Nat.le_refl _, by omega⟩)
  have hz5 := st5.2.size
  have S5 := shelvesX_wide (shelvesX_frame S4 k5 (.inr (by omega))) (show w.heap.size ≤ _ by omega) (show _ ≤ W5.heap.size by omega)
  have R5 := runsX_wide (runsX_frame R4 k5 (.inr (by omega))) (show w.heap.size ≤ _ by omega) (show _ ≤ W5.heap.size by omega)
  have t5 := below_trans_grown t4 st5.2 ⟨by omega, t4.size⟩
  have z3 := cellIn (i := 3) ho3 rfl
  have q4 : w3.frozen? ⟨w.heap.size + 1 + 1, 3, none⟩ = false := softIn ho3
  have HF := hide (And.intro st5.1 (And.intro S5 (And.intro R5 t5)))
  have HW := hide (And.intro hW4 hW5)
  clear HA S2 hr2 ho2 t2 hz1 hz2 hs0 S3 hr3 ho3 st4 hW4 hz3 k4 S4 R4 R3 hr4 t3 t4 hz4 st5 hW5 k5 hz5 S5 R5 t5 hb3 C3 x3
  go_upto_region 6 with fail
  rw [← (unhide HW).1]
  clear z3 q4
  go_wp2_with fail
  rw [← (unhide HW).2]
  obtain ⟨e5, S5, R5, t5⟩ := unhide HF
  obtain ⟨r0, r1, r2, r3⟩ := cells_fourY e5
  refine bodyPost_ret (v := .agg #[.int .i64 y.now, .int .i64 y.seq, .slice (some ⟨g, 0, none⟩) y.shelf.length y.shelf.length, .slice (some ⟨h, 0, none⟩) y.runs.length y.runs.length]) (by simp [results, Try.results19, go_sem, r0, r1, r2, r3]) rfl ⟨g, h, us, ps, rfl, ⟨S5, R5⟩, t5⟩
def sizeY (y : YardL) : Nat := sumQ y.shelf + sumR y.runs
def markY (y : YardL) (kk : Nat) : YardL := ⟨y.now, y.seq, marksSQ kk y.shelf, marksRS (kk + sumQ y.shelf) y.runs⟩
theorem sizeY_few {y : YardL} (h : YardFew y) : sizeY y ≤ 10485760 := by
  have h1 := h.sh
  have h2 := h.rn
  have h3 := sumQ_E y.shelf
  have h4 := sumR_T y.runs
  unfold sizeY
  omega
set_option maxRecDepth 100000 in
set_option maxHeartbeats 3200000 in
theorem markYard_any (va vb : Value) (lo hi kk : Nat) (us : List Value) (ps : List (Value × Value)) (y : YardL) (w : World) (hA : YardX w lo hi va vb us ps y) (hf : YardFew y) (h1 : 1 ≤ kk) (h2 : kk + sizeY y ≤ 19000000) :
    Calls Try.prog 13 #[yardV y va vb, .int .i64 (kk : Int)] w fun e w' => e = .returned (.int .i64 ((kk + sizeY y : Nat) : Int)) ∧ YardX w' lo hi va vb us ps (markY y kk) ∧ Within lo hi w w' := by
  have f1 := hf.sh
  have f2 := hf.rn
  unfold sizeY at h2
  obtain ⟨m, hm⟩ : ∃ m : Nat, m = kk + sumQ y.shelf := ⟨_, rfl⟩
  have C1 := fun W (hb : Below w.heap.size w W) => hide (markShelves_any va lo hi kk us y.shelf W (shelvesX_below hA.sh hb) (by omega) (fun r hr => by have := sumE_mem hr; omega) h1 (by omega))
  have C2 := fun W (h : RunsX W lo hi vb ps y.runs) => hide (markRuns_any vb lo hi m ps y.runs W h (by omega) (fun r hr => by have := sumT_mem hr; omega) (by omega) (by omega))
  rw [← hm] at C1
  obtain ⟨q, hq⟩ : ∃ q : Nat, q = m + sumR y.runs := ⟨_, rfl⟩
  rw [← hq] at C2
  have HE : Hid ((q : Int) = ((kk + sizeY y : Nat) : Int)) := hide (by unfold sizeY; omega)
  have HM := hide hm
  obtain ⟨a1, c1, rfl, -⟩ := ownsPc_shape hA.sh.out.own
  obtain ⟨a2, c2, rfl, -⟩ := ownsPc_shape hA.rn.out.own
  have HR := hide hA.rn
  have hsz : lo ≤ lo := Nat.le_refl _
  clear hA hf f1 f2 h2 hm hq
  unfold yardV yardC
  go_enter Try.func13, Try.ntmps13
  go_wp2_with fail
  obtain ⟨W, hW⟩ : ∃ W, W = w.alloc (Obj.cells #[.int .i64 y.now, .int .i64 y.seq, .slice a1 y.shelf.length c1, .slice a2 y.runs.length c2] 25) := ⟨_, rfl⟩
  have hx : W.heap[w.heap.size]? = some (.cells #[.int .i64 y.now, .int .i64 y.seq, .slice a1 y.shelf.length c1, .slice a2 y.runs.length c2] 25 (0, 0)) := by rw [hW]; exact heap_alloc_new _ _
  have hb0 : Below w.heap.size w W := by rw [hW]; exact (Below.refl _ _).alloc (Nat.le_refl _) _
  rw [← hW]
  clear hW
  refine (unhide (C1 W hb0)).mono ?_
  rintro e w1 ⟨rfl, S1, k1, B1⟩
  have R1 := runsX_but (runsX_below (unhide HR) hb0) B1 (by decide) (by decide) (by decide)
  have hx1 := (B1 _ _ _ _ hx (by decide)).trans hx
  have c3 := cellIn (i := 3) hx1 rfl
  have C3 := C2 w1 R1
  have H1 := hide (And.intro S1 (And.intro k1 (And.intro B1 (And.intro hb0 hx1))))
  clear S1 k1 B1 R1 hx hx1 hb0 C1 C2 HR
  go_wp2_with fail
  refine (unhide C3).mono ?_
  rintro e w2 ⟨rfl, R2, k2, B2⟩
  obtain ⟨S1, k1, B1, hb0, hx1⟩ := unhide H1
  have S2 := shelvesX_but S1 B2 (by decide) (by decide)
  have Y2 : YardX w2 lo hi (.slice a1 y.shelf.length c1) (.slice a2 y.runs.length c2) us ps (markY y kk) := ⟨S2, by show RunsX _ _ _ _ _ (marksRS (kk + sumQ y.shelf) y.runs); rw [← unhide HM]; exact R2⟩
  have kw : Within lo hi w w2 := within_trans (⟨hb0.os, hb0.tape, hb0.output, hb0.size, fun j hj _ => hb0.block j hj⟩ : Within lo hi w W) (within_trans k1 k2)
  have HF := hide (And.intro Y2 kw)
  clear S1 k1 B1 hb0 hx1 S2 Y2 kw R2 k2 B2 H1 C3 c3
  go_wp2
  go_ret
  exact ⟨ret_int (unhide HE), (unhide HF).1, (unhide HF).2⟩
set_option maxRecDepth 100000 in
set_option maxHeartbeats 3200000 in
theorem heldYard_any (va vb : Value) (lo hi kk : Nat) (us : List Value) (ps : List (Value × Value)) (y : YardL) (w : World) (hA : YardX w lo hi va vb us ps (markY y kk)) (hf : YardFew y) (h1 : 1 ≤ kk) (h2 : kk + sizeY y ≤ 19000000) :
    Calls Try.prog 14 #[yardV y va vb, .int .i64 (kk : Int)] w fun e w' => e = .returned (.int .i64 ((kk + sizeY y : Nat) : Int)) ∧ Below w.heap.size w w' := by
  have f1 := hf.sh
  have f2 := hf.rn
  unfold sizeY at h2
  obtain ⟨m, hm⟩ : ∃ m : Nat, m = kk + sumQ y.shelf := ⟨_, rfl⟩
  have hAs : ShelvesX w lo hi va us (marksSQ kk y.shelf) := hA.sh
  have hAr : RunsX w lo hi vb ps (marksRS (kk + sumQ y.shelf) y.runs) := hA.rn
  rw [← hm] at hAr
  have C1 := fun W (hb : Below w.heap.size w W) => hide (heldShelves_any va lo hi kk us y.shelf W (shelvesX_below hAs hb) (by omega) (fun r hr => by have := sumE_mem hr; omega) h1 (by omega))
  have C2 := fun W (hb : Below w.heap.size w W) => hide (heldRuns_any vb lo hi m ps y.runs W (runsX_below hAr hb) (by omega) (fun r hr => by have := sumT_mem hr; omega) (by omega) (by omega))
  rw [← hm] at C1
  obtain ⟨q, hq⟩ : ∃ q : Nat, q = m + sumR y.runs := ⟨_, rfl⟩
  rw [← hq] at C2
  have HE : Hid ((q : Int) = ((kk + sizeY y : Nat) : Int)) := hide (by unfold sizeY; omega)
  have hm0 : decide ((m : Int) < 0) = false := decide_eq_false (by omega)
  have hq0 : decide ((q : Int) < 0) = false := decide_eq_false (by omega)
  obtain ⟨a1, c1, rfl, -⟩ := ownsPc_shape hAs.out.own
  obtain ⟨a2, c2, rfl, -⟩ := ownsPc_shape hAr.out.own
  rw [marksSQ_len] at *
  rw [marksRS_len] at *
  clear hA hAs hAr hf f1 f2 h2 hm hq
  unfold yardV yardC
  go_enter Try.func14, Try.ntmps14
  go_wp2_with fail
  obtain ⟨W, hW⟩ : ∃ W, W = w.alloc (Obj.cells #[.int .i64 y.now, .int .i64 y.seq, .slice a1 y.shelf.length c1, .slice a2 y.runs.length c2] 25) := ⟨_, rfl⟩
  have hx : W.heap[w.heap.size]? = some (.cells #[.int .i64 y.now, .int .i64 y.seq, .slice a1 y.shelf.length c1, .slice a2 y.runs.length c2] 25 (0, 0)) := by rw [hW]; exact heap_alloc_new _ _
  have hb0 : Below w.heap.size w W := by rw [hW]; exact (Below.refl _ _).alloc (Nat.le_refl _) _
  rw [← hW]
  clear hW
  refine (unhide (C1 W hb0)).mono ?_
  rintro e w1 ⟨rfl, hb1⟩
  have c3 := cellIn (i := 3) (heapLater hb1 hx) rfl
  have t1 := hb0.trans (hb1.mono hb0.size)
  have C3 := C2 w1 t1
  have T1 := hide t1
  clear hx hb1 hb0 C1 C2 t1
  go_wp2_with fail
  refine (unhide C3).mono ?_
  rintro e w2 ⟨rfl, hb2⟩
  have t2 := (unhide T1).trans (hb2.mono (unhide T1).size)
  clear hb2 T1 C3 c3
  go_wp2
  go_ret
  exact ⟨ret_int (unhide HE), t2⟩
end Go.Proofs.Ytodlnhmlhpadbaa

/- The walk of the specification's list of all entries, shelf by shelf. -/
namespace Go.Proofs.Ytodlnhmlhpadbaa
open Go.RowKit
set_option linter.unusedVariables false
set_option linter.unusedSimpArgs false
attribute [local go_sem ↓] Go.wp_at_zero Go.wp_at_succ

theorem flat_len (sh : List (List QuadL)) : sh.flatten.length = sumE sh := by
  induction sh with
  | nil => rfl
  | cons r t ih => simp only [List.flatten_cons, List.length_append, sumE, ih]
theorem flat_succ (sh : List (List QuadL)) (k : Nat) (h : k < sh.length) : (sh.take (k + 1)).flatten = (sh.take k).flatten ++ sh[k] := by
  rw [List.take_succ_eq_append_getElem h, List.flatten_append, List.flatten_cons, List.flatten_nil, List.append_nil]
theorem flat_take_len (sh : List (List QuadL)) (k : Nat) : (sh.take k).flatten.length ≤ sumE sh := by
  have h : sh = sh.take k ++ sh.drop k := (List.take_append_drop k sh).symm
  have e := congrArg sumE h
  rw [sumE_append] at e
  rw [flat_len]
  omega
set_option maxRecDepth 100000 in
set_option maxHeartbeats 3200000 in
theorem specEntries_any (va vb : Value) (lo hi : Nat) (us : List Value) (ps : List (Value × Value)) (y : YardL) (w : World) (h : YardX w lo hi va vb us ps y) (hf : YardFew y) :
    Calls Try.prog 54 #[yardV y va vb] w fun e w' => ∃ g cap, e = .returned (.slice (some ⟨g, 0, none⟩) (y.shelf.flatten).length cap) ∧ w'.ownsRow w.heap.size 42 4 (.slice (some ⟨g, 0, none⟩) (y.shelf.flatten).length cap) (y.shelf.flatten).length (quadsC y.shelf.flatten) ∧ Below w.heap.size w w' := by
  obtain ⟨i0, hi0, hz0, hz1, hz2⟩ := info_parts infoEntry
  obtain ⟨a1, c1, rfl, sg⟩ := ownsPc_shape h.sh.out.own
  obtain ⟨a2, c2, rfl, -⟩ := ownsPc_shape h.rn.out.own
  have hfs := hf.sh
  have HS := hide h.sh
  have hul := h.sh.len
  have HUL := hide hul
  clear h hul hf
  obtain ⟨now, seq, sh, rs⟩ := y
  dsimp only at hfs HS HUL sg ⊢
  obtain ⟨R, hR⟩ : ∃ R, R = sh.flatten := ⟨_, rfl⟩
  rw [← hR]
  have HR := hide hR
  clear hR
  unfold yardV yardC
  go_enter Try.func54, Try.ntmps54
  go_wp2
  obtain ⟨W, hW⟩ : ∃ W, W = w.alloc (Obj.cells #[.int .i64 now, .int .i64 seq, .slice a1 sh.length c1, .slice a2 rs.length c2] 25) := ⟨_, rfl⟩
  have HX := hide (show W.heap[w.heap.size]? = some (.cells #[.int .i64 now, .int .i64 seq, .slice a1 sh.length c1, .slice a2 rs.length c2] 25 (0, 0)) by rw [hW]; exact heap_alloc_new _ _)
  have hW0 : Below w.heap.size w W := by rw [hW]; exact (Below.refl _ _).alloc (Nat.le_refl _) _
  have hs0 : W.heap.size = w.heap.size + 1 := by rw [hW]; simp
  rw [← hW]
  clear hW
  obtain ⟨W1, hW1⟩ : ∃ W1, W1 = W.alloc (Obj.cells #[] 42) := ⟨_, rfl⟩
  have ho1 : W1.ownsRow W.heap.size 42 4 (.slice (some ⟨w.heap.size + 1, 0, none⟩) 0 0) 0 (quadsC []) := by rw [hW1]; exact ownsRow_none W W.heap.size 4 42 (w.heap.size + 1) hs0 (by omega)
  have hb1 : Below W.heap.size W W1 := by rw [hW1]; exact (Below.refl _ _).alloc (Nat.le_refl _) _
  rw [← hW1]
  clear hW1 hs0
  go_loopw [3, 4] (fun l v wr => ∃ (k gl cl : Nat) (ls : List QuadL), k ≤ sh.length ∧ v = .int .i64 k ∧ l = .slice (some ⟨gl, 0, none⟩) ls.length cl ∧ Hid (ls = (sh.take k).flatten) ∧ wr.ownsRow W.heap.size 42 4 (.slice (some ⟨gl, 0, none⟩) ls.length cl) ls.length (quadsC ls) ∧ Below W.heap.size W wr)
    (fun _ v _ => sh.length - (intOf v).toNat)
  case atStart => exact ⟨0, w.heap.size + 1, 0, [], Nat.zero_le _, rfl, rfl, hide (by simp), ho1, hb1⟩
  case round =>
    clear ho1 hb1
    obtain ⟨k, gl, cl, ls, hk, rfl, rfl, hls, ho, hb⟩ := hrel
    have x2 := cellIn (i := 2) (heapLater hb (unhide HX)) rfl
    have hbw := hW0.trans (hb.mono hW0.size)
    by_cases hlt : k < sh.length
    · obtain ⟨g, off, rfl⟩ := sg (by omega)
      have hk0 : (0 : Int) ≤ (k : Int) := Int.natCast_nonneg _
      have hk1 : (k : Int) < (sh.length : Int) := by omega
      have huk : k < us.length := by rw [unhide HUL]; exact hlt
      have S1 := shelvesX_below (unhide HS) hbw
      have z1 := shelves_cell S1 rfl huk
      have SR := (S1.ins k huk hlt).own.src
      have hll : ls.length ≤ 1048576 := by have := flat_take_len sh k; rw [unhide hls]; omega
      have hrl : (sh[k]).length ≤ 1048576 := by have := sumE_mem (List.getElem_mem hlt); omega
      have LS := hide (flat_succ sh k hlt)
      have hsz := hb.size
      obtain ⟨au, cu, eu, -⟩ := ownsPc_shape (S1.ins k huk hlt).own
      generalize us[k] = u at *
      generalize sh[k] = r at *
      subst eu
      have HSR := hide SR
      have HB := hide hb
      have HO := hide ho
      clear S1 hbw SR hb ho
      go_wp2_with (at_builtin; refine wpList_append_src _ rfl _ _ 48 rfl W.heap.size 42 i0 _ 4 32 Try.underlying48 hi0 hz0 hz1 hz2 rfl (by omega) _ ls.length (quadsC ls) rfl (unhide HO) _ r.length (quadsC r) rfl (unhide HSR) (quadsC_one _) (by unfold maxLen; omega) (by omega) hsz ?_)
      intro v2 w2 ho2 hg2 hn2
      rw [← quadsC_append] at ho2
      obtain ⟨g2, c2_, rfl⟩ := (World.ownsRow.cases ho2).resolve_left (fun q => by have := hn2 q.1; simp at this)
      have hB2 := (unhide HB).grown hg2 hsz (fun j hj => ((unhide HO).lt j hj).1)
      have hls2 : Hid (ls ++ r = (sh.take (k + 1)).flatten) := hide (by rw [unhide LS, ← unhide hls])
      have hlen : ls.length + r.length = (ls ++ r).length := by simp
      rw [hlen] at ho2 ⊢
      have HO2 := hide ho2
      have HB2 := hide hB2
      generalize ls ++ r = l2 at *
      clear hg2 hn2 ho2 hB2 hlen HSR HO HB hls LS z1 x2
      go_wp2
      go_roundw
      case rel => exact ⟨k + 1, g2, c2_, l2, by omega, by go_num, rfl, hls2, unhide HO2, unhide HB2⟩
      case measure => simp [intOf]; omega
    · have HE : Hid (R = ls) := hide (by rw [unhide HR, unhide hls, List.take_of_length_le (by omega)])
      have hsz := hW0.size
      have HF := hide (And.intro (ownsRow_baseE ho hsz) hbw)
      clear hls ho hb hbw HS HX
      go_wp2
      go_ret
      rw [unhide HE]
      exact ⟨gl, cl, rfl, (unhide HF).1, (unhide HF).2⟩
end Go.Proofs.Ytodlnhmlhpadbaa
