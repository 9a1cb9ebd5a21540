/- Runs in plain words, and the walks of the laws' own helpers over them: how much they hold, copies, whether two are alike, marks that are laid and held. -/
import Derived.Test.YtnpfboligmnhpaaEdgeHelp
import Derived.Test.YtnpfboligmnhpaaTaskHelp
import Derived.Test.YtnpfboligmnhpaaStructBase
namespace Go.Proofs.Ytnpfboligmnhpaa
open Go.RowKit
set_option linter.unusedVariables false
set_option linter.unusedSimpArgs false
attribute [local go_sem ↓] Go.wp_at_zero Go.wp_at_succ

/-- A run: its number, its plan, its state, its tasks. -/
structure RunL where
  id : Int
  plan : PlanL
  state : Int
  tasks : List QuadL
def runC (r : RunL) (ve vt : Value) : Array Value := #[.int .i64 r.id, .int .i64 r.plan.prio, .int .i64 r.plan.most, .int .i64 r.plan.wait, .int .i64 r.plan.tasks, ve, .int .i64 r.state, vt]
def runV (r : RunL) (ve vt : Value) : Value := .agg (runC r ve vt)
/-- Its two rows are owned. -/
structure RunOwn (w : World) (B : Nat) (ve vt : Value) (r : RunL) : Prop where
  edges : w.ownsRow B 96 2 ve r.plan.edges.length (edgesC r.plan.edges)
  tasks : w.ownsRow B 40 4 vt r.tasks.length (quadsC r.tasks)
theorem runOwn_below {w w' : World} {B : Nat} {ve vt : Value} {r : RunL} (h : RunOwn w B ve vt r) (hb : Below w.heap.size w w') : RunOwn w' B ve vt r := ⟨ownsRow_below h.edges hb, ownsRow_below h.tasks hb⟩
/-- A run that came in. -/
structure RunIn (w : World) (B : Nat) (ae at_ : Option Addr) (r : RunL) : Prop where
  edges : EdgesIn w B ae r.plan.edges
  tasks : QuadsIn w B at_ r.tasks
theorem runIn_on {w w1 : World} {ae at_ : Option Addr} {r : RunL} (h : RunIn w w.heap.size ae at_ r) (hb : Below w.heap.size w w1) : RunIn w1 w1.heap.size ae at_ r := ⟨edgesIn_on h.edges hb, quadsIn_on h.tasks hb⟩
set_option maxRecDepth 100000 in
set_option maxHeartbeats 3200000 in
theorem szRun_any (ae at_ : Option Addr) (ce ct : Nat) (r : RunL) (left : Int) (w : World) (h0 : 0 ≤ left) (h1 : left ≤ 1048576) (hn : r.plan.edges.length ≤ 9223372036854775807) (hm : r.tasks.length ≤ 9223372036854775807) :
    Calls Try.prog 32 #[runV r (.slice ae r.plan.edges.length ce) (.slice at_ r.tasks.length ct), .int .i64 left] w fun e w' => ∃ s : Int, e = .returned (.int .i64 s) ∧ s ≤ left ∧ (s = -1 ∨ (0 ≤ s ∧ r.plan.edges.length ≤ 1048576 ∧ r.tasks.length ≤ 1048576)) ∧ Below w.heap.size w w' := by
  obtain ⟨id, p, st, ts⟩ := r
  have C1 := fun W => hide (szPlan_any ae ce p left W h0 h1 hn)
  have C2 := fun (s : Int) (k0 : 0 ≤ s) (k1 : s ≤ 1048576) W => hide (szTaskS_any at_ ct ts s W k0 k1 hm)
  obtain ⟨p1, p2, p3, p4, es⟩ := p
  unfold runV runC
  unfold planV at C1
  simp only at hn hm C1 C2 ⊢
  go_enter Try.func32, Try.ntmps32
  go_wp2_with fail
  obtain ⟨W, hW⟩ : ∃ W, W = w.alloc (Obj.cells #[.int .i64 id, .int .i64 p1, .int .i64 p2, .int .i64 p3, .int .i64 p4, .slice ae es.length ce, .int .i64 st, .slice at_ ts.length ct] 53) := ⟨_, rfl⟩
  have hx : W.heap[w.heap.size]? = some (.cells #[.int .i64 id, .int .i64 p1, .int .i64 p2, .int .i64 p3, .int .i64 p4, .slice ae es.length ce, .int .i64 st, .slice at_ ts.length ct] 53 (0, 0)) := by rw [hW]; exact heap_alloc_new _ _
  have hb0 : Below w.heap.size w W := by rw [hW]; exact (Below.refl _ _).alloc (Nat.le_refl _) _
  rw [← hW]
  clear hW
  refine (unhide (C1 _)).mono ?_
  rintro e w1 ⟨s1, rfl, hs1, hc1, hb1⟩
  have c7 := cellIn (i := 7) (heapLater hb1 hx) rfl
  have t1 := hb0.trans (hb1.mono hb0.size)
  clear hx hb1 hb0 C1
  rcases hc1 with rfl | ⟨g0, g1⟩
  · clear c7 C2
    go_wp2
    go_ret
    exact ⟨-1, rfl, by omega, .inl rfl, t1⟩
  · have d0 : decide (s1 < 0) = false := decide_eq_false (by omega)
    have C3 := C2 s1 g0 (by omega)
    clear C2
    go_wp2_with fail
    refine (unhide (C3 _)).mono ?_
    rintro e w2 ⟨s2, rfl, hs2, hc2, hb2⟩
    have t2 := t1.trans (hb2.mono t1.size)
    clear hb2 t1 c7 C3
    rcases hc2 with rfl | ⟨k0, k1⟩
    · go_wp2
      go_ret
      exact ⟨-1, rfl, by omega, .inl rfl, t2⟩
    · have d1 : decide (s2 < 0) = false := decide_eq_false (by omega)
      go_wp2
      go_ret
      exact ⟨s2, rfl, by omega, .inr ⟨k0, g1, k1⟩, t2⟩
set_option maxRecDepth 100000 in
set_option maxHeartbeats 3200000 in
theorem eqRun_any (va vt vb vu : Value) (ba bb : Nat) (r : RunL) (w : World) (hA : RunOwn w ba va vt r) (hB : RunOwn w bb vb vu r) (hl : r.plan.edges.length ≤ 2000000) (hm : r.tasks.length ≤ 2000000) :
    Calls Try.prog 27 #[runV r va vt, runV r vb vu] w fun e w' => e = .returned (.bool true) ∧ Below w.heap.size w w' := by
  obtain ⟨id, p, st, ts⟩ := r
  obtain ⟨a1, a2⟩ := hA
  obtain ⟨b1, b2⟩ := hB
  simp only at a1 a2 b1 b2 hl hm
  obtain ⟨q1, k1, rfl, -⟩ := ownsRow_shape a1
  obtain ⟨q2, k2, rfl, -⟩ := ownsRow_shape a2
  obtain ⟨q3, k3, rfl, -⟩ := ownsRow_shape b1
  obtain ⟨q4, k4, rfl, -⟩ := ownsRow_shape b2
  have C1 := fun W h h' => hide (eqPlan_any (.slice q1 p.edges.length k1) (.slice q3 p.edges.length k3) ba bb p W h h' hl)
  have C2 := fun W h h' => hide (eqTaskS_any (.slice q2 ts.length k2) (.slice q4 ts.length k4) ba bb ts W h h' hm)
  obtain ⟨p1, p2, p3, p4, es⟩ := p
  unfold runV runC
  unfold planV at C1
  simp only at C1 C2 a1 b1 hl ⊢
  have i1 : (id != id) = false := by simp
  have i2 : (st != st) = false := by simp
  have HA := hide (And.intro a1 (And.intro a2 (And.intro b1 b2)))
  clear a1 a2 b1 b2
  go_enter Try.func27, Try.ntmps27
  go_wp2_with fail
  obtain ⟨W, hW⟩ : ∃ W, W = (w.alloc (Obj.cells #[.int .i64 id, .int .i64 p1, .int .i64 p2, .int .i64 p3, .int .i64 p4, .slice q1 es.length k1, .int .i64 st, .slice q2 ts.length k2] 29)).alloc (Obj.cells #[.int .i64 id, .int .i64 p1, .int .i64 p2, .int .i64 p3, .int .i64 p4, .slice q3 es.length k3, .int .i64 st, .slice q4 ts.length k4] 29) := ⟨_, rfl⟩
  have hx : W.heap[w.heap.size]? = some (.cells #[.int .i64 id, .int .i64 p1, .int .i64 p2, .int .i64 p3, .int .i64 p4, .slice q1 es.length k1, .int .i64 st, .slice q2 ts.length k2] 29 (0, 0)) := by rw [hW, Below.heap_alloc _ _ _ (by simp)]; exact heap_alloc_new _ _
  have hy : W.heap[w.heap.size + 1]? = some (.cells #[.int .i64 id, .int .i64 p1, .int .i64 p2, .int .i64 p3, .int .i64 p4, .slice q3 es.length k3, .int .i64 st, .slice q4 ts.length k4] 29 (0, 0)) := by rw [hW]; exact allocAt _ _ _ (by simp)
  have hb0 : Below w.heap.size w W := by rw [hW]; exact ((Below.refl _ _).alloc (Nat.le_refl _) _).alloc (by simp) _
  rw [← hW]
  clear hW
  obtain ⟨a1, a2, b1, b2⟩ := unhide HA
  refine (unhide (C1 _ (ownsRow_below a1 hb0) (ownsRow_below b1 hb0))).mono ?_
  rintro e w1 ⟨rfl, hb1⟩
  have x6 := cellIn (i := 6) (heapLater hb1 hx) rfl
  have x7 := cellIn (i := 7) (heapLater hb1 hx) rfl
  have y6 := cellIn (i := 6) (heapLater hb1 hy) rfl
  have y7 := cellIn (i := 7) (heapLater hb1 hy) rfl
  have t1 := hb0.trans (hb1.mono hb0.size)
  have R2 := hide (ownsRow_below a2 t1)
  have S2 := hide (ownsRow_below b2 t1)
  clear hx hy hb1 hb0 C1 a1 a2 b1 b2 HA
  go_wp2_with fail
  refine (unhide (C2 _ (unhide R2) (unhide S2))).mono ?_
  rintro e w2 ⟨rfl, hb2⟩
  have t2 := t1.trans (hb2.mono t1.size)
  clear x6 x7 y6 y7 hb2 t1 C2 R2 S2
  go_wp2
  go_ret
  exact ⟨rfl, t2⟩
/-- What a run's rows hold when it is marked from kk on. -/
def markR (r : RunL) (kk : Nat) : RunL := ⟨r.id, ⟨r.plan.prio, r.plan.most, r.plan.wait, r.plan.tasks, marksE kk r.plan.edges.length⟩, r.state, marksQ (kk + r.plan.edges.length * 2) r.tasks.length⟩
def sizeR (r : RunL) : Nat := r.plan.edges.length * 2 + r.tasks.length * 4
theorem rowsFar {w : World} {B B' e e' size size' n n' : Nat} {v v' : Value} {xs xs' : List Value} (h : w.ownsRow B e size v n xs) (h' : w.ownsRow B' e' size' v' n' xs') (he : e ≠ e') : v.ownBlock = none ∨ v.ownBlock ≠ v'.ownBlock := ownsRow_apart h h' he
set_option maxRecDepth 100000 in
set_option maxHeartbeats 3200000 in
theorem markRun_any (va vt : Value) (ba kk : Nat) (r : RunL) (w : World) (hA : RunOwn w ba va vt r) (hl : r.plan.edges.length ≤ 2000000) (hm : r.tasks.length ≤ 2000000) (h1 : 1 ≤ kk) (h2 : kk ≤ 15000000) :
    Calls Try.prog 30 #[runV r va vt, .int .i64 (kk : Int)] w fun e w' => e = .returned (.int .i64 ((kk + sizeR r : Nat) : Int)) ∧ w'.ownsRow ba 96 2 va r.plan.edges.length (edgesC (marksE kk r.plan.edges.length)) ∧ w'.ownsRow ba 40 4 vt r.tasks.length (quadsC (marksQ (kk + r.plan.edges.length * 2) r.tasks.length)) ∧ ∃ wm, w.grownBy wm va.ownBlock ∧ wm.grownBy w' vt.ownBlock := by
  obtain ⟨id, p, st, ts⟩ := r
  obtain ⟨a1, a2⟩ := hA
  simp only at a1 a2 hl hm
  obtain ⟨q1, k1, rfl, -⟩ := ownsRow_shape a1
  obtain ⟨q2, k2, rfl, -⟩ := ownsRow_shape a2
  have AP := rowsFar a2 a1 (by decide)
  have C1 := fun W h => hide (markPlan_any (.slice q1 p.edges.length k1) ba kk p W h hl h1 (by omega))
  have C2 := fun W h => hide (markTaskS_any (.slice q2 ts.length k2) ba (kk + p.edges.length * 2) ts W h hm (by omega) (by omega))
  have HS : Hid (kk + sizeR ⟨id, p, st, ts⟩ = kk + p.edges.length * 2 + ts.length * 4) := hide (by unfold sizeR; simp only; omega)
  obtain ⟨p1, p2, p3, p4, es⟩ := p
  unfold runV runC
  unfold planV at C1
  simp only at C1 C2 a1 a2 hl HS AP ⊢
  generalize kk + sizeR ⟨id, ⟨p1, p2, p3, p4, es⟩, st, ts⟩ = tot at HS ⊢
  rw [← unhide HS] at C2
  clear HS
  generalize marksE kk es.length = ME at C1 ⊢
  generalize marksQ (kk + es.length * 2) ts.length = MT at C2 ⊢
  generalize kk + es.length * 2 = m1 at C1 C2
  have HA := hide (And.intro a1 a2)
  clear a1 a2
  go_enter Try.func30, Try.ntmps30
  go_wp2_with fail
  obtain ⟨W, hW⟩ : ∃ W, W = w.alloc (Obj.cells #[.int .i64 id, .int .i64 p1, .int .i64 p2, .int .i64 p3, .int .i64 p4, .slice q1 es.length k1, .int .i64 st, .slice q2 ts.length k2] 29) := ⟨_, rfl⟩
  have hx : W.heap[w.heap.size]? = some (.cells #[.int .i64 id, .int .i64 p1, .int .i64 p2, .int .i64 p3, .int .i64 p4, .slice q1 es.length k1, .int .i64 st, .slice q2 ts.length k2] 29 (0, 0)) := by rw [hW]; exact heap_alloc_new _ _
  have hb0 : Below w.heap.size w W := by rw [hW]; exact (Below.refl _ _).alloc (Nat.le_refl _) _
  rw [← hW]
  clear hW
  obtain ⟨a1, a2⟩ := unhide HA
  have a1W := ownsRow_below a1 hb0
  have a2W := ownsRow_below a2 hb0
  refine (unhide (C1 _ a1W)).mono ?_
  rintro e w1 ⟨rfl, o1, g1⟩
  have hx1 := heapFar g1 a1W hx (by decide)
  have c7 := cellIn (i := 7) hx1 rfl
  have a21 := a2W.kept g1 AP
  have G1 : w.grownBy w1 (Value.slice q1 es.length k1).ownBlock := grown_trans (grown_of_below hb0) g1
  have CC := hide (unhide (C2 _ a21))
  have AP2 := apComm AP
  clear hx hx1 hb0 C1 C2 a1 a2 a1W HA g1
  go_wp2_with fail
  refine (unhide CC).mono ?_
  rintro e w2 ⟨rfl, o2, g2⟩
  have o12 := o1.kept g2 AP2
  clear c7 CC o1 a21 a2W AP AP2
  go_wp2
  go_ret
  exact ⟨rfl, o12, o2, w1, G1, g2⟩
set_option maxRecDepth 100000 in
set_option maxHeartbeats 1600000 in
theorem heldEdges_any (va : Value) (ba kk n : Nat) (w : World) (hA : w.ownsRow ba 96 2 va n (edgesC (marksE kk n))) (hl : n ≤ 2000000) (h1 : 1 ≤ kk) (h2 : kk ≤ 20000000) :
    Calls Try.prog 99 #[va, .int .i64 (kk : Int)] w fun e w' => e = .returned (.int .i64 ((kk + n * 2 : Nat) : Int)) ∧ Below w.heap.size w w' := by
  obtain ⟨aa, ca, rfl, sga⟩ := ownsRow_shape hA
  go_enter Try.func99, Try.ntmps99
  go_wp2
  go_loopw [1, 5] (fun q i wr => ∃ k : Nat, k ≤ n ∧ i = .int .i64 k ∧ q = .int .i64 ((kk + k * 2 : Nat) : Int) ∧ Below w.heap.size w wr)
    (fun _ i _ => n - (intOf i).toNat)
  case atStart => exact ⟨0, Nat.zero_le _, rfl, rfl, Below.refl _ _⟩
  case round =>
    obtain ⟨k, hk, rfl, rfl, hb⟩ := hrel
    by_cases hlt : k < n
    · obtain ⟨ga, rfl⟩ := sga (by omega)
      have hk0 : (0 : Int) ≤ (k : Int) := Int.natCast_nonneg _
      have hk1 : (k : Int) < (n : Int) := by omega
      obtain ⟨c1, c2⟩ := edgesC_cell (ownsRow_below hA hb) (k := k) (by rw [marksE_length]; exact hlt)
      have e0 : (marksE kk n)[k]'(by rw [marksE_length]; exact hlt) = markE (kk + k * 2) := by simp [marksE]
      rw [e0] at c1 c2
      unfold markE at c1 c2
      obtain ⟨m, hm⟩ : ∃ m : Nat, m = kk + k * 2 := ⟨_, rfl⟩
      rw [← hm] at c1 c2 ⊢
      simp only at c1 c2
      rw [show (((m + 1 : Nat)) : Int) = (m : Int) + 1 from by omega] at c2
      have HM := hide hm
      have hm1 : m ≤ 28000000 := by omega
      have e1 : ((m : Int) != (m : Int)) = false := by simp
      have e2 : ((m : Int) + 1 != (m : Int) + 1) = false := by simp
      clear hm sga hA e0
      go_wp2
      go_roundw
      case rel => exact ⟨k + 1, by omega, by go_num, by rw [show kk + (k + 1) * 2 = m + 2 from by have := unhide HM; omega]; go_num, hb⟩
      case measure => simp [intOf]; omega
    · have HK := hide (show k = n from by omega)
      clear sga hA
      go_wp2
      go_ret
      exact ⟨ret_int (by have := unhide HK; omega), hb⟩
set_option maxRecDepth 100000 in
set_option maxHeartbeats 1600000 in
theorem heldPlan_any (va : Value) (ba kk : Nat) (p : PlanL) (w : World) (hA : w.ownsRow ba 96 2 va p.edges.length (edgesC (marksE kk p.edges.length))) (hl : p.edges.length ≤ 2000000) (h1 : 1 ≤ kk) (h2 : kk ≤ 20000000) :
    Calls Try.prog 70 #[planV p va, .int .i64 (kk : Int)] w fun e w' => e = .returned (.int .i64 ((kk + p.edges.length * 2 : Nat) : Int)) ∧ Below w.heap.size w w' := by
  obtain ⟨p1, p2, p3, p4, es⟩ := p
  unfold planV
  simp only at hA hl ⊢
  obtain ⟨aa, ca, rfl, -⟩ := ownsRow_shape hA
  have C := fun W h => hide (heldEdges_any (.slice aa es.length ca) ba kk es.length W h hl h1 h2)
  have HA := hide hA
  clear hA
  obtain ⟨m, hm⟩ : ∃ m : Nat, m = kk + es.length * 2 := ⟨_, rfl⟩
  rw [← hm] at C ⊢
  have hm0 : decide ((m : Int) < 0) = false := decide_eq_false (by omega)
  clear hm
  go_enter Try.func70, Try.ntmps70
  go_wp2_with fail
  refine (unhide (C _ ((unhide HA).alloc _))).mono ?_
  rintro e w1 ⟨rfl, hb1⟩
  have R : Below w.heap.size w w1 := ((Below.refl _ _).alloc (Nat.le_refl _) _).trans (hb1.mono (by simp))
  clear hb1 C HA
  go_wp2
  go_ret
  exact ⟨rfl, R⟩
set_option maxRecDepth 100000 in
set_option maxHeartbeats 3200000 in
theorem heldRun_any (va vt : Value) (ba kk : Nat) (r : RunL) (w : World) (hA : w.ownsRow ba 96 2 va r.plan.edges.length (edgesC (marksE kk r.plan.edges.length))) (hT : w.ownsRow ba 40 4 vt r.tasks.length (quadsC (marksQ (kk + r.plan.edges.length * 2) r.tasks.length))) (hl : r.plan.edges.length ≤ 2000000) (hm : r.tasks.length ≤ 2000000) (h1 : 1 ≤ kk) (h2 : kk ≤ 15000000) :
    Calls Try.prog 31 #[runV r va vt, .int .i64 (kk : Int)] w fun e w' => e = .returned (.int .i64 ((kk + sizeR r : Nat) : Int)) ∧ Below w.heap.size w w' := by
  obtain ⟨id, p, st, ts⟩ := r
  simp only at hA hT hl hm
  obtain ⟨q1, k1, rfl, -⟩ := ownsRow_shape hA
  obtain ⟨q2, k2, rfl, -⟩ := ownsRow_shape hT
  have C1 := fun W h => hide (heldPlan_any (.slice q1 p.edges.length k1) ba kk p W h hl h1 (by omega))
  have C2 := fun W h => hide (heldTaskS_any (.slice q2 ts.length k2) ba (kk + p.edges.length * 2) ts.length W h hm (by omega) (by omega))
  have HS : Hid (kk + sizeR ⟨id, p, st, ts⟩ = kk + p.edges.length * 2 + ts.length * 4) := hide (by unfold sizeR; simp only; omega)
  obtain ⟨p1, p2, p3, p4, es⟩ := p
  unfold runV runC
  unfold planV at C1
  simp only at C1 C2 hA hT hl HS ⊢
  obtain ⟨tot, htot⟩ : ∃ t, t = kk + sizeR ⟨id, ⟨p1, p2, p3, p4, es⟩, st, ts⟩ := ⟨_, rfl⟩
  rw [← htot] at HS ⊢
  rw [← unhide HS] at C2
  obtain ⟨m1, hm1⟩ : ∃ m, m = kk + es.length * 2 := ⟨_, rfl⟩
  rw [← hm1] at C1 C2 hT
  have d1 : decide ((m1 : Int) < 0) = false := decide_eq_false (by omega)
  have d2 : decide ((tot : Int) < 0) = false := decide_eq_false (by omega)
  generalize marksE kk es.length = ME at C1 hA
  generalize marksQ m1 ts.length = MT at C2 hT
  have HA := hide (And.intro hA hT)
  clear HS htot hm1 hA hT
  go_enter Try.func31, Try.ntmps31
  go_wp2_with fail
  obtain ⟨W, hW⟩ : ∃ W, W = w.alloc (Obj.cells #[.int .i64 id, .int .i64 p1, .int .i64 p2, .int .i64 p3, .int .i64 p4, .slice q1 es.length k1, .int .i64 st, .slice q2 ts.length k2] 29) := ⟨_, rfl⟩
  have hx : W.heap[w.heap.size]? = some (.cells #[.int .i64 id, .int .i64 p1, .int .i64 p2, .int .i64 p3, .int .i64 p4, .slice q1 es.length k1, .int .i64 st, .slice q2 ts.length k2] 29 (0, 0)) := by rw [hW]; exact heap_alloc_new _ _
  have hb0 : Below w.heap.size w W := by rw [hW]; exact (Below.refl _ _).alloc (Nat.le_refl _) _
  rw [← hW]
  clear hW
  refine (unhide (C1 _ (ownsRow_below (unhide HA).1 hb0))).mono ?_
  rintro e w1 ⟨rfl, hb1⟩
  have c7 := cellIn (i := 7) (heapLater hb1 hx) rfl
  have t1 := hb0.trans (hb1.mono hb0.size)
  have CC := hide (unhide (C2 _ (ownsRow_below (unhide HA).2 t1)))
  clear hx hb0 hb1 C1 C2 HA
  go_wp2_with fail
  refine (unhide CC).mono ?_
  rintro e w2 ⟨rfl, hb2⟩
  have t2 := t1.trans (hb2.mono t1.size)
  clear c7 CC hb2 t1
  go_wp2
  go_ret
  exact ⟨rfl, t2⟩
end Go.Proofs.Ytnpfboligmnhpaa
