/- Runs in plain words, and the walks of the laws' own helpers over them: how much they hold, copies, whether two are alike, marks that are laid and held. -/
import Derived.Test.YtodlnhmlhpadbaaEdgeHelp
import Derived.Test.YtodlnhmlhpadbaaS4
import Derived.Test.YtodlnhmlhpadbaaS2
namespace Go.Proofs.Ytodlnhmlhpadbaa
open Go.RowKit
set_option linter.unusedVariables false
set_option linter.unusedSimpArgs false
attribute [local go_sem ↓] Go.wp_at_zero Go.wp_at_succ

/-- A run: its number, its plan, its state, its tasks. -/
structure RunL where
  id : Int
  plan : PlanL
  state : Int
  tasks : List QuadL
def runC (r : RunL) (ve vt : Value) : Array Value := #[.int .i64 r.id, .int .i64 r.plan.prio, .int .i64 r.plan.most, .int .i64 r.plan.wait, .int .i64 r.plan.tasks, ve, .int .i64 r.state, vt]
def runV (r : RunL) (ve vt : Value) : Value := .agg (runC r ve vt)
/-- Its two rows are owned. -/
structure RunOwn (w : World) (B : Nat) (ve vt : Value) (r : RunL) : Prop where
  edges : w.ownsRow B 111 2 ve r.plan.edges.length (edgesC r.plan.edges)
  tasks : w.ownsRow B 74 4 vt r.tasks.length (quadsC r.tasks)
theorem runOwn_below {w w' : World} {B : Nat} {ve vt : Value} {r : RunL} (h : RunOwn w B ve vt r) (hb : Below w.heap.size w w') : RunOwn w' B ve vt r := ⟨ownsRow_below h.edges hb, ownsRow_below h.tasks hb⟩
/-- A run that came in. -/
structure RunIn (w : World) (B : Nat) (ae at_ : Option Addr) (r : RunL) : Prop where
  edges : EdgesIn w B ae r.plan.edges
  tasks : QuadsIn w B at_ r.tasks
theorem runIn_on {w w1 : World} {ae at_ : Option Addr} {r : RunL} (h : RunIn w w.heap.size ae at_ r) (hb : Below w.heap.size w w1) : RunIn w1 w1.heap.size ae at_ r := ⟨edgesIn_on h.edges hb, quadsIn_on h.tasks hb⟩
set_option maxRecDepth 100000 in
set_option maxHeartbeats 3200000 in
theorem szRun_any (ae at_ : Option Addr) (ce ct : Nat) (r : RunL) (left : Int) (w : World) (h0 : 0 ≤ left) (h1 : left ≤ 1048576) (hn : r.plan.edges.length ≤ 9223372036854775807) (hm : r.tasks.length ≤ 9223372036854775807) :
    Calls Try.prog 69 #[runV r (.slice ae r.plan.edges.length ce) (.slice at_ r.tasks.length ct), .int .i64 left] w fun e w' => ∃ s : Int, e = .returned (.int .i64 s) ∧ s ≤ left ∧ (s = -1 ∨ (0 ≤ s ∧ r.plan.edges.length ≤ 1048576 ∧ r.tasks.length ≤ 1048576)) ∧ Below w.heap.size w w' := by
  obtain ⟨id, p, st, ts⟩ := r
  have C1 := fun W => hide (szPlan_any ae ce p left W h0 h1 hn)
  have C2 := fun (s : Int) (k0 : 0 ≤ s) (k1 : s ≤ 1048576) W => hide (szTaskS_any at_ ct ts s W k0 k1 hm)
  obtain ⟨p1, p2, p3, p4, es⟩ := p
  unfold runV runC
  unfold planV at C1
  simp only at hn hm C1 C2 ⊢
  go_enter Try.func69, Try.ntmps69
  go_wp2_with fail
  obtain ⟨W, hW⟩ : ∃ W, W = w.alloc (Obj.cells #[.int .i64 id, .int .i64 p1, .int .i64 p2, .int .i64 p3, .int .i64 p4, .slice ae es.length ce, .int .i64 st, .slice at_ ts.length ct] 97) := ⟨_, rfl⟩
  have hx : W.heap[w.heap.size]? = some (.cells #[.int .i64 id, .int .i64 p1, .int .i64 p2, .int .i64 p3, .int .i64 p4, .slice ae es.length ce, .int .i64 st, .slice at_ ts.length ct] 97 (0, 0)) := by rw [hW]; exact heap_alloc_new _ _
  have hb0 : Below w.heap.size w W := by rw [hW]; exact (Below.refl _ _).alloc (Nat.le_refl _) _
  rw [← hW]
  clear hW
  refine (unhide (C1 _)).mono ?_
  rintro e w1 ⟨s1, rfl, hs1, hc1, hb1⟩
  have c7 := cellIn (i := 7) (heapLater hb1 hx) rfl
  have t1 := hb0.trans (hb1.mono hb0.size)
  clear hx hb1 hb0 C1
  rcases hc1 with rfl | ⟨g0, g1⟩
  · clear c7 C2
    go_wp2
    go_ret
    exact ⟨-1, rfl, by omega, .inl rfl, t1⟩
  · have d0 : decide (s1 < 0) = false := decide_eq_false (by omega)
    have C3 := C2 s1 g0 (by omega)
    clear C2
    go_wp2_with fail
    refine (unhide (C3 _)).mono ?_
    rintro e w2 ⟨s2, rfl, hs2, hc2, hb2⟩
    have t2 := t1.trans (hb2.mono t1.size)
    clear hb2 t1 c7 C3
    rcases hc2 with rfl | ⟨k0, k1⟩
    · go_wp2
      go_ret
      exact ⟨-1, rfl, by omega, .inl rfl, t2⟩
    · have d1 : decide (s2 < 0) = false := decide_eq_false (by omega)
      go_wp2
      go_ret
      exact ⟨s2, rfl, by omega, .inr ⟨k0, g1, k1⟩, t2⟩
set_option maxRecDepth 100000 in
set_option maxHeartbeats 3200000 in
theorem eqRun_any (va vt vb vu : Value) (ba bb : Nat) (r : RunL) (w : World) (hA : RunOwn w ba va vt r) (hB : RunOwn w bb vb vu r) (hl : r.plan.edges.length ≤ 2000000) (hm : r.tasks.length ≤ 2000000) :
    Calls Try.prog 62 #[runV r va vt, runV r vb vu] w fun e w' => e = .returned (.bool true) ∧ Below w.heap.size w w' := by
  obtain ⟨id, p, st, ts⟩ := r
  obtain ⟨a1, a2⟩ := hA
  obtain ⟨b1, b2⟩ := hB
  simp only at a1 a2 b1 b2 hl hm
  obtain ⟨q1, k1, rfl, -⟩ := ownsRow_shape a1
  obtain ⟨q2, k2, rfl, -⟩ := ownsRow_shape a2
  obtain ⟨q3, k3, rfl, -⟩ := ownsRow_shape b1
  obtain ⟨q4, k4, rfl, -⟩ := ownsRow_shape b2
  have C1 := fun W h h' => hide (eqPlan_any (.slice q1 p.edges.length k1) (.slice q3 p.edges.length k3) ba bb p W h h' hl)
  have C2 := fun W h h' => hide (eqTaskS_any (.slice q2 ts.length k2) (.slice q4 ts.length k4) ba bb ts W h h' hm)
  obtain ⟨p1, p2, p3, p4, es⟩ := p
  unfold runV runC
  unfold planV at C1
  simp only at C1 C2 a1 b1 hl ⊢
  have i1 : (id != id) = false := by simp
  have i2 : (st != st) = false := by simp
  have HA := hide (And.intro a1 (And.intro a2 (And.intro b1 b2)))
  clear a1 a2 b1 b2
  go_enter Try.func62, Try.ntmps62
  go_wp2_with fail
  obtain ⟨W, hW⟩ : ∃ W, W = (w.alloc (Obj.cells #[.int .i64 id, .int .i64 p1, .int .i64 p2, .int .i64 p3, .int .i64 p4, .slice q1 es.length k1, .int .i64 st, .slice q2 ts.length k2] 65)).alloc (Obj.cells #[.int .i64 id, .int .i64 p1, .int .i64 p2, .int .i64 p3, .int .i64 p4, .slice q3 es.length k3, .int .i64 st, .slice q4 ts.length k4] 65) := ⟨_, rfl⟩
  have hx : W.heap[w.heap.size]? = some (.cells #[.int .i64 id, .int .i64 p1, .int .i64 p2, .int .i64 p3, .int .i64 p4, .slice q1 es.length k1, .int .i64 st, .slice q2 ts.length k2] 65 (0, 0)) := by rw [hW, Below.heap_alloc _ _ _ (by simp)]; exact heap_alloc_new _ _
  have hy : W.heap[w.heap.size + 1]? = some (.cells #[.int .i64 id, .int .i64 p1, .int .i64 p2, .int .i64 p3, .int .i64 p4, .slice q3 es.length k3, .int .i64 st, .slice q4 ts.length k4] 65 (0, 0)) := by rw [hW]; exact allocAt _ _ _ (by simp)
  have hb0 : Below w.heap.size w W := by rw [hW]; exact ((Below.refl _ _).alloc (Nat.le_refl _) _).alloc (by simp) _
  rw [← hW]
  clear hW
  obtain ⟨a1, a2, b1, b2⟩ := unhide HA
  refine (unhide (C1 _ (ownsRow_below a1 hb0) (ownsRow_below b1 hb0))).mono ?_
  rintro e w1 ⟨rfl, hb1⟩
  have x6 := cellIn (i := 6) (heapLater hb1 hx) rfl
  have x7 := cellIn (i := 7) (heapLater hb1 hx) rfl
  have y6 := cellIn (i := 6) (heapLater hb1 hy) rfl
  have y7 := cellIn (i := 7) (heapLater hb1 hy) rfl
  have t1 := hb0.trans (hb1.mono hb0.size)
  have R2 := hide (ownsRow_below a2 t1)
  have S2 := hide (ownsRow_below b2 t1)
  clear hx hy hb1 hb0 C1 a1 a2 b1 b2 HA
  go_wp2_with fail
  refine (unhide (C2 _ (unhide R2) (unhide S2))).mono ?_
  rintro e w2 ⟨rfl, hb2⟩
  have t2 := t1.trans (hb2.mono t1.size)
  clear x6 x7 y6 y7 hb2 t1 C2 R2 S2
  go_wp2
  go_ret
  exact ⟨rfl, t2⟩
/-- What a run's rows hold when it is marked from kk on. -/
def markR (r : RunL) (kk : Nat) : RunL := ⟨r.id, ⟨r.plan.prio, r.plan.most, r.plan.wait, r.plan.tasks, marksE kk r.plan.edges.length⟩, r.state, marksQ (kk + r.plan.edges.length * 2) r.tasks.length⟩
def sizeR (r : RunL) : Nat := r.plan.edges.length * 2 + r.tasks.length * 4
theorem rowsFar {w : World} {B B' e e' size size' n n' : Nat} {v v' : Value} {xs xs' : List Value} (h : w.ownsRow B e size v n xs) (h' : w.ownsRow B' e' size' v' n' xs') (he : e ≠ e') : v.ownBlock = none ∨ v.ownBlock ≠ v'.ownBlock := ownsRow_apart h h' he
set_option maxRecDepth 100000 in
set_option maxHeartbeats 1600000 in
theorem heldEdges_any (va : Value) (ba kk n : Nat) (w : World) (hA : w.ownsRow ba 111 2 va n (edgesC (marksE kk n))) (hl : n ≤ 2000000) (h1 : 1 ≤ kk) (h2 : kk ≤ 20000000) :
    Calls Try.prog 65 #[va, .int .i64 (kk : Int)] w fun e w' => e = .returned (.int .i64 ((kk + n * 2 : Nat) : Int)) ∧ Below w.heap.size w w' := by
  obtain ⟨aa, ca, rfl, sga⟩ := ownsRow_shape hA
  go_enter Try.func65, Try.ntmps65
  go_wp2
  go_loopw [1, 5] (fun q i wr => ∃ k : Nat, k ≤ n ∧ i = .int .i64 k ∧ q = .int .i64 ((kk + k * 2 : Nat) : Int) ∧ Below w.heap.size w wr)
    (fun _ i _ => n - (intOf i).toNat)
  case atStart => exact ⟨0, Nat.zero_le _, rfl, rfl, Below.refl _ _⟩
  case round =>
    obtain ⟨k, hk, rfl, rfl, hb⟩ := hrel
    by_cases hlt : k < n
    · obtain ⟨ga, rfl⟩ := sga (by omega)
      have hk0 : (0 : Int) ≤ (k : Int) := Int.natCast_nonneg _
      have hk1 : (k : Int) < (n : Int) := by omega
      obtain ⟨c1, c2⟩ := edgesC_cell (ownsRow_below hA hb) (k := k) (by rw [marksE_length]; exact hlt)
      have e0 : (marksE kk n)[k]'(by rw [marksE_length]; exact hlt) = markE (kk + k * 2) := by simp [marksE]
      rw [e0] at c1 c2
      unfold markE at c1 c2
      obtain ⟨m, hm⟩ : ∃ m : Nat, m = kk + k * 2 := ⟨_, rfl⟩
      rw [← hm] at c1 c2 ⊢
      simp only at c1 c2
      rw [show (((m + 1 : Nat)) : Int) = (m : Int) + 1 from by omega] at c2
      have HM := hide hm
      have hm1 : m ≤ 28000000 := by omega
      have e1 : ((m : Int) != (m : Int)) = false := by simp
      have e2 : ((m : Int) + 1 != (m : Int) + 1) = false := by simp
      clear hm sga hA e0
      go_wp2
      go_roundw
      case rel => exact ⟨k + 1, by omega, by go_num, by rw [show kk + (k + 1) * 2 = m + 2 from by have := unhide HM; omega]; go_num, hb⟩
      case measure => simp [intOf]; omega
    · have HK := hide (show k = n from by omega)
      clear sga hA
      go_wp2
      go_ret
      exact ⟨ret_int (by have := unhide HK; omega), hb⟩
end Go.Proofs.Ytodlnhmlhpadbaa

/- What is found by going from task to task: those that are reached, and no other. Nothing here speaks of the program. -/
namespace Go.Proofs.Ytodlnhmlhpadbaa
open Go.RowKit
set_option linter.unusedVariables false

/-- Bools as the cells of a row. -/
def boolC (bs : List Bool) : List Value := bs.map (fun b => .bool b)
theorem boolC_length (bs : List Bool) : (boolC bs).length = bs.length := by simp [boolC]
theorem boolC_set (bs : List Bool) (k : Nat) (b : Bool) : (boolC bs).set k (.bool b) = boolC (bs.set k b) := by simp [boolC, List.map_set]
theorem boolC_cell {w : World} {base n g cap k : Nat} {e : TypeId} {bs : List Bool} (h : w.ownsRow base e 1 (.slice (some ⟨g, 0, none⟩) n cap) n (boolC bs)) (hn : n = bs.length) (hk : k < bs.length) : w.cell? ⟨g, k, none⟩ = some (.bool bs[k]) := by
  subst hn
  rw [h.cellAt k (by omega)]
  simp [boolC, hk]
/-- How many are true. -/
def trues (bs : List Bool) : Nat := bs.countP id
theorem trues_le (bs : List Bool) : trues bs ≤ bs.length := List.countP_le_length
theorem trues_set : ∀ (bs : List Bool) (k : Nat) (h : k < bs.length), bs[k] = false → trues (bs.set k true) = trues bs + 1
  | b :: r, 0, _, h => by
    have hb : b = false := h
    subst hb
    simp [trues]
  | b :: r, k + 1, hk, h => by
    have := trues_set r k (by simpa using hk) (by simpa using h)
    unfold trues at this ⊢
    rw [List.set_cons_succ, List.countP_cons, List.countP_cons, this]
    omega
/-- What holds while tasks are gone through: out tells which are found, ls lists them behind the first. -/
structure Bfs (es : List EdgeL) (a : Int) (out : List Bool) (ls : List Int) : Prop where
  first : a ∈ ls
  sound : ∀ (t : Nat) (h : t < out.length), out[t] = true → Reach es a (t : Int)
  inl : ∀ x ∈ ls, x = a ∨ Reach es a x
  cover : ∀ (t : Nat) (h : t < out.length), out[t] = true → (t : Int) ∈ ls
  count : ls.length = 1 + trues out
/-- All edges of the first h that are listed have been gone. -/
def Gone (es : List EdgeL) (out : List Bool) (ls : List Int) (h : Nat) : Prop := ∀ (j : Nat) (hj : j < ls.length), j < h → ∀ e ∈ es, e.fr = ls[j] → ∃ ht : e.dst.toNat < out.length, out[e.dst.toNat] = true
/-- And of the next one the first i edges. -/
def GoneAt (es : List EdgeL) (out : List Bool) (x : Int) (i : Nat) : Prop := ∀ (k : Nat) (hk : k < es.length), k < i → (es[k]).fr = x → ∃ ht : (es[k]).dst.toNat < out.length, out[(es[k]).dst.toNat] = true
theorem bfs_start (es : List EdgeL) (a : Int) (n : Nat) : Bfs es a (List.replicate n false) [a] := by
  refine ⟨by simp, fun t h ht => ?_, fun x hx => .inl (by simpa using hx), fun t h ht => ?_, ?_⟩
  · simp at ht
  · simp at ht
  · simp [trues, List.countP_replicate]
theorem bfs_bound {es : List EdgeL} {a : Int} {out : List Bool} {ls : List Int} (h : Bfs es a out ls) : ls.length ≤ 1 + out.length := by
  have := trues_le out
  have := h.count
  omega
theorem bfs_step {es : List EdgeL} {a : Int} {out : List Bool} {ls : List Int} (h : Bfs es a out ls) {e : EdgeL} (he : e ∈ es) (hf : e.fr ∈ ls) {d : Nat} (hd : e.dst = (d : Int)) (hdl : d < out.length) (hno : out[d] = false) : Bfs es a (out.set d true) (ls ++ [e.dst]) := by
  have hr : Reach es a e.dst := by
    rcases h.inl _ hf with hx | hx
    · exact ⟨0, e, he, hx, rfl⟩
    · exact reach_more hx he
  refine ⟨List.mem_append_left _ h.first, fun t ht hb => ?_, fun x hx => ?_, fun t ht hb => ?_, ?_⟩
  · by_cases e1 : t = d
    · subst e1; rw [← hd]; exact hr
    · have ht' : t < out.length := by simpa using ht
      rw [List.getElem_set_ne (by omega)] at hb
      exact h.sound t ht' hb
  · rcases List.mem_append.1 hx with h1 | h1
    · exact h.inl x h1
    · rw [List.mem_singleton.1 h1]; exact .inr hr
  · by_cases e1 : t = d
    · subst e1; rw [← hd]; exact List.mem_append_right _ (List.mem_singleton.2 rfl)
    · have ht' : t < out.length := by simpa using ht
      rw [List.getElem_set_ne (by omega)] at hb
      exact List.mem_append_left _ (h.cover t ht' hb)
  · rw [List.length_append, trues_set out d hdl hno, h.count]; simp; omega
theorem true_later {out : List Bool} {d : Nat} {x : Nat} (h : ∃ ht : x < out.length, out[x] = true) : ∃ ht : x < (out.set d true).length, (out.set d true)[x] = true := by
  obtain ⟨h1, h2⟩ := h
  refine ⟨by simpa using h1, ?_⟩
  rw [List.getElem_set]
  split
  · rfl
  · exact h2
theorem gone_step {es : List EdgeL} {out : List Bool} {ls : List Int} {h : Nat} (hg : Gone es out ls h) (hl : h ≤ ls.length) (d : Nat) (x : Int) : Gone es (out.set d true) (ls ++ [x]) h := fun j hj hjh e he hf => by
  have hj' : j < ls.length := by omega
  rw [List.getElem_append_left hj'] at hf
  exact true_later (hg j hj' hjh e he hf)
theorem goneAt_step {es : List EdgeL} {out : List Bool} {x : Int} {i : Nat} (hg : GoneAt es out x i) (d : Nat) : GoneAt es (out.set d true) x i := fun k hk hki hf => true_later (hg k hk hki hf)
/-- One edge more is gone. -/
theorem goneAt_next {es : List EdgeL} {out : List Bool} {x : Int} {i : Nat} (hg : GoneAt es out x i) (hi : i < es.length) (h : (es[i]).fr = x → ∃ ht : (es[i]).dst.toNat < out.length, out[(es[i]).dst.toNat] = true) : GoneAt es out x (i + 1) := fun k hk hki hf => by
  by_cases e : k = i
  · subst e; exact h hf
  · exact hg k hk (by omega) hf
/-- One task more is gone. -/
theorem gone_next {es : List EdgeL} {out : List Bool} {ls : List Int} {h : Nat} (hg : Gone es out ls h) (hh : h < ls.length) (ha : GoneAt es out ls[h] es.length) : Gone es out ls (h + 1) := fun j hj hjh e he hf => by
  by_cases e1 : j = h
  · subst e1
    obtain ⟨k, hk, rfl⟩ := List.mem_iff_getElem.1 he
    exact ha k hk hk hf
  · exact hg j hj (by omega) e he hf
/-- At the end out tells who is reached. -/
theorem bfs_end {es : List EdgeL} {a : Int} {out : List Bool} {ls : List Int} (h : Bfs es a out ls) (hg : Gone es out ls ls.length) (hin : ∀ e ∈ es, 0 ≤ e.fr ∧ 0 ≤ e.dst) (t : Nat) (ht : t < out.length) : out[t] = true ↔ Reach es a (t : Int) := by
  refine ⟨h.sound t ht, fun hr => ?_⟩
  have listed : ∀ x ∈ ls, ∀ e ∈ es, e.fr = x → ∃ hq : e.dst.toNat < out.length, out[e.dst.toNat] = true := fun x hx e he hf => by
    obtain ⟨j, hj, rfl⟩ := List.mem_iff_getElem.1 hx
    exact hg j hj hj e he hf
  have key : ∃ hq : (t : Int).toNat < out.length, out[(t : Int).toNat] = true := by
    refine reach_closed (P := fun x => ∃ hq : x.toNat < out.length, out[x.toNat] = true) (fun e he hf => listed a h.first e he hf) (fun e he hp => ?_) hr
    obtain ⟨hq, hb⟩ := hp
    have hm := h.cover _ hq hb
    rw [Int.toNat_of_nonneg (hin e he).1] at hm
    exact listed _ hm e he rfl
  obtain ⟨hq, hb⟩ := key
  simpa using hb
end Go.Proofs.Ytodlnhmlhpadbaa

/- A list of ints that came in, a copy of it in new memory; the laws' own helpers over rows of ints: equal rows, marks that are laid and held. -/
namespace Go.Proofs.Ytodlnhmlhpadbaa
open Go.RowKit
set_option linter.unusedVariables false
attribute [local go_sem ↓] Go.wp_at_zero Go.wp_at_succ

/-- Ints as the cells of a row. -/
def intC (zs : List Int) : List Value := zs.map (fun z => .int .i64 z)
theorem intC_length (zs : List Int) : (intC zs).length = zs.length := by simp [intC]
theorem intC_append (a b : List Int) : intC (a ++ b) = intC a ++ intC b := by simp [intC]
theorem intC_get (zs : List Int) (k : Nat) (h : k < zs.length) : (intC zs)[k]? = some (.int .i64 zs[k]) := by simp [intC, h]
theorem intC_set (zs : List Int) (k : Nat) (z : Int) : (intC zs).set k (.int .i64 z) = intC (zs.set k z) := by simp [intC, List.map_set]
theorem intC_cell {w : World} {base n g cap k : Nat} {zs : List Int} (h : w.ownsRow base 3 1 (.slice (some ⟨g, 0, none⟩) n cap) n (intC zs)) (hn : n = zs.length) (hk : k < zs.length) : w.cell? ⟨g, k, none⟩ = some (.int .i64 zs[k]) := by
  subst hn
  rw [h.cellAt k (by omega)]
  exact intC_get zs k hk
theorem info3 : (Try.prog.info? 3).map (fun i => (i.zero, i.size, i.bytes)) = some (some (.int .i64 0), 1, 8) := by kernel_rfl
/-- Ints that came in: each lies in memory below block B. -/
def IntsIn (w : World) (B : Nat) (a : Option Addr) (zs : List Int) : Prop :=
  ∀ (j : Nat) (hj : j < zs.length), ∃ (b off : Nat), a = some ⟨b, off, none⟩ ∧ b < B ∧ w.cell? ⟨b, off + j, none⟩ = some (.int .i64 zs[j])
theorem intsIn_below {w w' : World} {B : Nat} {a : Option Addr} {zs : List Int} (h : IntsIn w B a zs) (hb : Below B w w') : IntsIn w' B a zs :=
  fun j hj => by
    obtain ⟨b, off, ha, hB, hc⟩ := h j hj
    exact ⟨b, off, ha, hB, by rw [hb.cell (p := ⟨b, off + j, none⟩) hB]; exact hc⟩
theorem intsIn_on {w w1 : World} {a : Option Addr} {zs : List Int} (h : IntsIn w w.heap.size a zs) (hb : Below w.heap.size w w1) : IntsIn w1 w1.heap.size a zs := fun j hj => by
  obtain ⟨b, off, h1, h2, h3⟩ := intsIn_below h hb j hj
  exact ⟨b, off, h1, Nat.lt_of_lt_of_le h2 hb.size, h3⟩
/-- A copy of the first k ints, the other places 0. -/
def partI (zs : List Int) (k : Nat) : List Int := zs.take k ++ List.replicate (zs.length - k) 0
theorem partI_length (zs : List Int) (k : Nat) : (partI zs k).length = zs.length := by unfold partI; simp; omega
theorem partI_all (zs : List Int) (k : Nat) (h : ¬ k < zs.length) : partI zs k = zs := by
  unfold partI; rw [List.take_of_length_le (by omega), show zs.length - k = 0 from by omega]; simp
theorem partI_zero (zs : List Int) : intC (partI zs 0) = List.replicate zs.length (.int .i64 0) := by simp [partI, intC]
theorem partI_set (zs : List Int) (k : Nat) (h : k < zs.length) : (partI zs k).set k zs[k] = partI zs (k + 1) := by
  unfold partI
  obtain ⟨r, hr⟩ : ∃ r, zs.length - k = r + 1 := ⟨zs.length - k - 1, by omega⟩
  have hl : (zs.take k).length = k := by simp; omega
  rw [hr, show zs.length - (k + 1) = r from by omega, List.take_succ_eq_append_getElem h, List.replicate_succ, List.set_append_right _ _ (by omega), hl, Nat.sub_self, List.set_cons_zero, List.append_assoc]
  rfl
/-- The ints that a row holds when it is marked from kk on. -/
def marksI (kk n : Nat) : List Int := (List.range n).map fun t => ((kk + t : Nat) : Int)
theorem marksI_length (kk n : Nat) : (marksI kk n).length = n := by simp [marksI]
theorem marksI_succ (kk n : Nat) : marksI kk (n + 1) = marksI kk n ++ [((kk + n : Nat) : Int)] := by simp [marksI, List.range_succ]
theorem marksI_get (kk n k : Nat) (h : k < (marksI kk n).length) : (marksI kk n)[k] = ((kk + k : Nat) : Int) := by simp [marksI]
theorem marksI_set (kk j : Nat) (ps : List Int) (hj : j < ps.length) : (marksI kk j ++ ps.drop j).set j ((kk + j : Nat) : Int) = marksI kk (j + 1) ++ ps.drop (j + 1) := by
  rw [List.set_append_right _ _ (by rw [marksI_length]; exact Nat.le_refl _), marksI_length, Nat.sub_self, List.drop_eq_getElem_cons hj, List.set_cons_zero, marksI_succ, List.append_assoc]
  rfl
end Go.Proofs.Ytodlnhmlhpadbaa
