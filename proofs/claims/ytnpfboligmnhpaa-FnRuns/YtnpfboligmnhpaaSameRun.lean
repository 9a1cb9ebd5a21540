/- The walks of the laws' sameTasks, sameEdges, samePlan, sameRun: runs that are alike. -/
import Derived.Test.YtnpfboligmnhpaaRunHelp
import Derived.Laws.StructEq
import Derived.Deep.RegionHeld3
namespace Go.Proofs.Ytnpfboligmnhpaa
open Go.RowKit
set_option linter.unusedVariables false
set_option linter.unusedSimpArgs false
attribute [local go_sem ↓] Go.wp_at_zero Go.wp_at_succ

theorem undTask : Try.prog.underlying 40 = some (.struct (Try.prog.fieldsOf 40)) := by kernel_rfl
theorem stoodTask : Try.prog.stoodInHeld 40 = false := by kernel_rfl
theorem guardTask : Try.prog.eqGuardType Try.prog.depth 40 = false := by kernel_rfl
theorem undIntT : Try.prog.underlying 3 = some (.int .i64) := by kernel_rfl
theorem fldTask : (Try.prog.fieldsOf 40).toList.map (fun f => (f.name, f.type, f.offset)) = [("State", 3, 0), ("Need", 3, 1), ("Try", 3, 2), ("Until", 3, 3)] := by kernel_rfl
theorem partT_int (w : World) (cs : Array Value) (off : Nat) (v : Value) (h : cs[off]? = some v) : (part 3 cs off).run Try.prog w = .ok v w := by
  have : (isAgg 3).run Try.prog w = .ok false w := by
    unfold isAgg
    rw [Sem.run_bind, run_underlying undIntT w]
    rfl
  simp [part, Sem.run_bind, this, h]
theorem fldsT : ∃ f g h k : Field, (Try.prog.fieldsOf 40) = #[f, g, h, k] ∧ (f.name = "State" ∧ f.type = 3 ∧ f.offset = 0) ∧ (g.name = "Need" ∧ g.type = 3 ∧ g.offset = 1) ∧ (h.name = "Try" ∧ h.type = 3 ∧ h.offset = 2) ∧ (k.name = "Until" ∧ k.type = 3 ∧ k.offset = 3) := by
  have e := fldTask
  generalize Try.prog.fieldsOf 40 = A at e
  obtain ⟨l⟩ := A
  rcases l with _ | ⟨f, _ | ⟨g, _ | ⟨h, _ | ⟨k, _ | ⟨x, r⟩⟩⟩⟩⟩
  · simp at e
  · simp at e
  · simp at e
  · simp at e
  · simp at e
    exact ⟨f, g, h, k, rfl, e.1, e.2.1, e.2.2.1, e.2.2.2⟩
  · simp at e
theorem task_self (x : QuadL) (w : World) : (Go.Op.equalIn 10000 40 (quadV x) (quadV x)).run Try.prog w = .ok true w := by
  obtain ⟨f, g, h, k, hA, ⟨f1, f2, f3⟩, ⟨g1, g2, g3⟩, ⟨h1, h2, h3⟩, ⟨k1, k2, k3⟩⟩ := fldsT
  show (Go.Op.equalIn (9999 + 1) 40 (quadV x) (quadV x)).run Try.prog w = _
  unfold quadV
  rw [run_equalIn_struct w 9999 _ _ _ undTask stoodTask, hA]
  have ei : ∀ a : Int, (Go.Op.equalIn 9999 3 (.int .i64 a) (.int .i64 a)).run Try.prog w = .ok true w := fun a => by
    have := run_equalIn_int (P := Try.prog) w 9998 3 .i64 .i64 a a undIntT
    simpa using this
  have p0 : (part 3 #[.int .i64 x.a, .int .i64 x.b, .int .i64 x.c, .int .i64 x.d] 0).run Try.prog w = .ok (.int .i64 x.a) w := partT_int w _ _ _ rfl
  have p1 : (part 3 #[.int .i64 x.a, .int .i64 x.b, .int .i64 x.c, .int .i64 x.d] 1).run Try.prog w = .ok (.int .i64 x.b) w := partT_int w _ _ _ rfl
  have p2 : (part 3 #[.int .i64 x.a, .int .i64 x.b, .int .i64 x.c, .int .i64 x.d] 2).run Try.prog w = .ok (.int .i64 x.c) w := partT_int w _ _ _ rfl
  have p3 : (part 3 #[.int .i64 x.a, .int .i64 x.b, .int .i64 x.c, .int .i64 x.d] 3).run Try.prog w = .ok (.int .i64 x.d) w := partT_int w _ _ _ rfl
  simp only [Go.Op.eqFields, f1, f2, f3, g1, g2, g3, h1, h2, h3, k1, k2, k3]
  simp [Sem.run_bind, p0, p1, p2, p3, ei]
set_option maxRecDepth 100000 in
set_option maxHeartbeats 3200000 in
theorem sameTasks_any (va vb : Value) (ba bb : Nat) (es : List QuadL) (w : World) (hA : w.ownsRow ba 40 4 va es.length (quadsC es)) (hB : w.ownsRow bb 40 4 vb es.length (quadsC es)) (hl : es.length ≤ 2000000) :
    Calls Try.prog 53 #[va, vb] w fun e w' => e = .returned (.bool true) ∧ Below w.heap.size w w' := by
  obtain ⟨aa, ca, rfl, sga⟩ := ownsRow_shape hA
  obtain ⟨ab, cb, rfl, sgb⟩ := ownsRow_shape hB
  have hne : ((es.length : Int) != (es.length : Int)) = false := by simp
  go_enter Try.func53, Try.ntmps53
  go_wp2
  go_loopw [5] (fun i wr => ∃ k : Nat, k ≤ es.length ∧ i = .int .i64 k ∧ Below w.heap.size w wr)
    (fun i _ => es.length - (intOf i).toNat)
  case atStart => exact ⟨0, Nat.zero_le _, rfl, Below.refl _ _⟩
  case round =>
    obtain ⟨k, hk, rfl, hb⟩ := hrel
    have hsz := hb.size
    by_cases hlt : k < es.length
    · obtain ⟨ga, rfl⟩ := sga (by omega)
      obtain ⟨gb, rfl⟩ := sgb (by omega)
      have hk0 : (0 : Int) ≤ (k : Int) := Int.natCast_nonneg _
      have hk1 : (k : Int) < (es.length : Int) := by omega
      obtain ⟨c1, c2, c3, c4⟩ := quadsC_cell (ownsRow_below hA hb) hlt
      obtain ⟨d1, d2, d3, d4⟩ := quadsC_cell (ownsRow_below hB hb) hlt
      generalize es[k] = p at c1 c2 c3 c4 d1 d2 d3 d4
      have hself := fun W => task_self p W
      have hgd := guardTask
      unfold quadV at hself
      clear hA hB sga sgb
      go_wp2_with fail
      go_region_held3 (fun w' => w'.cell? ⟨ga, k * 4, none⟩ = some (.int .i64 p.a) ∧ w'.cell? ⟨ga, k * 4 + 1, none⟩ = some (.int .i64 p.b) ∧ w'.cell? ⟨ga, k * 4 + 2, none⟩ = some (.int .i64 p.c) ∧ w'.cell? ⟨ga, k * 4 + 3, none⟩ = some (.int .i64 p.d) ∧ w'.cell? ⟨gb, k * 4, none⟩ = some (.int .i64 p.a) ∧ w'.cell? ⟨gb, k * 4 + 1, none⟩ = some (.int .i64 p.b) ∧ w'.cell? ⟨gb, k * 4 + 2, none⟩ = some (.int .i64 p.c) ∧ w'.cell? ⟨gb, k * 4 + 3, none⟩ = some (.int .i64 p.d)) (go_keep) (fail)
      all_goals
        have R : Below w.heap.size w wr.drew := hb.drew
        clear hb c1 c2 c3 c4 d1 d2 d3 d4 hself hgd
        go_wp2
        go_roundw
        case rel => exact ⟨k + 1, by omega, by go_num, R⟩
        case measure => simp [intOf]; omega
    · clear sga sgb hA hB
      go_wp2
      go_ret
      exact ⟨rfl, hb⟩
theorem undEdgeS : Try.prog.underlying 96 = some (.struct (Try.prog.fieldsOf 96)) := by kernel_rfl
theorem stoodEdgeS : Try.prog.stoodInHeld 96 = false := by kernel_rfl
theorem guardEdgeS : Try.prog.eqGuardType Try.prog.depth 96 = false := by kernel_rfl
theorem fldEdgeS : (Try.prog.fieldsOf 96).toList.map (fun f => (f.name, f.type, f.offset)) = [("From", 3, 0), ("To", 3, 1)] := by kernel_rfl
theorem fldsEd : ∃ f g : Field, (Try.prog.fieldsOf 96) = #[f, g] ∧ (f.name = "From" ∧ f.type = 3 ∧ f.offset = 0) ∧ (g.name = "To" ∧ g.type = 3 ∧ g.offset = 1) := by
  have e := fldEdgeS
  generalize Try.prog.fieldsOf 96 = A at e
  obtain ⟨l⟩ := A
  rcases l with _ | ⟨f, _ | ⟨g, _ | ⟨x, r⟩⟩⟩
  · simp at e
  · simp at e
  · simp at e
    exact ⟨f, g, rfl, e.1, e.2⟩
  · simp at e
theorem edge_self (x : EdgeL) (w : World) : (Go.Op.equalIn 10000 96 (edgeV x) (edgeV x)).run Try.prog w = .ok true w := by
  obtain ⟨f, g, hA, ⟨f1, f2, f3⟩, ⟨g1, g2, g3⟩⟩ := fldsEd
  show (Go.Op.equalIn (9999 + 1) 96 (edgeV x) (edgeV x)).run Try.prog w = _
  unfold edgeV
  rw [run_equalIn_struct w 9999 _ _ _ undEdgeS stoodEdgeS, hA]
  have ei : ∀ a : Int, (Go.Op.equalIn 9999 3 (.int .i64 a) (.int .i64 a)).run Try.prog w = .ok true w := fun a => by
    have := run_equalIn_int (P := Try.prog) w 9998 3 .i64 .i64 a a undIntT
    simpa using this
  have p0 : (part 3 #[.int .i64 x.fr, .int .i64 x.dst] 0).run Try.prog w = .ok (.int .i64 x.fr) w := partT_int w _ _ _ rfl
  have p1 : (part 3 #[.int .i64 x.fr, .int .i64 x.dst] 1).run Try.prog w = .ok (.int .i64 x.dst) w := partT_int w _ _ _ rfl
  simp only [Go.Op.eqFields, f1, f2, f3, g1, g2, g3]
  simp [Sem.run_bind, p0, p1, ei]
set_option maxRecDepth 100000 in
set_option maxHeartbeats 3200000 in
theorem sameEdges_any (va vb : Value) (ba bb : Nat) (es : List EdgeL) (w : World) (hA : w.ownsRow ba 96 2 va es.length (edgesC es)) (hB : w.ownsRow bb 96 2 vb es.length (edgesC es)) (hl : es.length ≤ 2000000) :
    Calls Try.prog 93 #[va, vb] w fun e w' => e = .returned (.bool true) ∧ Below w.heap.size w w' := by
  obtain ⟨aa, ca, rfl, sga⟩ := ownsRow_shape hA
  obtain ⟨ab, cb, rfl, sgb⟩ := ownsRow_shape hB
  have hne : ((es.length : Int) != (es.length : Int)) = false := by simp
  go_enter Try.func93, Try.ntmps93
  go_wp2
  go_loopw [5] (fun i wr => ∃ k : Nat, k ≤ es.length ∧ i = .int .i64 k ∧ Below w.heap.size w wr)
    (fun i _ => es.length - (intOf i).toNat)
  case atStart => exact ⟨0, Nat.zero_le _, rfl, Below.refl _ _⟩
  case round =>
    obtain ⟨k, hk, rfl, hb⟩ := hrel
    have hsz := hb.size
    by_cases hlt : k < es.length
    · obtain ⟨ga, rfl⟩ := sga (by omega)
      obtain ⟨gb, rfl⟩ := sgb (by omega)
      have hk0 : (0 : Int) ≤ (k : Int) := Int.natCast_nonneg _
      have hk1 : (k : Int) < (es.length : Int) := by omega
      obtain ⟨c1, c2⟩ := edgesC_cell (ownsRow_below hA hb) hlt
      obtain ⟨d1, d2⟩ := edgesC_cell (ownsRow_below hB hb) hlt
      generalize es[k] = p at c1 c2 d1 d2
      have hself := fun W => edge_self p W
      have hgd := guardEdgeS
      unfold edgeV at hself
      clear hA hB sga sgb
      go_wp2_with fail
      go_region_held3 (fun w' => w'.cell? ⟨ga, k * 2, none⟩ = some (.int .i64 p.fr) ∧ w'.cell? ⟨ga, k * 2 + 1, none⟩ = some (.int .i64 p.dst) ∧ w'.cell? ⟨gb, k * 2, none⟩ = some (.int .i64 p.fr) ∧ w'.cell? ⟨gb, k * 2 + 1, none⟩ = some (.int .i64 p.dst)) (go_keep) (fail)
      all_goals
        have R : Below w.heap.size w wr.drew := hb.drew
        clear hb c1 c2 d1 d2 hself hgd
        go_wp2
        go_roundw
        case rel => exact ⟨k + 1, by omega, by go_num, R⟩
        case measure => simp [intOf]; omega
    · clear sga sgb hA hB
      go_wp2
      go_ret
      exact ⟨rfl, hb⟩
set_option maxRecDepth 100000 in
set_option maxHeartbeats 3200000 in
theorem samePlan_any (va vb : Value) (ba bb : Nat) (p : PlanL) (w : World) (hA : w.ownsRow ba 96 2 va p.edges.length (edgesC p.edges)) (hB : w.ownsRow bb 96 2 vb p.edges.length (edgesC p.edges)) (hl : p.edges.length ≤ 2000000) :
    Calls Try.prog 52 #[planV p va, planV p vb] w fun e w' => e = .returned (.bool true) ∧ Below w.heap.size w w' := by
  have C := fun (W : World) (h1 : W.ownsRow ba 96 2 va p.edges.length (edgesC p.edges)) (h2 : W.ownsRow bb 96 2 vb p.edges.length (edgesC p.edges)) => hide (sameEdges_any va vb ba bb p.edges W h1 h2 hl)
  obtain ⟨p1, p2, p3, p4, es⟩ := p
  dsimp only [planV] at C hA hB ⊢
  obtain ⟨aa, ca, rfl, -⟩ := ownsRow_shape hA
  obtain ⟨ab, cb, rfl, -⟩ := ownsRow_shape hB
  have HA := hide hA
  have HB := hide hB
  clear hA hB
  have b1 : (p1 == p1) = true := by simp
  have b2 : (p2 == p2) = true := by simp
  have b3 : (p3 == p3) = true := by simp
  have b4 : (p4 == p4) = true := by simp
  go_enter Try.func52, Try.ntmps52
  go_wp2_with fail
  have hb : Below w.heap.size w ((w.alloc (Obj.cells #[.int .i64 p1, .int .i64 p2, .int .i64 p3, .int .i64 p4, .slice aa es.length ca] 26)).alloc (Obj.cells #[.int .i64 p1, .int .i64 p2, .int .i64 p3, .int .i64 p4, .slice ab es.length cb] 26)) := ((Below.refl _ _).alloc (Nat.le_refl _) _).alloc (by simp) _
  refine (unhide (C _ (ownsRow_below (unhide HA) hb) (ownsRow_below (unhide HB) hb))).mono ?_
  rintro e w1 ⟨rfl, hb1⟩
  have R := hb.trans (hb1.mono hb.size)
  clear C hb hb1 HA HB
  go_wp2
  go_ret
  exact ⟨rfl, R⟩
set_option maxRecDepth 100000 in
set_option maxHeartbeats 3200000 in
theorem sameRun_any (va vt vb vu : Value) (ba bb : Nat) (r : RunL) (w : World) (hA : RunOwn w ba va vt r) (hB : RunOwn w bb vb vu r) (hl : r.plan.edges.length ≤ 2000000) (hm : r.tasks.length ≤ 2000000) :
    Calls Try.prog 19 #[runV r va vt, runV r vb vu] w fun e w' => e = .returned (.bool true) ∧ Below w.heap.size w w' := by
  have C1 := fun (W : World) (h1 : W.ownsRow ba 96 2 va r.plan.edges.length (edgesC r.plan.edges)) (h2 : W.ownsRow bb 96 2 vb r.plan.edges.length (edgesC r.plan.edges)) => hide (samePlan_any va vb ba bb r.plan W h1 h2 hl)
  have C2 := fun (W : World) (h1 : W.ownsRow ba 40 4 vt r.tasks.length (quadsC r.tasks)) (h2 : W.ownsRow bb 40 4 vu r.tasks.length (quadsC r.tasks)) => hide (sameTasks_any vt vu ba bb r.tasks W h1 h2 hm)
  obtain ⟨hA1, hA2⟩ := hA
  obtain ⟨hB1, hB2⟩ := hB
  obtain ⟨id, ⟨p1, p2, p3, p4, es⟩, st, ts⟩ := r
  dsimp only [runV, runC, planV] at C1 C2 hA1 hA2 hB1 hB2 ⊢
  obtain ⟨aa, ca, rfl, -⟩ := ownsRow_shape hA1
  obtain ⟨ab, cb, rfl, -⟩ := ownsRow_shape hB1
  obtain ⟨ta, da, rfl, -⟩ := ownsRow_shape hA2
  obtain ⟨tb, db, rfl, -⟩ := ownsRow_shape hB2
  have HA1 := hide hA1
  have HB1 := hide hB1
  have HA2 := hide hA2
  have HB2 := hide hB2
  clear hA1 hB1 hA2 hB2
  have b1 : (id == id) = true := by simp
  have b2 : (st == st) = true := by simp
  go_enter Try.func19, Try.ntmps19
  go_wp2_with fail
  obtain ⟨W, hW⟩ : ∃ W, W = (w.alloc (Obj.cells #[.int .i64 id, .int .i64 p1, .int .i64 p2, .int .i64 p3, .int .i64 p4, .slice aa es.length ca, .int .i64 st, .slice ta ts.length da] 29)).alloc (Obj.cells #[.int .i64 id, .int .i64 p1, .int .i64 p2, .int .i64 p3, .int .i64 p4, .slice ab es.length cb, .int .i64 st, .slice tb ts.length db] 29) := ⟨_, rfl⟩
  have hb : Below w.heap.size w W := by rw [hW]; exact ((Below.refl _ _).alloc (Nat.le_refl _) _).alloc (by simp) _
  have x1 : W.heap[w.heap.size]? = some (.cells #[.int .i64 id, .int .i64 p1, .int .i64 p2, .int .i64 p3, .int .i64 p4, .slice aa es.length ca, .int .i64 st, .slice ta ts.length da] 29 (0, 0)) := by rw [hW, Below.heap_alloc _ _ _ (by simp)]; exact heap_alloc_new _ _
  have x2 : W.heap[w.heap.size + 1]? = some (.cells #[.int .i64 id, .int .i64 p1, .int .i64 p2, .int .i64 p3, .int .i64 p4, .slice ab es.length cb, .int .i64 st, .slice tb ts.length db] 29 (0, 0)) := by rw [hW]; exact allocAt _ _ _ (by simp)
  rw [← hW]
  clear hW
  refine (unhide (C1 _ (ownsRow_below (unhide HA1) hb) (ownsRow_below (unhide HB1) hb))).mono ?_
  rintro e w1 ⟨rfl, hb1⟩
  have c6 := cellIn (i := 6) (heapLater hb1 x1) rfl
  have c7 := cellIn (i := 7) (heapLater hb1 x1) rfl
  have d6 := cellIn (i := 6) (heapLater hb1 x2) rfl
  have d7 := cellIn (i := 7) (heapLater hb1 x2) rfl
  have R := hb.trans (hb1.mono hb.size)
  clear C1 hb hb1 HA1 HB1 x1 x2
  go_wp2_with fail
  refine (unhide (C2 _ (ownsRow_below (unhide HA2) R) (ownsRow_below (unhide HB2) R))).mono ?_
  rintro e w2 ⟨rfl, hb2⟩
  have R2 := R.trans (hb2.mono R.size)
  clear C2 HA2 HB2 hb2 R c6 c7 d6 d7
  go_wp2
  go_ret
  exact ⟨rfl, R2⟩
end Go.Proofs.Ytnpfboligmnhpaa
