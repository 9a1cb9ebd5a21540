/- The walk of the specification's l09Runs: whether a task of a right run runs. -/
import Derived.Test.YtnpfboligmnhpaaSpecRunLeft
namespace Go.Proofs.Ytnpfboligmnhpaa
open Go.RowKit
open scoped Classical
set_option linter.unusedVariables false
set_option linter.unusedSimpArgs false
attribute [local go_sem ↓] Go.wp_at_zero Go.wp_at_succ

/-- A task of a right run that runs. -/
def RunsA (r : RunL) (t : Int) : Prop := RunOkA r ∧ (0 ≤ t ∧ t < (r.tasks.length : Int)) ∧ (r.tasks.getD t.toNat quad0).a = 3
theorem ret_bool3 {a b : Bool} (h : a = b) : Ending.returned (.bool a) = .returned (.bool b) := by rw [h]
set_option maxRecDepth 100000 in
set_option maxHeartbeats 3200000 in
theorem specRuns_any (ve vt : Value) (ba bt : Nat) (r : RunL) (t : Int) (w : World) (hA : w.ownsRow ba 96 2 ve r.plan.edges.length (edgesC r.plan.edges)) (hT : w.ownsRow bt 40 4 vt r.tasks.length (quadsC r.tasks)) (hl : r.plan.edges.length ≤ 2000000) (hm : r.tasks.length ≤ 2000000) :
    Calls Try.prog 55 #[runV r ve vt, .int .i64 t] w fun e w' => e = .returned (.bool (decide (RunsA r t))) ∧ Below w.heap.size w w' := by
  obtain ⟨ae, ce, rfl, -⟩ := ownsRow_shape hA
  obtain ⟨at_, ct, rfl, sgt⟩ := ownsRow_shape hT
  have C2 := fun W (h1 : W.ownsRow ba 96 2 (.slice ae r.plan.edges.length ce) r.plan.edges.length (edgesC r.plan.edges)) (h2 : W.ownsRow bt 40 4 (.slice at_ r.tasks.length ct) r.tasks.length (quadsC r.tasks)) => hide (specRunOk_any _ _ ba bt r W h1 h2 hl hm)
  have DQ : Hid (RunsA r t ↔ RunOkA r ∧ (0 ≤ t ∧ t < (r.tasks.length : Int)) ∧ (r.tasks.getD t.toNat quad0).a = 3) := hide Iff.rfl
  generalize RunsA r t = Q at DQ ⊢
  obtain ⟨PF, hPF⟩ : ∃ P, P = RunOkA r := ⟨_, rfl⟩
  rw [← hPF] at C2 DQ
  clear hPF
  obtain ⟨id, p, s0, ts⟩ := r
  obtain ⟨p1, p2, p3, p4, es⟩ := p
  simp only [runV, runC] at C2 hA hT hm DQ ⊢
  have HA := hide hA
  have HT := hide hT
  clear hA hT
  go_enter Try.func55, Try.ntmps55
  go_wp2_with fail
  obtain ⟨W, hW⟩ : ∃ W, W = w.alloc (Obj.cells #[.int .i64 id, .int .i64 p1, .int .i64 p2, .int .i64 p3, .int .i64 p4, .slice ae es.length ce, .int .i64 s0, .slice at_ ts.length ct] 29) := ⟨_, rfl⟩
  have hx : W.heap[w.heap.size]? = some (.cells #[.int .i64 id, .int .i64 p1, .int .i64 p2, .int .i64 p3, .int .i64 p4, .slice ae es.length ce, .int .i64 s0, .slice at_ ts.length ct] 29 (0, 0)) := by rw [hW]; exact heap_alloc_new _ _
  have hb0 : Below w.heap.size w W := by rw [hW]; exact (Below.refl _ _).alloc (Nat.le_refl _) _
  rw [← hW]
  clear hW
  refine (unhide (C2 _ (ownsRow_below (unhide HA) hb0) (ownsRow_below (unhide HT) hb0))).mono ?_
  rintro e w1 ⟨rfl, hb1⟩
  have hx1 := heapLater hb1 hx
  have t1 := hb0.trans (hb1.mono hb0.size)
  have HT1 := hide (ownsRow_below (unhide HT) t1)
  have x7 := cellIn (i := 7) hx1 rfl
  clear C2 hx hb0 hb1 hx1 HA HT
  by_cases hp : PF
  · have dp : decide PF = true := decide_eq_true hp
    by_cases hti : 0 ≤ t ∧ t ≤ (ts.length : Int) - 1
    · have hlt : t.toNat < ts.length := by omega
      obtain ⟨g, rfl⟩ := sgt (by omega)
      obtain ⟨k, rfl⟩ : ∃ k : Nat, t = (k : Int) := ⟨t.toNat, by omega⟩
      have hk : k < ts.length := by omega
      have hk0 : (0 : Int) ≤ (k : Int) := Int.natCast_nonneg _
      have hk1 : (k : Int) < (ts.length : Int) := by omega
      have IY := fun W => hide (in_yes (k : Int) 0 ((ts.length : Int) - 1) W (by omega) (by omega))
      obtain ⟨q1, q2, q3, q4⟩ := quadsC_cell (unhide HT1) hk
      have hg : ts.getD (k : Int).toNat quad0 = ts[k] := by rw [Int.toNat_natCast, List.getD_eq_getElem?_getD, List.getElem?_eq_getElem hk]; rfl
      have R : Hid (decide Q = (ts[k].a == 3)) := hide (by
        rw [hg] at DQ
        by_cases h3 : ts[k].a = 3
        · rw [decide_eq_true ((unhide DQ).2 ⟨hp, ⟨hk0, hk1⟩, h3⟩)]; simp [h3]
        · rw [decide_eq_false (fun q => h3 ((unhide DQ).1 q).2.2)]; simp [h3])
      generalize ts[k].a = st at q1 R
      clear hg q2 q3 q4 DQ HT1 hp
      go_wp2_with fail
      refine (unhide (IY _)).mono ?_
      rintro e w2 ⟨rfl, rfl⟩
      go_wp2
      go_ret
      exact ⟨ret_bool3 (unhide R).symm, t1⟩
    · have IN := fun W => hide (in_no t 0 ((ts.length : Int) - 1) W hti)
      have R : Hid (decide Q = false) := hide (decide_eq_false (fun q => hti ⟨((unhide DQ).1 q).2.1.1, by have := ((unhide DQ).1 q).2.1.2; omega⟩))
      clear DQ HT1 hp sgt hti
      go_wp2_with fail
      refine (unhide (IN _)).mono ?_
      rintro e w2 ⟨rfl, rfl⟩
      go_wp2
      go_ret
      exact ⟨ret_bool3 (unhide R).symm, t1⟩
  · have dp : decide PF = false := decide_eq_false hp
    have R : Hid (decide Q = false) := hide (decide_eq_false (fun q => hp ((unhide DQ).1 q).1))
    clear DQ HT1 hp sgt
    go_wp2
    go_ret
    exact ⟨ret_bool3 (unhide R).symm, t1⟩
end Go.Proofs.Ytnpfboligmnhpaa
