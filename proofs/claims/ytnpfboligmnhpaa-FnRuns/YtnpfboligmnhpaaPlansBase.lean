/- What the law of chapter 6 needs: drawn code that is handed on, the laws' helpers over lists of ints, what follows for a plan that is right. -/
import Derived.Test.YtnpfboligmnhpaaSpecPlans
import Derived.Test.YtnpfboligmnhpaaDraws
import Derived.Test.YtnpfboligmnhpaaRowBase
import Derived.Deep.QuietTactic
import Derived.BigQuiet
namespace Go.Proofs.Ytnpfboligmnhpaa
open Go.RowKit
set_option linter.unusedVariables false
attribute [local go_sem ↓] Go.wp_at_zero Go.wp_at_succ

theorem codeIs_upto {w W : World} {a : Option Addr} {len : Nat} {zs : Nat → Int} (h : CodeIs w w.heap.size a len zs) (hb : Below w.heap.size w W) : CodeIs W W.heap.size a len zs :=
  ⟨h.1, fun j hj => by
    obtain ⟨b, off, x1, x2, x3⟩ := (codeIs_below h hb).2 j hj
    exact ⟨b, off, x1, Nat.lt_of_lt_of_le x2 hb.size, x3⟩⟩
theorem ownsRow_base_le {w : World} {B B' n size : Nat} {e : TypeId} {v : Value} {xs : List Value} (h : w.ownsRow B e size v n xs) (hB : B' ≤ B) : w.ownsRow B' e size v n xs := ownsRow_baseE h hB
set_option maxRecDepth 100000 in
set_option maxHeartbeats 1600000 in
theorem sameInts_yes (va vb : Value) (ba bb : Nat) (ps : List Int) (w : World) (hA : w.ownsRow ba 3 1 va ps.length (intC ps)) (hB : w.ownsRow bb 3 1 vb ps.length (intC ps)) (hl : ps.length ≤ 2000000) :
    Calls Try.prog 15 #[va, vb] w fun e w' => e = .returned (.bool true) ∧ Below w.heap.size w w' := by
  obtain ⟨aa, ca, rfl, sga⟩ := ownsRow_shape hA
  obtain ⟨ab, cb, rfl, sgb⟩ := ownsRow_shape hB
  have hne : ((ps.length : Int) != (ps.length : Int)) = false := by simp
  go_enter Try.func15, Try.ntmps15
  go_wp2
  go_loopw [5] (fun i wr => ∃ k : Nat, k ≤ ps.length ∧ i = .int .i64 k ∧ Below w.heap.size w wr)
    (fun i _ => ps.length - (intOf i).toNat)
  case atStart => exact ⟨0, Nat.zero_le _, rfl, Below.refl _ _⟩
  case round =>
    obtain ⟨k, hk, rfl, hb⟩ := hrel
    have hsz := hb.size
    by_cases hlt : k < ps.length
    · obtain ⟨ga, rfl⟩ := sga (by omega)
      obtain ⟨gb, rfl⟩ := sgb (by omega)
      have hk0 : (0 : Int) ≤ (k : Int) := Int.natCast_nonneg _
      have hk1 : (k : Int) < (ps.length : Int) := by omega
      have c1 := intC_cell (ownsRow_below hA hb) rfl hlt
      have c2 := intC_cell (ownsRow_below hB hb) rfl hlt
      generalize ps[k] = p at c1 c2
      have hpp : (p != p) = false := by simp
      clear hA hB sga sgb
      go_wp2_with fail
      go_quiet (fail)
      have R : Below w.heap.size w (wr.drewN nq) := hb.trans ((⟨rfl, rfl, rfl, Nat.le_refl _, fun _ _ => rfl⟩ : Below wr.heap.size wr (wr.drewN nq)).mono hb.size)
      go_wp2
      go_roundw
      case rel => exact ⟨k + 1, by omega, by go_num, R⟩
      case measure => simp [intOf]; omega
    · clear sga sgb hA hB
      go_wp2
      go_ret
      exact ⟨rfl, hb⟩
theorem risen_mem (f : Int → Bool) (n : Nat) (x : Int) : x ∈ risen f n ↔ 0 ≤ x ∧ x < (n : Int) ∧ f x = true := by
  induction n with
  | zero => rw [risen_zero]; simp; omega
  | succ n ih =>
    rw [risen_succ, List.mem_append, ih]
    constructor
    · rintro (⟨h1, h2, h3⟩ | h)
      · exact ⟨h1, by omega, h3⟩
      · split at h
        · simp at h; subst h; exact ⟨by omega, by omega, by assumption⟩
        · simp at h
    · rintro ⟨h1, h2, h3⟩
      by_cases e : x = (n : Int)
      · subst e; right; rw [if_pos h3]; simp
      · left; exact ⟨h1, by omega, h3⟩
theorem hasE_mem {es : List EdgeL} {a b : Int} (h : hasE es a b = true) : (⟨a, b⟩ : EdgeL) ∈ es := by
  unfold hasE at h
  rw [List.any_eq_true] at h
  obtain ⟨e, he, h⟩ := h
  rw [Bool.and_eq_true] at h
  have : e = ⟨a, b⟩ := by cases e; simp at h; simp [h.1, h.2]
  exact this ▸ he
/-- What waits for a task is what the task is waited for; it is reached. -/
theorem plan_behind {p : PlanL} (h : FaultIs p 0) (x : Int) (h0 : 0 ≤ x) (h1 : x < p.tasks) (i : Nat) (hi : i < (behA p 0 x).length) :
    (0 ≤ (behA p 0 x)[i]) ∧ x ∈ befA p 0 (behA p 0 x)[i] ∧ reachA p 0 x (behA p 0 x)[i] := by
  have hm : (behA p 0 x)[i] ∈ behA p 0 x := List.getElem_mem hi
  generalize (behA p 0 x)[i] = z at hm ⊢
  unfold behA at hm
  rw [if_pos rfl, risen_mem] at hm
  have hn : ((p.tasks.toNat : Nat) : Int) = p.tasks := by have := (fault_none h).1.1; omega
  rw [hn] at hm
  obtain ⟨a, b, c⟩ := hm
  refine ⟨a, ?_, rfl, h0, h1, a, b, reach_one (hasE_mem c)⟩
  unfold befA
  rw [if_pos rfl, risen_mem, hn]
  exact ⟨h0, h1, c⟩
theorem plan_self {p : PlanL} (h : FaultIs p 0) (x : Int) : ¬ reachA p 0 x x := fun hr => (fault_none h).2.2.2 x hr.2.1 hr.2.2.1 hr.2.2.2.2.2
theorem plan_trans {p : PlanL} (h : FaultIs p 0) (x y z : Int) (h1 : reachA p 0 x y) (h2 : reachA p 0 y z) : reachA p 0 x z :=
  ⟨rfl, h1.2.1, h1.2.2.1, h2.2.2.2.1, h2.2.2.2.2.1, reach_trans h1.2.2.2.2.2 h2.2.2.2.2.2⟩
theorem gset (w : World) (p : Addr) (u : Value) : w.grownBy (w.setCell p u) (some p.block) :=
  ⟨rfl, rfl, rfl, by simp [World.setCell], fun k _ hk => heap_setCell_other w p k u (fun e => hk (by simp [e]))⟩
theorem block_cell {w : World} {g j : Nat} {cur : Array Value} {T : TypeId} (h : w.heap[g]? = some (.cells cur T (0, 0))) (u : Value) : (w.setCell ⟨g, j, none⟩ u).heap[g]? = some (.cells (cur.set! j u) T (0, 0)) := (store_cell h u).1
/-- An edge is put behind those of a plan that lies in a variable. -/
theorem plan_app {w W W' : World} {bp g' cap' : Nat} {q1 q2 q3 q4 : Int} {va : Value} {es : List EdgeL} {e : EdgeL} {o : Obj} (ra : W.ownsRow w.heap.size 96 2 va es.length (edgesC es)) (hp : W.heap[bp]? = some (.cells #[.int .i64 q1, .int .i64 q2, .int .i64 q3, .int .i64 q4, va] 26 (0, 0))) (tw : Below w.heap.size w W)
    (ho : W'.ownsRow w.heap.size 96 2 (.slice (some ⟨g', 0, none⟩) (es.length + 1) cap') (es.length + 1) (edgesC es ++ ecs e)) (hg : (W.alloc o).grownBy W' va.ownBlock) (he : (96 : TypeId) ≠ 26) (hb : w.heap.size ≤ bp) :
    W'.cell? ⟨bp, 4, none⟩ = some va ∧ W'.frozen? ⟨bp, 4, none⟩ = false ∧ (W'.setCell ⟨bp, 4, none⟩ (.slice (some ⟨g', 0, none⟩) (es.length + 1) cap')).heap[bp]? = some (.cells #[.int .i64 q1, .int .i64 q2, .int .i64 q3, .int .i64 q4, .slice (some ⟨g', 0, none⟩) (es.length + 1) cap'] 26 (0, 0))
    ∧ (W'.setCell ⟨bp, 4, none⟩ (.slice (some ⟨g', 0, none⟩) (es.length + 1) cap')).ownsRow w.heap.size 96 2 (.slice (some ⟨g', 0, none⟩) (es.length + 1) cap') (es ++ [e]).length (edgesC (es ++ [e]))
    ∧ Below w.heap.size w (W'.setCell ⟨bp, 4, none⟩ (.slice (some ⟨g', 0, none⟩) (es.length + 1) cap')) := by
  have hlt := (Array.getElem?_eq_some_iff.1 hp).1
  have h1 : (W.alloc o).heap[bp]? = some (.cells #[.int .i64 q1, .int .i64 q2, .int .i64 q3, .int .i64 q4, va] 26 (0, 0)) := by rw [Below.heap_alloc W _ _ hlt]; exact hp
  have h2 := heapFar hg (World.ownsRow.alloc ra o) h1 he
  have hne : g' ≠ bp := by
    intro e1
    rcases ho.2 with ⟨h', _⟩ | ⟨g0, cap0, cur, h', hb', hg', _⟩
    · simp at h'
    · simp only [Value.slice.injEq, Option.some.injEq, Addr.mk.injEq, and_true, true_and] at h'
      rw [← e1, h'.1, hg'] at h2
      simp at h2
  refine ⟨cellIn h2 rfl, by simp [World.frozen?, h2], block_cell (j := 4) h2 _, ?_, ?_⟩
  · rw [List.length_append, edgesC_append]
    have h3 := World.ownsRow.kept ho (gset W' ⟨bp, 4, none⟩ (.slice (some ⟨g', 0, none⟩) (es.length + 1) cap')) (.inr (by intro e1; simp only [Value.ownBlock, Option.some.injEq] at e1; exact hne e1))
    simpa [edgesC] using h3
  · exact (((tw.alloc tw.size o).grown hg (by have := tw.size; simp; omega) (fun k hk => (ra.lt k hk).1))).setCell (p := ⟨bp, 4, none⟩) hb _
end Go.Proofs.Ytnpfboligmnhpaa
