/- The walk of the specification's RunLeft. -/
import Derived.Test.YtnpfboligmnhpaaSpecLeave
import Derived.Deep.DeepCutAuto
import Derived.Deep.RegionWith
namespace Go.Proofs.Ytnpfboligmnhpaa
open Go.RowKit
open scoped Classical
set_option linter.unusedVariables false
set_option linter.unusedSimpArgs false
attribute [local go_sem ↓] Go.wp_at_zero Go.wp_at_succ

/-- A row of another type is as it was. -/
theorem rowFar {w w' : World} {B n size B' n' size' : Nat} {e e' : TypeId} {v v' : Value} {xs xs' : List Value} (hg : w.grownBy w' v.ownBlock) (hr : w.ownsRow B e size v n xs) (h : w.ownsRow B' e' size' v' n' xs') (he : e ≠ e') : w'.ownsRow B' e' size' v' n' xs' := by
  refine h.kept hg ?_
  rcases hr.2 with ⟨rfl, _⟩ | ⟨g, cap, cur, rfl, _, hg', _⟩
  · cases hv : v'.ownBlock with
    | none => exact .inl rfl
    | some j => exact .inr (by simp [Value.ownBlock])
  · rcases h.2 with ⟨rfl, _⟩ | ⟨g2, cap2, cur2, rfl, _, hg2, _⟩
    · exact .inl rfl
    · refine .inr (fun e1 => ?_)
      simp only [Value.ownBlock, Option.some.injEq] at e1
      subst e1
      rw [hg'] at hg2
      simp at hg2
      exact he hg2.2
theorem runOwn_base {w : World} {B B' : Nat} {ve vt : Value} {r : RunL} (h : RunOwn w B ve vt r) (hB : B' ≤ B) : RunOwn w B' ve vt r := ⟨ownsRow_baseT h.edges hB, ownsRow_baseT h.tasks hB⟩
theorem runOwn_leave {w w' : World} {B : Nat} {ve vt : Value} {r : RunL} {st : Int} (h : RunOwn w B ve vt r) (hg : w.grownBy w' vt.ownBlock) (ho : w'.ownsRow B 40 4 vt r.tasks.length (quadsC (r.tasks.map leaveQ))) : RunOwn w' B ve vt (leaveR r st) :=
  ⟨rowFar hg h.tasks h.edges (by decide), by simpa [leaveR] using ho⟩
/-- A run that is left. -/
def LeftIs (r r2 : RunL) : Prop := (RunOkA r ∧ r.state = 1 → r2 = leaveR r 4) ∧ (¬ (RunOkA r ∧ r.state = 1) → r2 = r)
theorem left_ex (r : RunL) : ∃ r2, LeftIs r r2 := by
  by_cases h : RunOkA r ∧ r.state = 1
  · exact ⟨_, fun _ => rfl, fun k => absurd h k⟩
  · exact ⟨_, fun k => absurd k h, fun _ => rfl⟩
set_option maxRecDepth 100000 in
set_option maxHeartbeats 12800000 in
theorem specRunLeft_any (ve vt : Value) (ba bt : Nat) (r r2 : RunL) (hL : LeftIs r r2) (w : World) (hA : w.ownsRow ba 96 2 ve r.plan.edges.length (edgesC r.plan.edges)) (hT : w.ownsRow bt 40 4 vt r.tasks.length (quadsC r.tasks)) (hl : r.plan.edges.length ≤ 2000000) (hm : r.tasks.length ≤ 2000000) :
    Calls Try.prog 23 #[runV r ve vt] w fun e w' => ∃ g cap h cap2, e = .returned (runV r2 (.slice (some ⟨g, 0, none⟩) r.plan.edges.length cap) (.slice (some ⟨h, 0, none⟩) r.tasks.length cap2)) ∧ RunOwn w' w.heap.size (.slice (some ⟨g, 0, none⟩) r.plan.edges.length cap) (.slice (some ⟨h, 0, none⟩) r.tasks.length cap2) r2 ∧ Below w.heap.size w w' := by
  obtain ⟨ae, ce, rfl, -⟩ := ownsRow_shape hA
  obtain ⟨at_, ct, rfl, -⟩ := ownsRow_shape hT
  have C1 := fun W (h1 : W.ownsRow ba 96 2 (.slice ae r.plan.edges.length ce) r.plan.edges.length (edgesC r.plan.edges)) (h2 : W.ownsRow bt 40 4 (.slice at_ r.tasks.length ct) r.tasks.length (quadsC r.tasks)) => hide (specRCopy_any _ _ ba bt r W h1 h2 hl hm)
  have C2 := fun W (h1 : W.ownsRow ba 96 2 (.slice ae r.plan.edges.length ce) r.plan.edges.length (edgesC r.plan.edges)) (h2 : W.ownsRow bt 40 4 (.slice at_ r.tasks.length ct) r.tasks.length (quadsC r.tasks)) => hide (specRunOk_any _ _ ba bt r W h1 h2 hl hm)
  have C3 := fun (a : Option Addr) (c : Nat) (v : Value) (B : Nat) W (h2 : W.ownsRow B 40 4 v r.tasks.length (quadsC r.tasks)) => hide (specLeave_any a r.plan.edges.length c v B r 4 W h2 hm)
  have LF := hide hL
  unfold LeftIs at LF
  clear hL
  have RB := hide (fun (W W' : World) (B : Nat) (v1 v2 : Value) (h : RunOwn W B v1 v2 r) (hg : W.grownBy W' v2.ownBlock) (ho : W'.ownsRow B 40 4 v2 r.tasks.length (quadsC (r.tasks.map leaveQ))) => runOwn_leave (st := 4) h hg ho)
  obtain ⟨PF, hPF⟩ : ∃ P, P = RunOkA r := ⟨_, rfl⟩
  rw [← hPF] at C2 LF
  clear hPF
  obtain ⟨id, p, s0, ts⟩ := r
  obtain ⟨p1, p2, p3, p4, es⟩ := p
  unfold leaveR at LF C3 RB
  simp only [runV, runC] at C1 C2 C3 LF RB hA hT ⊢
  have HA := hide hA
  have HT := hide hT
  clear hA hT
  go_enter Try.func23, Try.ntmps23
  go_wp2_with fail
  obtain ⟨W, hW⟩ : ∃ W, W = (w.alloc (Obj.cells #[.int .i64 id, .int .i64 p1, .int .i64 p2, .int .i64 p3, .int .i64 p4, .slice ae es.length ce, .int .i64 s0, .slice at_ ts.length ct] 29)).alloc (Obj.cells #[.int .i64 0, .int .i64 0, .int .i64 0, .int .i64 0, .int .i64 0, .slice none 0 0, .int .i64 0, .slice none 0 0] 29) := ⟨_, rfl⟩
  have hx : W.heap[w.heap.size]? = some (.cells #[.int .i64 id, .int .i64 p1, .int .i64 p2, .int .i64 p3, .int .i64 p4, .slice ae es.length ce, .int .i64 s0, .slice at_ ts.length ct] 29 (0, 0)) := by rw [hW, Below.heap_alloc _ _ _ (by simp)]; exact heap_alloc_new _ _
  have hr : W.heap[w.heap.size + 1]? = some (.cells #[.int .i64 0, .int .i64 0, .int .i64 0, .int .i64 0, .int .i64 0, .slice none 0 0, .int .i64 0, .slice none 0 0] 29 (0, 0)) := by rw [hW]; exact allocAt _ _ _ (by simp)
  have hb0 : Below w.heap.size w W := by rw [hW]; exact ((Below.refl _ _).alloc (Nat.le_refl _) _).alloc (by simp) _
  have hsz : w.heap.size + 1 + 1 = W.heap.size := by rw [hW]; simp
  rw [← hW]
  have HZ := hide hsz
  clear hW hsz
  refine (unhide (C1 _ (ownsRow_below (unhide HA) hb0) (ownsRow_below (unhide HT) hb0))).mono ?_
  rintro e w1 ⟨g, cap, h, cap2, rfl, ow, hb1⟩
  have hx1 := heapLater hb1 hx
  have hr1 := heapLater hb1 hr
  have t1 := hb0.trans (hb1.mono hb0.size)
  clear hx hr hb1 C1 hb0
  have aq : ∀ (o : Obj), Below w1.heap.size w1 (w1.alloc o) := fun o => (Below.refl _ _).alloc (Nat.le_refl _) _
  have hx3 := heapLater (aq (Obj.cells #[.int .i64 id, .int .i64 p1, .int .i64 p2, .int .i64 p3, .int .i64 p4, .slice (some ⟨g, 0, none⟩) es.length cap, .int .i64 s0, .slice (some ⟨h, 0, none⟩) ts.length cap2] 29)) hx1
  clear aq
  have x0 := cellIn (i := 0) hx3 rfl
  have x1 := cellIn (i := 1) hx3 rfl
  have x2 := cellIn (i := 2) hx3 rfl
  have x3 := cellIn (i := 3) hx3 rfl
  have x4 := cellIn (i := 4) hx3 rfl
  have x5 := cellIn (i := 5) hx3 rfl
  have x6 := cellIn (i := 6) hx3 rfl
  have x7 := cellIn (i := 7) hx3 rfl
  clear hx3
  go_wp2_with fail
  obtain ⟨W2, hW2⟩ : ∃ W2, W2 = w1.alloc (Obj.cells #[.int .i64 id, .int .i64 p1, .int .i64 p2, .int .i64 p3, .int .i64 p4, .slice (some ⟨g, 0, none⟩) es.length cap, .int .i64 s0, .slice (some ⟨h, 0, none⟩) ts.length cap2] 29) := ⟨_, rfl⟩
  have hk2 : W2.heap[w1.heap.size]? = some (.cells #[.int .i64 id, .int .i64 p1, .int .i64 p2, .int .i64 p3, .int .i64 p4, .slice (some ⟨g, 0, none⟩) es.length cap, .int .i64 s0, .slice (some ⟨h, 0, none⟩) ts.length cap2] 29 (0, 0)) := by rw [hW2]; exact heap_alloc_new _ _
  have hb2 : Below w1.heap.size w1 W2 := by rw [hW2]; exact (Below.refl _ _).alloc (Nat.le_refl _) _
  rw [← hW2]
  clear hW2 x0 x1 x2 x3 x4 x5 x6 x7
  have hx2 := heapLater hb2 hx1
  have hr2 := heapLater hb2 hr1
  have ow2 := runOwn_below ow hb2
  have t2 := t1.trans (hb2.mono t1.size)
  clear hx1 hr1 ow t1 hb2
  refine (unhide (C2 _ (ownsRow_below (unhide HA) t2) (ownsRow_below (unhide HT) t2))).mono ?_
  rintro e w3 ⟨rfl, hb3⟩
  have hx3 := heapLater hb3 hx2
  have hr3 := heapLater hb3 hr2
  have hk3 := heapLater hb3 hk2
  have ow3 := runOwn_below ow2 hb3
  have t3 := t2.trans (hb3.mono t2.size)
  clear hx2 hr2 hk2 ow2 t2 hb3 C2 HA HT
  by_cases hc : PF ∧ s0 = 1
  · have LF2 := (unhide LF).1 hc
    subst LF2
    obtain ⟨hp, rfl⟩ := hc
    have dp : decide PF = true := decide_eq_true hp
    have x6 := cellIn (i := 6) hx3 rfl
    have k0 := cellIn (i := 0) hk3 rfl
    have k1 := cellIn (i := 1) hk3 rfl
    have k2 := cellIn (i := 2) hk3 rfl
    have k3 := cellIn (i := 3) hk3 rfl
    have k4 := cellIn (i := 4) hk3 rfl
    have k5 := cellIn (i := 5) hk3 rfl
    have k6 := cellIn (i := 6) hk3 rfl
    have k7 := cellIn (i := 7) hk3 rfl
    have HK3 := hide hk3
    clear hp hx3 hk3 LF
    go_wp2_with fail
    refine (unhide (C3 _ _ _ _ _ ow3.tasks)).mono ?_
    rintro e w4 ⟨rfl, ot4, g4⟩
    have hsz := unhide HZ
    have hr4 := heapFar g4 ow3.tasks hr3 (by decide)
    have ow4 := unhide RB _ _ _ _ _ ow3 g4 ot4
    have t4 : Below w.heap.size w w4 := t3.grown g4 t3.size (fun j hj => by have := (ow3.tasks.lt j hj).1; omega)
    clear hr3 ow3 t3 g4 ot4 C3 RB HK3 dp x6 k0 k1 k2 k3 k4 k5 k6 k7 HZ
    obtain ⟨hr5, G5⟩ := setMany_is [(0, .int .i64 id), (1, .int .i64 p1), (2, .int .i64 p2), (3, .int .i64 p3), (4, .int .i64 p4), (5, .slice (some ⟨g, 0, none⟩) es.length cap), (6, .int .i64 4), (7, .slice (some ⟨h, 0, none⟩) ts.length cap2)] w4 _ hr4
    have t5 : Below w.heap.size w (setMany w4 (w.heap.size + 1) [(0, .int .i64 id), (1, .int .i64 p1), (2, .int .i64 p2), (3, .int .i64 p3), (4, .int .i64 p4), (5, .slice (some ⟨g, 0, none⟩) es.length cap), (6, .int .i64 4), (7, .slice (some ⟨h, 0, none⟩) ts.length cap2)]) := t4.grown G5 t4.size (fun j hj => by cases hj; omega)
    have hr5' : (setMany w4 (w.heap.size + 1) [(0, .int .i64 id), (1, .int .i64 p1), (2, .int .i64 p2), (3, .int .i64 p3), (4, .int .i64 p4), (5, .slice (some ⟨g, 0, none⟩) es.length cap), (6, .int .i64 4), (7, .slice (some ⟨h, 0, none⟩) ts.length cap2)]).heap[w.heap.size + 1]? = some (.cells #[.int .i64 id, .int .i64 p1, .int .i64 p2, .int .i64 p3, .int .i64 p4, .slice (some ⟨g, 0, none⟩) es.length cap, .int .i64 4, .slice (some ⟨h, 0, none⟩) ts.length cap2] 29 (0, 0)) := by rw [hr5, put8]
    have o5 := RunOwn.mk (rowBut G5 ow4.edges (by omega)) (rowBut G5 ow4.tasks (by omega))
    have ER := hide (And.intro (runOwn_base o5 (show w.heap.size ≤ W.heap.size by omega)) (And.intro t5 hr5'))
    have z0 := cellIn (i := 0) hr4 rfl
    have u0 := softIn (i := 0) hr4
    have z1 := cellIn (i := 1) hr4 rfl
    have u1 := softIn (i := 1) hr4
    have z2 := cellIn (i := 2) hr4 rfl
    have u2 := softIn (i := 2) hr4
    have z3 := cellIn (i := 3) hr4 rfl
    have u3 := softIn (i := 3) hr4
    have z4 := cellIn (i := 4) hr4 rfl
    have u4 := softIn (i := 4) hr4
    have z5 := cellIn (i := 5) hr4 rfl
    have u5 := softIn (i := 5) hr4
    have z6 := cellIn (i := 6) hr4 rfl
    have u6 := softIn (i := 6) hr4
    have z7 := cellIn (i := 7) hr4 rfl
    have u7 := softIn (i := 7) hr4
    obtain ⟨W5, hW5⟩ : ∃ W5, W5 = setMany w4 (w.heap.size + 1) [(0, .int .i64 id), (1, .int .i64 p1), (2, .int .i64 p2), (3, .int .i64 p3), (4, .int .i64 p4), (5, .slice (some ⟨g, 0, none⟩) es.length cap), (6, .int .i64 4), (7, .slice (some ⟨h, 0, none⟩) ts.length cap2)] := ⟨_, rfl⟩
    rw [← hW5] at ER
    have eW : ((((((((w4).setCell ⟨w.heap.size + 1, 0, none⟩ (.int .i64 id)).setCell ⟨w.heap.size + 1, 1, none⟩ (.int .i64 p1)).setCell ⟨w.heap.size + 1, 2, none⟩ (.int .i64 p2)).setCell ⟨w.heap.size + 1, 3, none⟩ (.int .i64 p3)).setCell ⟨w.heap.size + 1, 4, none⟩ (.int .i64 p4)).setCell ⟨w.heap.size + 1, 5, none⟩ (.slice (some ⟨g, 0, none⟩) es.length cap)).setCell ⟨w.heap.size + 1, 6, none⟩ (.int .i64 4)).setCell ⟨w.heap.size + 1, 7, none⟩ (.slice (some ⟨h, 0, none⟩) ts.length cap2) = W5 := by rw [hW5]; simp only [setMany]
    have EW := hide eW
    have HZ := hide hsz
    clear eW hW5 hr5 G5 t5 hr5' o5 ow4 t4 hr4 hsz 
    go_wp2
    rw [unhide EW]
    obtain ⟨Q1, Q2, Q3⟩ := unhide ER
    have r0 := cellIn (i := 0) Q3 rfl
    have r1 := cellIn (i := 1) Q3 rfl
    have r2 := cellIn (i := 2) Q3 rfl
    have r3 := cellIn (i := 3) Q3 rfl
    have r4 := cellIn (i := 4) Q3 rfl
    have r5 := cellIn (i := 5) Q3 rfl
    have r6 := cellIn (i := 6) Q3 rfl
    have r7 := cellIn (i := 7) Q3 rfl
    refine bodyPost_ret (v := .agg #[.int .i64 id, .int .i64 p1, .int .i64 p2, .int .i64 p3, .int .i64 p4, .slice (some ⟨g, 0, none⟩) es.length cap, .int .i64 4, .slice (some ⟨h, 0, none⟩) ts.length cap2]) (by simp [results, Try.results23, go_sem, r0, r1, r2, r3, r4, r5, r6, r7]) rfl ⟨g, cap, h, cap2, rfl, Q1, Q2⟩
  · have LF2 := (unhide LF).2 hc
    subst LF2
    have hsz := unhide HZ
    have d : (decide PF = false) ∨ (decide PF = true ∧ (s0 != 1) = true) := by
      by_cases hp : PF
      · exact .inr ⟨decide_eq_true hp, by simp; exact fun e => hc ⟨hp, e⟩⟩
      · exact .inl (decide_eq_false hp)
    have x6 := cellIn (i := 6) hx3 rfl
    have k0 := cellIn (i := 0) hk3 rfl
    have k1 := cellIn (i := 1) hk3 rfl
    have k2 := cellIn (i := 2) hk3 rfl
    have k3 := cellIn (i := 3) hk3 rfl
    have k4 := cellIn (i := 4) hk3 rfl
    have k5 := cellIn (i := 5) hk3 rfl
    have k6 := cellIn (i := 6) hk3 rfl
    have k7 := cellIn (i := 7) hk3 rfl
    clear hc HZ C3 LF hx3 hk3 RB
    rcases d with dp | ⟨dp, d1⟩
    · obtain ⟨hr5, G5⟩ := setMany_is [(0, .int .i64 id), (1, .int .i64 p1), (2, .int .i64 p2), (3, .int .i64 p3), (4, .int .i64 p4), (5, .slice (some ⟨g, 0, none⟩) es.length cap), (6, .int .i64 s0), (7, .slice (some ⟨h, 0, none⟩) ts.length cap2)] w3 _ hr3
      have t5 : Below w.heap.size w (setMany w3 (w.heap.size + 1) [(0, .int .i64 id), (1, .int .i64 p1), (2, .int .i64 p2), (3, .int .i64 p3), (4, .int .i64 p4), (5, .slice (some ⟨g, 0, none⟩) es.length cap), (6, .int .i64 s0), (7, .slice (some ⟨h, 0, none⟩) ts.length cap2)]) := t3.grown G5 t3.size (fun j hj => by cases hj; omega)
      have hr5' : (setMany w3 (w.heap.size + 1) [(0, .int .i64 id), (1, .int .i64 p1), (2, .int .i64 p2), (3, .int .i64 p3), (4, .int .i64 p4), (5, .slice (some ⟨g, 0, none⟩) es.length cap), (6, .int .i64 s0), (7, .slice (some ⟨h, 0, none⟩) ts.length cap2)]).heap[w.heap.size + 1]? = some (.cells #[.int .i64 id, .int .i64 p1, .int .i64 p2, .int .i64 p3, .int .i64 p4, .slice (some ⟨g, 0, none⟩) es.length cap, .int .i64 s0, .slice (some ⟨h, 0, none⟩) ts.length cap2] 29 (0, 0)) := by rw [hr5, put8]
      have o5 := RunOwn.mk (rowBut G5 ow3.edges (by omega)) (rowBut G5 ow3.tasks (by omega))
      have ER := hide (And.intro (runOwn_base o5 (show w.heap.size ≤ W.heap.size by omega)) (And.intro t5 hr5'))
      have z0 := cellIn (i := 0) hr3 rfl
      have u0 := softIn (i := 0) hr3
      have z1 := cellIn (i := 1) hr3 rfl
      have u1 := softIn (i := 1) hr3
      have z2 := cellIn (i := 2) hr3 rfl
      have u2 := softIn (i := 2) hr3
      have z3 := cellIn (i := 3) hr3 rfl
      have u3 := softIn (i := 3) hr3
      have z4 := cellIn (i := 4) hr3 rfl
      have u4 := softIn (i := 4) hr3
      have z5 := cellIn (i := 5) hr3 rfl
      have u5 := softIn (i := 5) hr3
      have z6 := cellIn (i := 6) hr3 rfl
      have u6 := softIn (i := 6) hr3
      have z7 := cellIn (i := 7) hr3 rfl
      have u7 := softIn (i := 7) hr3
      obtain ⟨W5, hW5⟩ : ∃ W5, W5 = setMany w3 (w.heap.size + 1) [(0, .int .i64 id), (1, .int .i64 p1), (2, .int .i64 p2), (3, .int .i64 p3), (4, .int .i64 p4), (5, .slice (some ⟨g, 0, none⟩) es.length cap), (6, .int .i64 s0), (7, .slice (some ⟨h, 0, none⟩) ts.length cap2)] := ⟨_, rfl⟩
      rw [← hW5] at ER
      have eW : ((((((((w3).setCell ⟨w.heap.size + 1, 0, none⟩ (.int .i64 id)).setCell ⟨w.heap.size + 1, 1, none⟩ (.int .i64 p1)).setCell ⟨w.heap.size + 1, 2, none⟩ (.int .i64 p2)).setCell ⟨w.heap.size + 1, 3, none⟩ (.int .i64 p3)).setCell ⟨w.heap.size + 1, 4, none⟩ (.int .i64 p4)).setCell ⟨w.heap.size + 1, 5, none⟩ (.slice (some ⟨g, 0, none⟩) es.length cap)).setCell ⟨w.heap.size + 1, 6, none⟩ (.int .i64 s0)).setCell ⟨w.heap.size + 1, 7, none⟩ (.slice (some ⟨h, 0, none⟩) ts.length cap2) = W5 := by rw [hW5]; simp only [setMany]
      have EW := hide eW
      have HZ := hide hsz
      clear eW hW5 hr5 G5 t5 hr5' o5 ow3 t3 hr3 hsz 
      go_wp2
      rw [unhide EW]
      obtain ⟨Q1, Q2, Q3⟩ := unhide ER
      have r0 := cellIn (i := 0) Q3 rfl
      have r1 := cellIn (i := 1) Q3 rfl
      have r2 := cellIn (i := 2) Q3 rfl
      have r3 := cellIn (i := 3) Q3 rfl
      have r4 := cellIn (i := 4) Q3 rfl
      have r5 := cellIn (i := 5) Q3 rfl
      have r6 := cellIn (i := 6) Q3 rfl
      have r7 := cellIn (i := 7) Q3 rfl
      refine bodyPost_ret (v := .agg #[.int .i64 id, .int .i64 p1, .int .i64 p2, .int .i64 p3, .int .i64 p4, .slice (some ⟨g, 0, none⟩) es.length cap, .int .i64 s0, .slice (some ⟨h, 0, none⟩) ts.length cap2]) (by simp [results, Try.results23, go_sem, r0, r1, r2, r3, r4, r5, r6, r7]) rfl ⟨g, cap, h, cap2, rfl, Q1, Q2⟩
    · obtain ⟨hr5, G5⟩ := setMany_is [(0, .int .i64 id), (1, .int .i64 p1), (2, .int .i64 p2), (3, .int .i64 p3), (4, .int .i64 p4), (5, .slice (some ⟨g, 0, none⟩) es.length cap), (6, .int .i64 s0), (7, .slice (some ⟨h, 0, none⟩) ts.length cap2)] w3 _ hr3
      have t5 : Below w.heap.size w (setMany w3 (w.heap.size + 1) [(0, .int .i64 id), (1, .int .i64 p1), (2, .int .i64 p2), (3, .int .i64 p3), (4, .int .i64 p4), (5, .slice (some ⟨g, 0, none⟩) es.length cap), (6, .int .i64 s0), (7, .slice (some ⟨h, 0, none⟩) ts.length cap2)]) := t3.grown G5 t3.size (fun j hj => by cases hj; omega)
      have hr5' : (setMany w3 (w.heap.size + 1) [(0, .int .i64 id), (1, .int .i64 p1), (2, .int .i64 p2), (3, .int .i64 p3), (4, .int .i64 p4), (5, .slice (some ⟨g, 0, none⟩) es.length cap), (6, .int .i64 s0), (7, .slice (some ⟨h, 0, none⟩) ts.length cap2)]).heap[w.heap.size + 1]? = some (.cells #[.int .i64 id, .int .i64 p1, .int .i64 p2, .int .i64 p3, .int .i64 p4, .slice (some ⟨g, 0, none⟩) es.length cap, .int .i64 s0, .slice (some ⟨h, 0, none⟩) ts.length cap2] 29 (0, 0)) := by rw [hr5, put8]
      have o5 := RunOwn.mk (rowBut G5 ow3.edges (by omega)) (rowBut G5 ow3.tasks (by omega))
      have ER := hide (And.intro (runOwn_base o5 (show w.heap.size ≤ W.heap.size by omega)) (And.intro t5 hr5'))
      have z0 := cellIn (i := 0) hr3 rfl
      have u0 := softIn (i := 0) hr3
      have z1 := cellIn (i := 1) hr3 rfl
      have u1 := softIn (i := 1) hr3
      have z2 := cellIn (i := 2) hr3 rfl
      have u2 := softIn (i := 2) hr3
      have z3 := cellIn (i := 3) hr3 rfl
      have u3 := softIn (i := 3) hr3
      have z4 := cellIn (i := 4) hr3 rfl
      have u4 := softIn (i := 4) hr3
      have z5 := cellIn (i := 5) hr3 rfl
      have u5 := softIn (i := 5) hr3
      have z6 := cellIn (i := 6) hr3 rfl
      have u6 := softIn (i := 6) hr3
      have z7 := cellIn (i := 7) hr3 rfl
      have u7 := softIn (i := 7) hr3
      obtain ⟨W5, hW5⟩ : ∃ W5, W5 = setMany w3 (w.heap.size + 1) [(0, .int .i64 id), (1, .int .i64 p1), (2, .int .i64 p2), (3, .int .i64 p3), (4, .int .i64 p4), (5, .slice (some ⟨g, 0, none⟩) es.length cap), (6, .int .i64 s0), (7, .slice (some ⟨h, 0, none⟩) ts.length cap2)] := ⟨_, rfl⟩
      rw [← hW5] at ER
      have eW : ((((((((w3).setCell ⟨w.heap.size + 1, 0, none⟩ (.int .i64 id)).setCell ⟨w.heap.size + 1, 1, none⟩ (.int .i64 p1)).setCell ⟨w.heap.size + 1, 2, none⟩ (.int .i64 p2)).setCell ⟨w.heap.size + 1, 3, none⟩ (.int .i64 p3)).setCell ⟨w.heap.size + 1, 4, none⟩ (.int .i64 p4)).setCell ⟨w.heap.size + 1, 5, none⟩ (.slice (some ⟨g, 0, none⟩) es.length cap)).setCell ⟨w.heap.size + 1, 6, none⟩ (.int .i64 s0)).setCell ⟨w.heap.size + 1, 7, none⟩ (.slice (some ⟨h, 0, none⟩) ts.length cap2) = W5 := by rw [hW5]; simp only [setMany]
      have EW := hide eW
      have HZ := hide hsz
      clear eW hW5 hr5 G5 t5 hr5' o5 ow3 t3 hr3 hsz 
      go_wp2
      rw [unhide EW]
      obtain ⟨Q1, Q2, Q3⟩ := unhide ER
      have r0 := cellIn (i := 0) Q3 rfl
      have r1 := cellIn (i := 1) Q3 rfl
      have r2 := cellIn (i := 2) Q3 rfl
      have r3 := cellIn (i := 3) Q3 rfl
      have r4 := cellIn (i := 4) Q3 rfl
      have r5 := cellIn (i := 5) Q3 rfl
      have r6 := cellIn (i := 6) Q3 rfl
      have r7 := cellIn (i := 7) Q3 rfl
      refine bodyPost_ret (v := .agg #[.int .i64 id, .int .i64 p1, .int .i64 p2, .int .i64 p3, .int .i64 p4, .slice (some ⟨g, 0, none⟩) es.length cap, .int .i64 s0, .slice (some ⟨h, 0, none⟩) ts.length cap2]) (by simp [results, Try.results23, go_sem, r0, r1, r2, r3, r4, r5, r6, r7]) rfl ⟨g, cap, h, cap2, rfl, Q1, Q2⟩
end Go.Proofs.Ytnpfboligmnhpaa
