/- The walk of the specification's TasksIn: the tasks of a state, rising. -/
import Derived.Test.YtnpfboligmnhpaaRunHelp
import Derived.Test.YtnpfboligmnhpaaSpecPlans
import Derived.Test.YtnpfboligmnhpaaAppBase
import Derived.Deep.QuietTactic
import Derived.BigQuiet
import Derived.Deep.RegionHeld3
namespace Go.Proofs.Ytnpfboligmnhpaa
open Go.RowKit
open scoped Classical
set_option linter.unusedVariables false
set_option linter.unusedSimpArgs false
attribute [local go_sem ↓] Go.wp_at_zero Go.wp_at_succ

/-- The tasks of a state. -/
def tinF (ts : List QuadL) (st : Int) : Int → Bool := fun t => (ts.getD t.toNat quad0).a == st
def tinA (ts : List QuadL) (st : Int) : List Int := risen (tinF ts st) ts.length
theorem tinF_at (ts : List QuadL) (st : Int) (k : Nat) (h : k < ts.length) : tinF ts st (k : Int) = (ts[k].a == st) := by
  unfold tinF
  rw [Int.toNat_natCast, List.getD_eq_getElem?_getD, List.getElem?_eq_getElem h]
  rfl
theorem tinA_len (ts : List QuadL) (st : Int) : (tinA ts st).length ≤ ts.length := risen_len _ _
theorem ownsRow_baseT {w : World} {B B' size n : Nat} {e : TypeId} {v : Value} {xs : List Value} (h : w.ownsRow B e size v n xs) (hB : B' ≤ B) : w.ownsRow B' e size v n xs := by
  refine ⟨h.1, ?_⟩
  rcases h.2 with h' | ⟨g, cap, cur, q1, q2, q3⟩
  · exact .inl h'
  · exact .inr ⟨g, cap, cur, q1, by omega, q3⟩
set_option maxRecDepth 100000 in
set_option maxHeartbeats 3200000 in
theorem specTasksIn_any (ve vt : Value) (bt : Nat) (r : RunL) (st : Int) (w : World) (hT : w.ownsRow bt 40 4 vt r.tasks.length (quadsC r.tasks)) (hm : r.tasks.length ≤ 2000000) :
    Calls Try.prog 16 #[runV r ve vt, .int .i64 st] w fun e w' => ∃ g cap, e = .returned (.slice (some ⟨g, 0, none⟩) (tinA r.tasks st).length cap) ∧ w'.ownsRow w.heap.size 3 1 (.slice (some ⟨g, 0, none⟩) (tinA r.tasks st).length cap) (tinA r.tasks st).length (intC (tinA r.tasks st)) ∧ Below w.heap.size w w' := by
  obtain ⟨j0, hj0, hy0, hy1, hy2⟩ := info_parts info3
  obtain ⟨id, p, s0, ts⟩ := r
  obtain ⟨p1, p2, p3, p4, es⟩ := p
  unfold runV runC
  simp only at hT hm ⊢
  obtain ⟨at_, ct, rfl, sgt⟩ := ownsRow_shape hT
  obtain ⟨R, hR⟩ : ∃ R, R = tinA ts st := ⟨_, rfl⟩
  rw [← hR]
  have HR : Hid (R = risen (tinF ts st) ts.length) := hide hR
  have FA := hide (tinF_at ts st)
  clear hR
  generalize tinF ts st = f at HR FA
  have HT := hide hT
  clear hT
  go_enter Try.func16, Try.ntmps16
  go_wp2
  obtain ⟨W, hW⟩ : ∃ W, W = w.alloc (Obj.cells #[.int .i64 id, .int .i64 p1, .int .i64 p2, .int .i64 p3, .int .i64 p4, ve, .int .i64 s0, .slice at_ ts.length ct] 29) := ⟨_, rfl⟩
  have HX := hide (show W.heap[w.heap.size]? = some (.cells #[.int .i64 id, .int .i64 p1, .int .i64 p2, .int .i64 p3, .int .i64 p4, ve, .int .i64 s0, .slice at_ ts.length ct] 29 (0, 0)) by rw [hW]; exact heap_alloc_new _ _)
  have hW0 : Below w.heap.size w W := by rw [hW]; exact (Below.refl _ _).alloc (Nat.le_refl _) _
  have hs0 : W.heap.size = w.heap.size + 1 := by rw [hW]; simp
  rw [← hW]
  clear hW
  obtain ⟨W1, hW1⟩ : ∃ W1, W1 = W.alloc (Obj.cells #[] 3) := ⟨_, rfl⟩
  have ho1 : W1.ownsRow W.heap.size 3 1 (.slice (some ⟨w.heap.size + 1, 0, none⟩) 0 0) 0 (intC []) := by rw [hW1]; exact ownsRow_none W W.heap.size 1 3 (w.heap.size + 1) hs0 (by omega)
  have hb1 : Below W.heap.size W W1 := by rw [hW1]; exact (Below.refl _ _).alloc (Nat.le_refl _) _
  rw [← hW1]
  clear hW1 hs0
  go_loopw [5, 6] (fun l v wr => ∃ (k gl cl : Nat) (ls : List Int), k ≤ ts.length ∧ v = .int .i64 k ∧ l = .slice (some ⟨gl, 0, none⟩) ls.length cl ∧ Hid (ls = risen f k) ∧ wr.ownsRow W.heap.size 3 1 (.slice (some ⟨gl, 0, none⟩) ls.length cl) ls.length (intC ls) ∧ Below W.heap.size W wr)
    (fun _ v _ => ts.length - (intOf v).toNat)
  case atStart => exact ⟨0, w.heap.size + 1, 0, [], Nat.zero_le _, rfl, rfl, hide rfl, ho1, hb1⟩
  case round =>
    clear ho1 hb1
    obtain ⟨k, gl, cl, ls, hk, rfl, rfl, hls, ho, hb⟩ := hrel
    have x7 := cellIn (i := 7) (heapLater hb (unhide HX)) rfl
    have hbw := hW0.trans (hb.mono hW0.size)
    by_cases hlt : k < ts.length
    · obtain ⟨gt, rfl⟩ := sgt (by omega)
      have hk0 : (0 : Int) ≤ (k : Int) := Int.natCast_nonneg _
      have hk1 : (k : Int) < (ts.length : Int) := by omega
      obtain ⟨c1, -, -, -⟩ := quadsC_cell (ownsRow_below (unhide HT) hbw) hlt
      have SU := hide (risen_succ f k)
      have hrl := risen_len f k
      have hll : ls.length ≤ 2000000 := by rw [unhide hls]; omega
      have FK := unhide FA k hlt
      generalize ts[k].a = x at c1 FK
      have hsz := hb.size
      by_cases hx : x = st
      · have e1 : (x == st) = true := by simp [hx]
        rw [e1] at FK
        have R2 : Hid (ls ++ [(k : Int)] = risen f (k + 1)) := hide (by rw [unhide SU, unhide hls, FK]; simp)
        have HXE := hide hx
        clear hx FK SU hls hrl
        go_wp2_with (at_builtin; refine wpList_append_lies _ (by rfl) _ _ _ (by rfl) W.heap.size 3 j0 _ 1 8 Try.underlying34 hj0 hy0 hy1 hy2 rfl (by omega) _ ls.length _ (by rfl) (ho.alloc _) ⟨wr.heap.size, 0, none⟩ 1 1 [.int .i64 (k : Int)] (by rfl) (by rfl) (World.news_of_block (cs := #[.int .i64 (k : Int)]) (t := 3) (fr := (0, 0)) (heap_alloc_new wr _)) (by simp [Value.oneCell']) (by omega) (by unfold maxLen; omega) (by omega) (by simp; omega) (wr.heap.size + 1) (by simp) ?_)
        intro gl2 cl2 W4 ho4 hg4 hat4 hlt4
        have hB4 : Below W.heap.size W W4 := (hb.alloc hb.size _).grown hg4 (by simp; omega) (fun j hj => by cases hj; exact (ho.lt gl rfl).1)
        have ho5 : W4.ownsRow W.heap.size 3 1 (.slice (some ⟨gl2, 0, none⟩) (ls ++ [(k : Int)]).length cl2) (ls ++ [(k : Int)]).length (intC (ls ++ [(k : Int)])) := by
          rw [List.length_append, intC_append]; exact ho4
        have HH := hide (And.intro ho5 hB4)
        clear ho4 hg4 hat4 hlt4 ho hb ho5 hB4 x7 c1 hbw
        go_wp2
        go_roundw
        case rel => exact ⟨k + 1, gl2, cl2, ls ++ [(k : Int)], by omega, by go_num, by simp, R2, (unhide HH).1, (unhide HH).2⟩
        case measure => simp [intOf]; omega
      · have e1 : (x == st) = false := by simp [hx]
        rw [e1] at FK
        have R2 : Hid (ls = risen f (k + 1)) := hide (by rw [unhide SU, unhide hls, FK]; simp)
        clear hx FK SU hls hrl hbw
        have HH := hide (And.intro ho hb)
        clear ho hb
        go_wp2
        go_roundw
        case rel => exact ⟨k + 1, gl, cl, ls, by omega, by go_num, rfl, R2, (unhide HH).1, (unhide HH).2⟩
        case measure => simp [intOf]; omega
    · have hke : k = ts.length := by omega
      have HE : Hid (R = ls) := hide (by rw [unhide HR, unhide hls, hke])
      have HH := hide (And.intro (ownsRow_baseT ho hW0.size) hbw)
      clear ho hb hbw hke hls
      go_wp2
      go_ret
      rw [unhide HE]
      exact ⟨gl, cl, rfl, (unhide HH).1, (unhide HH).2⟩
end Go.Proofs.Ytnpfboligmnhpaa

/- The walk of the specification's l09State: what the state of a run has to be. -/
namespace Go.Proofs.Ytnpfboligmnhpaa
open Go.RowKit
open scoped Classical
set_option linter.unusedVariables false
set_option linter.unusedSimpArgs false
attribute [local go_sem ↓] Go.wp_at_zero Go.wp_at_succ

/-- How many tasks are in a state; all counts, as a list. -/
def cntS (ts : List QuadL) (s : Nat) : Nat := ts.countP (fun x => x.a == (s : Int))
def cntC (ts : List QuadL) : List Int := (List.range 7).map (fun s => (cntS ts s : Int))
theorem cntS_le (ts : List QuadL) (s : Nat) : cntS ts s ≤ ts.length := List.countP_le_length
theorem cntC_len (ts : List QuadL) : (cntC ts).length = 7 := by simp [cntC]
theorem cntC_nil : cntC [] = [0, 0, 0, 0, 0, 0, 0] := rfl
theorem cntC_at (ts : List QuadL) (s : Nat) (h : s < (cntC ts).length) : (cntC ts)[s] = (cntS ts s : Int) := by simp [cntC]
theorem cntS_snoc (ts : List QuadL) (x : QuadL) (s : Nat) : cntS (ts ++ [x]) s = cntS ts s + (if x.a = (s : Int) then 1 else 0) := by
  unfold cntS
  rw [List.countP_append]
  by_cases h : x.a = (s : Int)
  · simp [h]
  · simp [h]
theorem cntC_set (ts : List QuadL) (x : QuadL) (s : Nat) (hs : s < 7) (hx : x.a = (s : Int)) : (cntC ts).set s ((cntS ts s : Int) + 1) = cntC (ts ++ [x]) := by
  apply List.ext_getElem
  · simp [cntC]
  · intro j h1 h2
    rw [List.getElem_set]
    simp only [cntC, List.getElem_map, List.getElem_range]
    rw [cntS_snoc]
    by_cases e : s = j
    · subst e
      rw [if_pos rfl, if_pos hx]
      omega
    · rw [if_neg e, if_neg (by omega)]
      rfl
/-- What the state of a run has to be; 0 when its tasks fit none. -/
def stateA (ts : List QuadL) : Int :=
  if cntS ts 4 = ts.length then 2
  else if cntS ts 5 = 1 ∧ cntS ts 1 + cntS ts 2 + cntS ts 3 = 0 then 3
  else if cntS ts 5 = 0 ∧ 0 < cntS ts 6 ∧ cntS ts 1 + cntS ts 2 + cntS ts 3 = 0 then 4
  else if cntS ts 5 = 0 ∧ cntS ts 6 = 0 then 1 else 0
theorem stateA_in (ts : List QuadL) : 0 ≤ stateA ts ∧ stateA ts ≤ 4 := by
  unfold stateA
  split
  · omega
  · split
    · omega
    · split
      · omega
      · split <;> omega
set_option maxRecDepth 100000 in
set_option maxHeartbeats 6400000 in
theorem specState_any (ve vt : Value) (bt : Nat) (r : RunL) (w : World) (hT : w.ownsRow bt 40 4 vt r.tasks.length (quadsC r.tasks)) (hm : r.tasks.length ≤ 2000000) (hin : ∀ x ∈ r.tasks, 1 ≤ x.a ∧ x.a ≤ 6) :
    Calls Try.prog 57 #[runV r ve vt] w fun e w' => e = .returned (.int .i64 (stateA r.tasks)) ∧ Below w.heap.size w w' := by
  obtain ⟨id, p, s0, ts⟩ := r
  obtain ⟨p1, p2, p3, p4, es⟩ := p
  unfold runV runC
  simp only at hT hm hin ⊢
  obtain ⟨at_, ct, rfl, sgt⟩ := ownsRow_shape hT
  obtain ⟨R, hR⟩ : ∃ R, R = stateA ts := ⟨_, rfl⟩
  rw [← hR]
  have HR := hide hR
  clear hR
  have HT := hide hT
  have HIN := hide hin
  clear hT hin
  go_enter Try.func57, Try.ntmps57
  go_wp2
  obtain ⟨W, hW⟩ : ∃ W, W = w.alloc (Obj.cells #[.int .i64 id, .int .i64 p1, .int .i64 p2, .int .i64 p3, .int .i64 p4, ve, .int .i64 s0, .slice at_ ts.length ct] 29) := ⟨_, rfl⟩
  have HX := hide (show W.heap[w.heap.size]? = some (.cells #[.int .i64 id, .int .i64 p1, .int .i64 p2, .int .i64 p3, .int .i64 p4, ve, .int .i64 s0, .slice at_ ts.length ct] 29 (0, 0)) by rw [hW]; exact heap_alloc_new _ _)
  have hW0 : Below w.heap.size w W := by rw [hW]; exact (Below.refl _ _).alloc (Nat.le_refl _) _
  have hs0 : W.heap.size = w.heap.size + 1 := by rw [hW]; simp
  rw [← hW]
  clear hW
  obtain ⟨W1, hW1⟩ : ∃ W1, W1 = W.alloc (Obj.cells #[.int .i64 0, .int .i64 0, .int .i64 0, .int .i64 0, .int .i64 0, .int .i64 0, .int .i64 0] 3) := ⟨_, rfl⟩
  have ho1 : W1.ownsRow W.heap.size 3 1 (.slice (some ⟨w.heap.size + 1, 0, none⟩) 7 7) 7 (intC (cntC [])) := by
    rw [hW1, ← hs0, cntC_nil]
    exact World.ownsRow_lit (base := W.heap.size) (e := 3) (size := 1) W #[.int .i64 0, .int .i64 0, .int .i64 0, .int .i64 0, .int .i64 0, .int .i64 0, .int .i64 0] 7 (Nat.le_refl _) (by decide) rfl
  have hb1 : Below W.heap.size W W1 := by rw [hW1]; exact (Below.refl _ _).alloc (Nat.le_refl _) _
  rw [← hW1]
  obtain ⟨gn, hgn⟩ : ∃ gn, gn = w.heap.size + 1 := ⟨_, rfl⟩
  rw [← hgn] at ho1 ⊢
  have hgW : W.heap.size ≤ gn := by omega
  clear hW1 hs0 hgn
  go_loopw [4] (fun v wr => ∃ k : Nat, k ≤ ts.length ∧ v = .int .i64 k ∧ wr.ownsRow W.heap.size 3 1 (.slice (some ⟨gn, 0, none⟩) 7 7) 7 (intC (cntC (ts.take k))) ∧ Below W.heap.size W wr)
    (fun v _ => ts.length - (intOf v).toNat)
  case atStart => exact ⟨0, Nat.zero_le _, rfl, by simpa using ho1, hb1⟩
  case round =>
    clear ho1 hb1
    obtain ⟨k, hk, rfl, ho, hb⟩ := hrel
    have x7 := cellIn (i := 7) (heapLater hb (unhide HX)) rfl
    have hbw := hW0.trans (hb.mono hW0.size)
    by_cases hlt : k < ts.length
    · obtain ⟨gt, rfl⟩ := sgt (by omega)
      have hk0 : (0 : Int) ≤ (k : Int) := Int.natCast_nonneg _
      have hk1 : (k : Int) < (ts.length : Int) := by omega
      obtain ⟨c1, -, -, -⟩ := quadsC_cell (ownsRow_below (unhide HT) hbw) hlt
      have HS := hide (List.take_succ_eq_append_getElem hlt)
      obtain ⟨i1, i2⟩ := unhide HIN ts[k] (List.getElem_mem hlt)
      have CS := hide (cntC_set (ts.take k) ts[k])
      generalize ts[k] = x at c1 HS i1 i2 CS
      obtain ⟨s, hs⟩ : ∃ s : Nat, x.a = (s : Int) := ⟨x.a.toNat, by omega⟩
      have hs7 : s < 7 := by omega
      have hs7i : (s : Int) < 7 := by omega
      have hs0i : (0 : Int) ≤ (s : Int) := by omega
      have d1 := intC_cell ho (by rw [cntC_len]) (k := s) (by rw [cntC_len]; omega)
      rw [cntC_at] at d1
      have hcl : cntS (ts.take k) s ≤ 2000000 := by have := cntS_le (ts.take k) s; rw [List.length_take] at this; omega
      have fz := ho.frozenAt s
      have ST := ho.stored s (.int .i64 ((cntS (ts.take k) s : Int) + 1))
      rw [intC_set, unhide CS s hs7 hs, ← unhide HS] at ST
      have HB := hide (And.intro ST.1 (hb.grown ST.2 hb.size (fun j hj => by simp [Value.ownBlock] at hj; omega)))
      rw [hs] at c1
      generalize cntS (ts.take k) s = c at d1 hcl HB
      clear ST ho hb CS HS hs i1 i2 hbw
      go_wp2
      go_roundw
      case rel => exact ⟨k + 1, by omega, by go_num, (unhide HB).1, (unhide HB).2⟩
      case measure => simp [intOf]; omega
    · have hke : ts.take k = ts := List.take_of_length_le (by omega)
      rw [hke] at ho
      have HRR : Hid (R = if cntS ts 4 = ts.length then 2 else if cntS ts 5 = 1 ∧ cntS ts 1 + cntS ts 2 + cntS ts 3 = 0 then 3 else if cntS ts 5 = 0 ∧ 0 < cntS ts 6 ∧ cntS ts 1 + cntS ts 2 + cntS ts 3 = 0 then 4 else if cntS ts 5 = 0 ∧ cntS ts 6 = 0 then 1 else 0) := hide (by rw [unhide HR]; rfl)
      have d1 := intC_cell ho (by rw [cntC_len]) (k := 1) (by rw [cntC_len]; omega)
      rw [cntC_at] at d1
      have b1 := cntS_le ts 1
      have d2 := intC_cell ho (by rw [cntC_len]) (k := 2) (by rw [cntC_len]; omega)
      rw [cntC_at] at d2
      have b2 := cntS_le ts 2
      have d3 := intC_cell ho (by rw [cntC_len]) (k := 3) (by rw [cntC_len]; omega)
      rw [cntC_at] at d3
      have b3 := cntS_le ts 3
      have d4 := intC_cell ho (by rw [cntC_len]) (k := 4) (by rw [cntC_len]; omega)
      rw [cntC_at] at d4
      have b4 := cntS_le ts 4
      have d5 := intC_cell ho (by rw [cntC_len]) (k := 5) (by rw [cntC_len]; omega)
      rw [cntC_at] at d5
      have b5 := cntS_le ts 5
      have d6 := intC_cell ho (by rw [cntC_len]) (k := 6) (by rw [cntC_len]; omega)
      rw [cntC_at] at d6
      have b6 := cntS_le ts 6
      clear ho hke HR sgt
      generalize cntS ts 1 = c1 at d1 b1 HRR
      generalize cntS ts 2 = c2 at d2 b2 HRR
      generalize cntS ts 3 = c3 at d3 b3 HRR
      generalize cntS ts 4 = c4 at d4 b4 HRR
      generalize cntS ts 5 = c5 at d5 b5 HRR
      generalize cntS ts 6 = c6 at d6 b6 HRR
      have m1 : c1 ≤ 2000000 ∧ c2 ≤ 2000000 ∧ c3 ≤ 2000000 := by omega
      obtain ⟨m1a, m1b, m1c⟩ := m1
      go_wp2_with fail
      go_region_held3 (fun w' => w'.cell? ⟨gn, 1, none⟩ = some (.int .i64 (c1 : Int)) ∧ w'.cell? ⟨gn, 2, none⟩ = some (.int .i64 (c2 : Int)) ∧ w'.cell? ⟨gn, 3, none⟩ = some (.int .i64 (c3 : Int))) (go_keep) (fail)
      go_wp2_with fail
      go_region_held3 (fun w' => w'.cell? ⟨gn, 4, none⟩ = some (.int .i64 (c4 : Int)) ∧ w'.cell? ⟨w.heap.size, 7, none⟩ = some (.slice at_ ts.length ct)) (go_keep) (fail)
      have HB2 : Below w.heap.size w wr.drew.drew := hbw.drew.drew
      clear hb
      by_cases q1 : c4 = ts.length
      · have e1 : ((c4 : Int) == (ts.length : Int)) = true := by simp [q1]
        have HE : Hid (R = 2) := hide (by rw [unhide HRR, if_pos q1])
        clear q1 HRR
        go_wp2
        go_ret
        exact ⟨by rw [unhide HE]; rfl, HB2⟩
      · have e1 : ((c4 : Int) == (ts.length : Int)) = false := by simp; omega
        by_cases q0 : c1 + c2 + c3 = 0
        · have er : ((c1 : Int) + (c2 : Int) + (c3 : Int) == 0) = true := by rw [beq_iff_eq]; omega
          by_cases q5 : c5 = 1
          · have e5 : ((c5 : Int) == 1) = true := by simp [q5]
            have HE : Hid (R = 3) := hide (by rw [unhide HRR, if_neg q1, if_pos ⟨q5, q0⟩])
            clear q1 q0 q5 HRR
            go_wp2
            go_ret
            exact ⟨by rw [unhide HE]; rfl, HB2⟩
          · have e5 : ((c5 : Int) == 1) = false := by rw [beq_eq_false_iff_ne]; omega
            by_cases q6 : c5 = 0
            · have e6 : ((c5 : Int) == 0) = true := by simp [q6]
              by_cases q7 : 0 < c6
              · have e7 : decide ((0 : Int) < (c6 : Int)) = true := by simp; omega
                have q7i : (0 : Int) < (c6 : Int) := by omega
                have HE : Hid (R = 4) := hide (by rw [unhide HRR, if_neg q1, if_neg (by omega), if_pos ⟨q6, q7, q0⟩])
                have K5 := hide q6
                clear q1 q0 q5 q6 q7 HRR
                go_wp2
                go_ret
                exact ⟨by rw [unhide HE]; rfl, HB2⟩
              · have e7 : decide ((0 : Int) < (c6 : Int)) = false := by simp; omega
                have e8 : ((c6 : Int) == 0) = true := by rw [beq_iff_eq]; omega
                have HE : Hid (R = 1) := hide (by rw [unhide HRR, if_neg q1, if_neg (by omega), if_neg (by omega), if_pos ⟨q6, by omega⟩])
                have c60 : c6 = 0 := by omega
                clear q1 q0 q5 q6 q7 HRR e7 e8
                subst c60
                go_wp2
                go_ret
                exact ⟨by rw [unhide HE]; rfl, HB2⟩
            · have e6 : ((c5 : Int) == 0) = false := by rw [beq_eq_false_iff_ne]; omega
              have HE : Hid (R = 0) := hide (by rw [unhide HRR, if_neg q1, if_neg (by omega), if_neg (by omega), if_neg (by omega)])
              clear q1 q0 q5 q6 HRR
              go_wp2
              go_ret
              exact ⟨by rw [unhide HE]; rfl, HB2⟩
        · have er : ((c1 : Int) + (c2 : Int) + (c3 : Int) == 0) = false := by rw [beq_eq_false_iff_ne]; omega
          by_cases q6 : c5 = 0
          · have e6 : ((c5 : Int) == 0) = true := by simp [q6]
            have e5 : ((c5 : Int) == 1) = false := by rw [beq_eq_false_iff_ne]; omega
            by_cases q8 : c6 = 0
            · have e7 : decide ((0 : Int) < (c6 : Int)) = false := by simp; omega
              have e8 : ((c6 : Int) == 0) = true := by rw [beq_iff_eq]; omega
              have HE : Hid (R = 1) := hide (by rw [unhide HRR, if_neg q1, if_neg (by omega), if_neg (by omega), if_pos ⟨q6, q8⟩])
              clear q1 q0 q6 HRR e7 e8
              subst q8
              go_wp2
              go_ret
              exact ⟨by rw [unhide HE]; rfl, HB2⟩
            · have e7 : decide ((0 : Int) < (c6 : Int)) = true := by simp; omega
              have q7i : (0 : Int) < (c6 : Int) := by omega
              have e8 : ((c6 : Int) == 0) = false := by rw [beq_eq_false_iff_ne]; omega
              have HE : Hid (R = 0) := hide (by rw [unhide HRR, if_neg q1, if_neg (by omega), if_neg (by omega), if_neg (by omega)])
              clear q1 q0 q6 q8 HRR
              go_wp2
              go_ret
              exact ⟨by rw [unhide HE]; rfl, HB2⟩
          · have e6 : ((c5 : Int) == 0) = false := by rw [beq_eq_false_iff_ne]; omega
            have HE : Hid (R = 0) := hide (by rw [unhide HRR, if_neg q1, if_neg (by omega), if_neg (by omega), if_neg (by omega)])
            clear q1 q0 q6 HRR
            by_cases q5 : c5 = 1
            · have e5 : ((c5 : Int) == 1) = true := by simp [q5]
              clear q5
              go_wp2
              go_ret
              exact ⟨by rw [unhide HE]; rfl, HB2⟩
            · have e5 : ((c5 : Int) == 1) = false := by rw [beq_eq_false_iff_ne]; omega
              clear q5
              go_wp2
              go_ret
              exact ⟨by rw [unhide HE]; rfl, HB2⟩
end Go.Proofs.Ytnpfboligmnhpaa

/- The walk of the specification's l09Task: whether a task fits those for which it waits. -/
namespace Go.Proofs.Ytnpfboligmnhpaa
open Go.RowKit
open scoped Classical
set_option linter.unusedVariables false
set_option linter.unusedSimpArgs false
attribute [local go_sem ↓] Go.wp_at_zero Go.wp_at_succ

/-- Of these tasks, how many are not done. -/
def needL (ts : List QuadL) (l : List Int) : Nat := l.countP (fun u => (ts.getD u.toNat quad0).a != 4)
theorem needL_snoc (ts : List QuadL) (l : List Int) (u : Int) : needL ts (l ++ [u]) = needL ts l + (if (ts.getD u.toNat quad0).a = 4 then 0 else 1) := by
  unfold needL
  rw [List.countP_append]
  by_cases h : (ts.getD u.toNat quad0).a = 4
  · simp [h]
  · simp [h]
theorem needL_le (ts : List QuadL) (l : List Int) : needL ts l ≤ l.length := List.countP_le_length
/-- The tasks for which one waits. -/
def befL (p : PlanL) (t : Int) : List Int := risen (fun u => hasE p.edges u t) p.tasks.toNat
theorem risen_in (f : Int → Bool) (n : Nat) : ∀ u ∈ risen f n, 0 ≤ u ∧ u < (n : Int) := by
  induction n with
  | zero => simp [risen_zero]
  | succ n ih =>
    intro u hu
    rw [risen_succ, List.mem_append] at hu
    rcases hu with hu | hu
    · have := ih u hu; omega
    · split at hu
      · simp at hu; omega
      · simp at hu
/-- Whether a task fits. -/
def TaskFits (most : Int) (x : QuadL) (need : Nat) : Prop :=
  x.b = (need : Int) ∧ (0 ≤ x.c ∧ x.c ≤ most) ∧ (x.a = 3 → 1 ≤ x.d ∧ x.d ≤ 1000000000) ∧ (x.a ≠ 3 → x.d = 0) ∧
  ((x.a = 1 ∧ 0 < need) ∨ (x.a = 2 ∧ need = 0 ∧ x.c < most) ∨ ((x.a = 3 ∨ x.a = 4 ∨ x.a = 5) ∧ need = 0 ∧ 1 ≤ x.c) ∨ x.a = 6)
set_option maxRecDepth 100000 in
set_option maxHeartbeats 12800000 in
theorem specTask_any (ve vt : Value) (ba bt n k : Nat) (r : RunL) (w : World) (hA : w.ownsRow ba 96 2 ve r.plan.edges.length (edgesC r.plan.edges)) (hT : w.ownsRow bt 40 4 vt r.tasks.length (quadsC r.tasks)) (hn : r.plan.tasks = (n : Int)) (h12 : n ≤ 12) (hel : r.plan.edges.length ≤ 30) (hnd : r.plan.edges.Nodup) (hlen : r.tasks.length = n) (hk : k < r.tasks.length) :
    Calls Try.prog 73 #[runV r ve vt, .int .i64 (k : Int)] w fun e w' => e = .returned (.bool (decide (TaskFits r.plan.most r.tasks[k] (needL r.tasks (befL r.plan (k : Int)))))) ∧ Below w.heap.size w w' := by
  obtain ⟨id, p, s0, ts⟩ := r
  simp only at hA hT hn hel hnd hlen hk
  obtain ⟨ae, ce, rfl, -⟩ := ownsRow_shape hA
  obtain ⟨at_, ct, rfl, sgt⟩ := ownsRow_shape hT
  obtain ⟨gt, rfl⟩ := sgt (by omega)
  have BF := fun (W : World) (h : W.ownsRow ba 96 2 (.slice ae p.edges.length ce) p.edges.length (edgesC p.edges)) => hide (specBef_any _ ba n p (k : Int) W h hn h12 hel hnd)
  have HL : Hid (befL p (k : Int) = risen (fun t => hasE p.edges t (k : Int)) n) := hide (by unfold befL; rw [hn, Int.toNat_natCast])
  obtain ⟨p1, p2, p3, p4, es⟩ := p
  unfold runV runC
  unfold planV at BF
  simp only at hA hT hn hel hnd BF HL ⊢
  subst hn
  generalize befL ⟨p1, p2, p3, (n : Int), es⟩ (k : Int) = L at HL ⊢
  have hLi : ∀ u ∈ L, 0 ≤ u ∧ u < (n : Int) := by rw [unhide HL]; exact risen_in _ _
  have hLl : L.length ≤ 12 := by rw [unhide HL]; have := risen_len (fun t => hasE es t (k : Int)) n; omega
  rw [← unhide HL] at BF
  obtain ⟨c1, c2, c3, c4⟩ := quadsC_cell (World.ownsRow.alloc hT (Obj.cells #[.int .i64 id, .int .i64 p1, .int .i64 p2, .int .i64 p3, .int .i64 (n : Int), .slice ae es.length ce, .int .i64 s0, .slice (some ⟨gt, 0, none⟩) ts.length ct] 29)) hk
  obtain ⟨x, hx⟩ : ∃ x, x = ts[k] := ⟨_, rfl⟩
  rw [← hx] at c1 c2 c3 c4
  rw [← hx]
  obtain ⟨PF, hPF⟩ : ∃ P, P = TaskFits p2 x (needL ts L) := ⟨_, rfl⟩
  rw [← hPF]
  have HPF := hide hPF
  clear hPF
  have hk0 : (0 : Int) ≤ (k : Int) := Int.natCast_nonneg _
  have hk1 : (k : Int) < (ts.length : Int) := by omega
  have HLi := hide hLi
  have HA := hide (And.intro hA hT)
  have HN := hide hlen
  clear hA hT hlen hLi hnd HL hx sgt
  go_enter Try.func73, Try.ntmps73
  go_wp2_with fail
  obtain ⟨W, hW⟩ : ∃ W, W = (w.alloc (Obj.cells #[.int .i64 id, .int .i64 p1, .int .i64 p2, .int .i64 p3, .int .i64 (n : Int), .slice ae es.length ce, .int .i64 s0, .slice (some ⟨gt, 0, none⟩) ts.length ct] 29)).alloc (Obj.cells #[.int .i64 x.a, .int .i64 x.b, .int .i64 x.c, .int .i64 x.d] 40) := ⟨_, rfl⟩
  have hv : W.heap[w.heap.size]? = some (.cells #[.int .i64 id, .int .i64 p1, .int .i64 p2, .int .i64 p3, .int .i64 (n : Int), .slice ae es.length ce, .int .i64 s0, .slice (some ⟨gt, 0, none⟩) ts.length ct] 29 (0, 0)) := by rw [hW, Below.heap_alloc _ _ _ (by simp)]; exact heap_alloc_new _ _
  have hy : W.heap[w.heap.size + 1]? = some (.cells #[.int .i64 x.a, .int .i64 x.b, .int .i64 x.c, .int .i64 x.d] 40 (0, 0)) := by rw [hW]; exact allocAt _ _ _ (by simp)
  have hb0 : Below w.heap.size w W := by rw [hW]; exact ((Below.refl _ _).alloc (Nat.le_refl _) _).alloc (by simp) _
  rw [← hW]
  clear hW c1 c2 c3 c4
  refine (unhide (BF _ (ownsRow_below (unhide HA).1 hb0))).mono ?_
  rintro e w1 ⟨g, cap, rfl, ol, hb1⟩
  have t1 := hb0.trans (hb1.mono hb0.size)
  have HV := hide (And.intro (heapLater hb1 hv) (heapLater hb1 hy))
  have HO := hide (And.intro ol (ownsRow_below (unhide HA).2 t1))
  clear BF hv hy hb0 hb1 ol HA
  go_wp2
  go_loopw [6, 8] (fun q v wr => ∃ i : Nat, i ≤ L.length ∧ v = .int .i64 i ∧ q = .int .i64 (needL ts (L.take i) : Int) ∧ Below w1.heap.size w1 wr)
    (fun _ v _ => L.length - (intOf v).toNat)
  case atStart => exact ⟨0, Nat.zero_le _, rfl, by simp [needL], Below.refl _ _⟩
  case round =>
    obtain ⟨i, hi, rfl, rfl, hb⟩ := hrel
    have x7 := cellIn (i := 7) (heapLater hb (unhide HV).1) rfl
    have hnl : needL ts (L.take i) ≤ 12 := by have := needL_le ts (L.take i); rw [List.length_take] at this; omega
    by_cases hlt : i < L.length
    · have hi0 : (0 : Int) ≤ (i : Int) := Int.natCast_nonneg _
      have hi1 : (i : Int) < (L.length : Int) := by omega
      have d1 := intC_cell (ownsRow_below (unhide HO).1 hb) rfl hlt
      have HS := hide (List.take_succ_eq_append_getElem hlt)
      obtain ⟨u0, u1⟩ := unhide HLi L[i] (List.getElem_mem hlt)
      have NS := hide (needL_snoc ts (L.take i) L[i])
      generalize L[i] = u at d1 HS u0 u1 NS
      obtain ⟨j, rfl⟩ : ∃ j : Nat, u = (j : Int) := ⟨u.toNat, by omega⟩
      have hj : j < ts.length := by have := unhide HN; omega
      have hj1 : (j : Int) < (ts.length : Int) := by omega
      obtain ⟨y1, -, -, -⟩ := quadsC_cell (ownsRow_below (unhide HO).2 hb) hj
      have GD : Hid ((ts.getD (j : Int).toNat quad0).a = ts[j].a) := hide (by rw [Int.toNat_natCast, List.getD_eq_getElem?_getD, List.getElem?_eq_getElem hj]; rfl)
      rw [unhide GD, ← unhide HS] at NS
      generalize ts[j].a = z at y1 NS
      have hbd : Below w1.heap.size w1 wr.drew := hb.drew
      by_cases hz : z = 4
      · have e1 : (z != 4) = false := by simp [hz]
        have N2 : Hid (needL ts (L.take (i + 1)) = needL ts (L.take i)) := hide (by rw [unhide NS, if_pos hz]; omega)
        have HZ := hide hz
        generalize needL ts (L.take i) = nd at hnl N2
        clear hz NS HS GD
        go_wp2_with fail
        go_region_held3 (fun w' => w'.cell? ⟨w.heap.size, 7, none⟩ = some (.slice (some ⟨gt, 0, none⟩) ts.length ct) ∧ w'.cell? ⟨g, i, none⟩ = some (.int .i64 (j : Int)) ∧ w'.cell? ⟨gt, j * 4, none⟩ = some (.int .i64 z)) (go_keep) (fail)
        clear x7 d1 y1 hb
        go_wp2
        go_roundw
        case rel => exact ⟨i + 1, by omega, by go_num, by rw [unhide N2], hbd⟩
        case measure => simp [intOf]; omega
      · have e1 : (z != 4) = true := by simp [hz]
        have N2 : Hid (needL ts (L.take (i + 1)) = needL ts (L.take i) + 1) := hide (by rw [unhide NS, if_neg hz])
        generalize needL ts (L.take i) = nd at hnl N2
        clear hz NS HS GD
        go_wp2_with fail
        go_region_held3 (fun w' => w'.cell? ⟨w.heap.size, 7, none⟩ = some (.slice (some ⟨gt, 0, none⟩) ts.length ct) ∧ w'.cell? ⟨g, i, none⟩ = some (.int .i64 (j : Int)) ∧ w'.cell? ⟨gt, j * 4, none⟩ = some (.int .i64 z)) (go_keep) (fail)
        clear x7 d1 y1 hb
        go_wp2
        go_roundw
        case rel => exact ⟨i + 1, by omega, by go_num, by rw [unhide N2]; go_num, hbd⟩
        case measure => simp [intOf]; omega
    · have hte : L.take i = L := List.take_of_length_le (by omega)
      rw [hte] at hnl ⊢
      have hBf : Below w.heap.size w wr := t1.trans (hb.mono t1.size)
      have z2 := cellIn (i := 2) (heapLater hb (unhide HV).1) rfl
      have y0 := cellIn (i := 0) (heapLater hb (unhide HV).2) rfl
      have y1 := cellIn (i := 1) (heapLater hb (unhide HV).2) rfl
      have y2 := cellIn (i := 2) (heapLater hb (unhide HV).2) rfl
      have y3 := cellIn (i := 3) (heapLater hb (unhide HV).2) rfl
      obtain ⟨xa, xb, xc, xd⟩ := x
      simp only at y0 y1 y2 y3
      have TF : Hid (PF ↔ (xb = (needL ts L : Int) ∧ (0 ≤ xc ∧ xc ≤ p2) ∧ (xa = 3 → 1 ≤ xd ∧ xd ≤ 1000000000) ∧ (xa ≠ 3 → xd = 0) ∧ ((xa = 1 ∧ 0 < needL ts L) ∨ (xa = 2 ∧ needL ts L = 0 ∧ xc < p2) ∨ ((xa = 3 ∨ xa = 4 ∨ xa = 5) ∧ needL ts L = 0 ∧ 1 ≤ xc) ∨ xa = 6))) := hide (by rw [unhide HPF]; exact Iff.rfl)
      clear HPF
      generalize needL ts L = nd at hnl TF ⊢
      clear hb x7
      by_cases qn : nd = 0
      · subst qn
        skip
        by_cases q1 : xb = 0
        · by_cases qb : 0 ≤ xc ∧ xc ≤ p2
          · by_cases q3 : xa = 3
            · subst q3
              by_cases qu : 1 ≤ xd ∧ xd ≤ 1000000000
              · by_cases qt : 1 ≤ xc
                · have HI : Hid (PF) := hide (by rw [unhide TF]; omega)
                  have e1 : (xb != 0) = false := by rw [bne_eq_false_iff_eq]; omega
                  have HB := hide qb
                  have HU := hide qu
                  have et : decide ((1 : Int) ≤ xc) = true := decide_eq_true qt
                  clear TF q1 qb qu
                  go_wp2_with fail
                  refine (in_yes xc 0 p2 _ (unhide HB).1 (unhide HB).2).mono ?_
                  rintro e w_ ⟨rfl, rfl⟩
                  go_wp2_with fail
                  refine (in_yes xd 1 1000000000 _ (unhide HU).1 (unhide HU).2).mono ?_
                  rintro e w_ ⟨rfl, rfl⟩
                  go_wp2
                  go_ret
                  exact ⟨by rw [decide_eq_true (unhide HI)]; first | rfl | (simp; done) | (simp; omega), hBf⟩
                · have HI : Hid (¬ PF) := hide (by rw [unhide TF]; omega)
                  have e1 : (xb != 0) = false := by rw [bne_eq_false_iff_eq]; omega
                  have HB := hide qb
                  have HU := hide qu
                  have et : decide ((1 : Int) ≤ xc) = false := decide_eq_false qt
                  clear TF q1 qb qu qt
                  go_wp2_with fail
                  refine (in_yes xc 0 p2 _ (unhide HB).1 (unhide HB).2).mono ?_
                  rintro e w_ ⟨rfl, rfl⟩
                  go_wp2_with fail
                  refine (in_yes xd 1 1000000000 _ (unhide HU).1 (unhide HU).2).mono ?_
                  rintro e w_ ⟨rfl, rfl⟩
                  go_wp2
                  go_ret
                  exact ⟨by rw [decide_eq_false (unhide HI)]; first | rfl | (simp; done) | (simp; omega), hBf⟩
              · have HI : Hid (¬ PF) := hide (by rw [unhide TF]; omega)
                have e1 : (xb != 0) = false := by rw [bne_eq_false_iff_eq]; omega
                have HB := hide qb
                have HU := hide qu
                clear TF q1 qb qu
                go_wp2_with fail
                refine (in_yes xc 0 p2 _ (unhide HB).1 (unhide HB).2).mono ?_
                rintro e w_ ⟨rfl, rfl⟩
                go_wp2_with fail
                refine (in_no xd 1 1000000000 _ (unhide HU)).mono ?_
                rintro e w_ ⟨rfl, rfl⟩
                go_wp2
                go_ret
                exact ⟨by rw [decide_eq_false (unhide HI)]; first | rfl | (simp; done) | (simp; omega), hBf⟩
            · by_cases qd : xd = 0
              · subst qd
                by_cases s1 : xa = 1
                · subst s1
                  clear q3
                  have HI : Hid (¬ PF) := hide (by rw [unhide TF]; omega)
                  have e1 : (xb != 0) = false := by rw [bne_eq_false_iff_eq]; omega
                  have HB := hide qb
                  clear TF q1 qb
                  go_wp2_with fail
                  refine (in_yes xc 0 p2 _ (unhide HB).1 (unhide HB).2).mono ?_
                  rintro e w_ ⟨rfl, rfl⟩
                  go_wp2
                  go_ret
                  exact ⟨by rw [decide_eq_false (unhide HI)]; first | rfl | (simp; done) | (simp; omega), hBf⟩
                · by_cases s2 : xa = 2
                  · subst s2
                    clear q3 s1
                    by_cases qt : xc < p2
                    · have HI : Hid (PF) := hide (by rw [unhide TF]; omega)
                      have e1 : (xb != 0) = false := by rw [bne_eq_false_iff_eq]; omega
                      have HB := hide qb
                      have et : decide (xc < p2) = true := decide_eq_true qt
                      clear TF q1 qb
                      go_wp2_with fail
                      refine (in_yes xc 0 p2 _ (unhide HB).1 (unhide HB).2).mono ?_
                      rintro e w_ ⟨rfl, rfl⟩
                      go_wp2
                      go_ret
                      exact ⟨by rw [decide_eq_true (unhide HI)]; first | rfl | (simp; done) | (simp; omega), hBf⟩
                    · have HI : Hid (¬ PF) := hide (by rw [unhide TF]; omega)
                      have e1 : (xb != 0) = false := by rw [bne_eq_false_iff_eq]; omega
                      have HB := hide qb
                      have et : decide (xc < p2) = false := decide_eq_false qt
                      clear TF q1 qb qt
                      go_wp2_with fail
                      refine (in_yes xc 0 p2 _ (unhide HB).1 (unhide HB).2).mono ?_
                      rintro e w_ ⟨rfl, rfl⟩
                      go_wp2
                      go_ret
                      exact ⟨by rw [decide_eq_false (unhide HI)]; first | rfl | (simp; done) | (simp; omega), hBf⟩
                  · by_cases s4 : xa = 4
                    · subst s4
                      clear q3 s1 s2
                      by_cases qt : 1 ≤ xc
                      · have HI : Hid (PF) := hide (by rw [unhide TF]; omega)
                        have e1 : (xb != 0) = false := by rw [bne_eq_false_iff_eq]; omega
                        have HB := hide qb
                        have et : decide ((1 : Int) ≤ xc) = true := decide_eq_true qt
                        clear TF q1 qb
                        go_wp2_with fail
                        refine (in_yes xc 0 p2 _ (unhide HB).1 (unhide HB).2).mono ?_
                        rintro e w_ ⟨rfl, rfl⟩
                        go_wp2
                        go_ret
                        exact ⟨by rw [decide_eq_true (unhide HI)]; first | rfl | (simp; done) | (simp; omega), hBf⟩
                      · have HI : Hid (¬ PF) := hide (by rw [unhide TF]; omega)
                        have e1 : (xb != 0) = false := by rw [bne_eq_false_iff_eq]; omega
                        have HB := hide qb
                        have et : decide ((1 : Int) ≤ xc) = false := decide_eq_false qt
                        clear TF q1 qb qt
                        go_wp2_with fail
                        refine (in_yes xc 0 p2 _ (unhide HB).1 (unhide HB).2).mono ?_
                        rintro e w_ ⟨rfl, rfl⟩
                        go_wp2
                        go_ret
                        exact ⟨by rw [decide_eq_false (unhide HI)]; first | rfl | (simp; done) | (simp; omega), hBf⟩
                    · by_cases s5 : xa = 5
                      · subst s5
                        clear q3 s1 s2 s4
                        by_cases qt : 1 ≤ xc
                        · have HI : Hid (PF) := hide (by rw [unhide TF]; omega)
                          have e1 : (xb != 0) = false := by rw [bne_eq_false_iff_eq]; omega
                          have HB := hide qb
                          have et : decide ((1 : Int) ≤ xc) = true := decide_eq_true qt
                          clear TF q1 qb
                          go_wp2_with fail
                          refine (in_yes xc 0 p2 _ (unhide HB).1 (unhide HB).2).mono ?_
                          rintro e w_ ⟨rfl, rfl⟩
                          go_wp2
                          go_ret
                          exact ⟨by rw [decide_eq_true (unhide HI)]; first | rfl | (simp; done) | (simp; omega), hBf⟩
                        · have HI : Hid (¬ PF) := hide (by rw [unhide TF]; omega)
                          have e1 : (xb != 0) = false := by rw [bne_eq_false_iff_eq]; omega
                          have HB := hide qb
                          have et : decide ((1 : Int) ≤ xc) = false := decide_eq_false qt
                          clear TF q1 qb qt
                          go_wp2_with fail
                          refine (in_yes xc 0 p2 _ (unhide HB).1 (unhide HB).2).mono ?_
                          rintro e w_ ⟨rfl, rfl⟩
                          go_wp2
                          go_ret
                          exact ⟨by rw [decide_eq_false (unhide HI)]; first | rfl | (simp; done) | (simp; omega), hBf⟩
                      · by_cases s6 : xa = 6
                        · subst s6
                          clear q3 s1 s2 s4 s5
                          have HI : Hid (PF) := hide (by rw [unhide TF]; omega)
                          have e1 : (xb != 0) = false := by rw [bne_eq_false_iff_eq]; omega
                          have HB := hide qb
                          clear TF q1 qb
                          go_wp2_with fail
                          refine (in_yes xc 0 p2 _ (unhide HB).1 (unhide HB).2).mono ?_
                          rintro e w_ ⟨rfl, rfl⟩
                          go_wp2
                          go_ret
                          exact ⟨by rw [decide_eq_true (unhide HI)]; first | rfl | (simp; done) | (simp; omega), hBf⟩
                        · have HI : Hid (¬ PF) := hide (by rw [unhide TF]; omega)
                          have e1 : (xb != 0) = false := by rw [bne_eq_false_iff_eq]; omega
                          have HB := hide qb
                          have e3 : (xa == 3) = false := by rw [beq_eq_false_iff_ne]; omega
                          have e3b : (xa != 3) = true := by rw [bne_iff_ne]; omega
                          have k1 : (xa == 1) = false := by rw [beq_eq_false_iff_ne]; omega
                          have k2 : (xa == 2) = false := by rw [beq_eq_false_iff_ne]; omega
                          have k4 : (xa == 4) = false := by rw [beq_eq_false_iff_ne]; omega
                          have k5 : (xa == 5) = false := by rw [beq_eq_false_iff_ne]; omega
                          have k6 : (xa == 6) = false := by rw [beq_eq_false_iff_ne]; omega
                          clear TF q1 qb q3 s1 s2 s4 s5 s6
                          go_wp2_with fail
                          refine (in_yes xc 0 p2 _ (unhide HB).1 (unhide HB).2).mono ?_
                          rintro e w_ ⟨rfl, rfl⟩
                          go_wp2
                          go_ret
                          exact ⟨by rw [decide_eq_false (unhide HI)]; first | rfl | (simp; done) | (simp; omega), hBf⟩
              · have HI : Hid (¬ PF) := hide (by rw [unhide TF]; omega)
                have e1 : (xb != 0) = false := by rw [bne_eq_false_iff_eq]; omega
                have HB := hide qb
                have e3 : (xa == 3) = false := by rw [beq_eq_false_iff_ne]; omega
                have e3b : (xa != 3) = true := by rw [bne_iff_ne]; omega
                have ed : (xd != 0) = true := by rw [bne_iff_ne]; omega
                clear TF q1 qb q3 qd
                go_wp2_with fail
                refine (in_yes xc 0 p2 _ (unhide HB).1 (unhide HB).2).mono ?_
                rintro e w_ ⟨rfl, rfl⟩
                go_wp2
                go_ret
                exact ⟨by rw [decide_eq_false (unhide HI)]; first | rfl | (simp; done) | (simp; omega), hBf⟩
          · have HI : Hid (¬ PF) := hide (by rw [unhide TF]; omega)
            have e1 : (xb != 0) = false := by rw [bne_eq_false_iff_eq]; omega
            have HB := hide qb
            clear TF q1 qb
            go_wp2_with fail
            refine (in_no xc 0 p2 _ (unhide HB)).mono ?_
            rintro e w_ ⟨rfl, rfl⟩
            go_wp2
            go_ret
            exact ⟨by rw [decide_eq_false (unhide HI)]; first | rfl | (simp; done) | (simp; omega), hBf⟩
        · have HI : Hid (¬ PF) := hide (by rw [unhide TF]; omega)
          have e1 : (xb != 0) = true := by rw [bne_iff_ne]; omega
          clear TF q1
          go_wp2
          go_ret
          exact ⟨by rw [decide_eq_false (unhide HI)]; first | rfl | (simp; done) | (simp; omega), hBf⟩
      · skip
        by_cases q1 : xb = (nd : Int)
        · by_cases qb : 0 ≤ xc ∧ xc ≤ p2
          · by_cases q3 : xa = 3
            · subst q3
              by_cases qu : 1 ≤ xd ∧ xd ≤ 1000000000
              · have HI : Hid (¬ PF) := hide (by rw [unhide TF]; omega)
                have n1 : ((nd : Int) == 0) = false := by rw [beq_eq_false_iff_ne]; omega
                have n2 : (0 : Int) < (nd : Int) := by omega
                have e1 : (xb != (nd : Int)) = false := by rw [bne_eq_false_iff_eq]; omega
                have HB := hide qb
                have HU := hide qu
                clear TF q1 qb qu
                go_wp2_with fail
                refine (in_yes xc 0 p2 _ (unhide HB).1 (unhide HB).2).mono ?_
                rintro e w_ ⟨rfl, rfl⟩
                go_wp2_with fail
                refine (in_yes xd 1 1000000000 _ (unhide HU).1 (unhide HU).2).mono ?_
                rintro e w_ ⟨rfl, rfl⟩
                go_wp2
                go_ret
                exact ⟨by rw [decide_eq_false (unhide HI)]; first | rfl | (simp; done) | (simp; omega), hBf⟩
              · have HI : Hid (¬ PF) := hide (by rw [unhide TF]; omega)
                have n1 : ((nd : Int) == 0) = false := by rw [beq_eq_false_iff_ne]; omega
                have n2 : (0 : Int) < (nd : Int) := by omega
                have e1 : (xb != (nd : Int)) = false := by rw [bne_eq_false_iff_eq]; omega
                have HB := hide qb
                have HU := hide qu
                clear TF q1 qb qu
                go_wp2_with fail
                refine (in_yes xc 0 p2 _ (unhide HB).1 (unhide HB).2).mono ?_
                rintro e w_ ⟨rfl, rfl⟩
                go_wp2_with fail
                refine (in_no xd 1 1000000000 _ (unhide HU)).mono ?_
                rintro e w_ ⟨rfl, rfl⟩
                go_wp2
                go_ret
                exact ⟨by rw [decide_eq_false (unhide HI)]; first | rfl | (simp; done) | (simp; omega), hBf⟩
            · by_cases qd : xd = 0
              · subst qd
                by_cases s1 : xa = 1
                · subst s1
                  clear q3
                  have HI : Hid (PF) := hide (by rw [unhide TF]; omega)
                  have n1 : ((nd : Int) == 0) = false := by rw [beq_eq_false_iff_ne]; omega
                  have n2 : (0 : Int) < (nd : Int) := by omega
                  have e1 : (xb != (nd : Int)) = false := by rw [bne_eq_false_iff_eq]; omega
                  have HB := hide qb
                  clear TF q1 qb
                  go_wp2_with fail
                  refine (in_yes xc 0 p2 _ (unhide HB).1 (unhide HB).2).mono ?_
                  rintro e w_ ⟨rfl, rfl⟩
                  go_wp2
                  go_ret
                  exact ⟨by rw [decide_eq_true (unhide HI)]; first | rfl | (simp; done) | (simp; omega), hBf⟩
                · by_cases s2 : xa = 2
                  · subst s2
                    clear q3 s1
                    have HI : Hid (¬ PF) := hide (by rw [unhide TF]; omega)
                    have n1 : ((nd : Int) == 0) = false := by rw [beq_eq_false_iff_ne]; omega
                    have n2 : (0 : Int) < (nd : Int) := by omega
                    have e1 : (xb != (nd : Int)) = false := by rw [bne_eq_false_iff_eq]; omega
                    have HB := hide qb
                    clear TF q1 qb
                    go_wp2_with fail
                    refine (in_yes xc 0 p2 _ (unhide HB).1 (unhide HB).2).mono ?_
                    rintro e w_ ⟨rfl, rfl⟩
                    go_wp2
                    go_ret
                    exact ⟨by rw [decide_eq_false (unhide HI)]; first | rfl | (simp; done) | (simp; omega), hBf⟩
                  · by_cases s4 : xa = 4
                    · subst s4
                      clear q3 s1 s2
                      have HI : Hid (¬ PF) := hide (by rw [unhide TF]; omega)
                      have n1 : ((nd : Int) == 0) = false := by rw [beq_eq_false_iff_ne]; omega
                      have n2 : (0 : Int) < (nd : Int) := by omega
                      have e1 : (xb != (nd : Int)) = false := by rw [bne_eq_false_iff_eq]; omega
                      have HB := hide qb
                      clear TF q1 qb
                      go_wp2_with fail
                      refine (in_yes xc 0 p2 _ (unhide HB).1 (unhide HB).2).mono ?_
                      rintro e w_ ⟨rfl, rfl⟩
                      go_wp2
                      go_ret
                      exact ⟨by rw [decide_eq_false (unhide HI)]; first | rfl | (simp; done) | (simp; omega), hBf⟩
                    · by_cases s5 : xa = 5
                      · subst s5
                        clear q3 s1 s2 s4
                        have HI : Hid (¬ PF) := hide (by rw [unhide TF]; omega)
                        have n1 : ((nd : Int) == 0) = false := by rw [beq_eq_false_iff_ne]; omega
                        have n2 : (0 : Int) < (nd : Int) := by omega
                        have e1 : (xb != (nd : Int)) = false := by rw [bne_eq_false_iff_eq]; omega
                        have HB := hide qb
                        clear TF q1 qb
                        go_wp2_with fail
                        refine (in_yes xc 0 p2 _ (unhide HB).1 (unhide HB).2).mono ?_
                        rintro e w_ ⟨rfl, rfl⟩
                        go_wp2
                        go_ret
                        exact ⟨by rw [decide_eq_false (unhide HI)]; first | rfl | (simp; done) | (simp; omega), hBf⟩
                      · by_cases s6 : xa = 6
                        · subst s6
                          clear q3 s1 s2 s4 s5
                          have HI : Hid (PF) := hide (by rw [unhide TF]; omega)
                          have n1 : ((nd : Int) == 0) = false := by rw [beq_eq_false_iff_ne]; omega
                          have n2 : (0 : Int) < (nd : Int) := by omega
                          have e1 : (xb != (nd : Int)) = false := by rw [bne_eq_false_iff_eq]; omega
                          have HB := hide qb
                          clear TF q1 qb
                          go_wp2_with fail
                          refine (in_yes xc 0 p2 _ (unhide HB).1 (unhide HB).2).mono ?_
                          rintro e w_ ⟨rfl, rfl⟩
                          go_wp2
                          go_ret
                          exact ⟨by rw [decide_eq_true (unhide HI)]; first | rfl | (simp; done) | (simp; omega), hBf⟩
                        · have HI : Hid (¬ PF) := hide (by rw [unhide TF]; omega)
                          have n1 : ((nd : Int) == 0) = false := by rw [beq_eq_false_iff_ne]; omega
                          have n2 : (0 : Int) < (nd : Int) := by omega
                          have e1 : (xb != (nd : Int)) = false := by rw [bne_eq_false_iff_eq]; omega
                          have HB := hide qb
                          have e3 : (xa == 3) = false := by rw [beq_eq_false_iff_ne]; omega
                          have e3b : (xa != 3) = true := by rw [bne_iff_ne]; omega
                          have k1 : (xa == 1) = false := by rw [beq_eq_false_iff_ne]; omega
                          have k2 : (xa == 2) = false := by rw [beq_eq_false_iff_ne]; omega
                          have k4 : (xa == 4) = false := by rw [beq_eq_false_iff_ne]; omega
                          have k5 : (xa == 5) = false := by rw [beq_eq_false_iff_ne]; omega
                          have k6 : (xa == 6) = false := by rw [beq_eq_false_iff_ne]; omega
                          clear TF q1 qb q3 s1 s2 s4 s5 s6
                          go_wp2_with fail
                          refine (in_yes xc 0 p2 _ (unhide HB).1 (unhide HB).2).mono ?_
                          rintro e w_ ⟨rfl, rfl⟩
                          go_wp2
                          go_ret
                          exact ⟨by rw [decide_eq_false (unhide HI)]; first | rfl | (simp; done) | (simp; omega), hBf⟩
              · have HI : Hid (¬ PF) := hide (by rw [unhide TF]; omega)
                have n1 : ((nd : Int) == 0) = false := by rw [beq_eq_false_iff_ne]; omega
                have n2 : (0 : Int) < (nd : Int) := by omega
                have e1 : (xb != (nd : Int)) = false := by rw [bne_eq_false_iff_eq]; omega
                have HB := hide qb
                have e3 : (xa == 3) = false := by rw [beq_eq_false_iff_ne]; omega
                have e3b : (xa != 3) = true := by rw [bne_iff_ne]; omega
                have ed : (xd != 0) = true := by rw [bne_iff_ne]; omega
                clear TF q1 qb q3 qd
                go_wp2_with fail
                refine (in_yes xc 0 p2 _ (unhide HB).1 (unhide HB).2).mono ?_
                rintro e w_ ⟨rfl, rfl⟩
                go_wp2
                go_ret
                exact ⟨by rw [decide_eq_false (unhide HI)]; first | rfl | (simp; done) | (simp; omega), hBf⟩
          · have HI : Hid (¬ PF) := hide (by rw [unhide TF]; omega)
            have n1 : ((nd : Int) == 0) = false := by rw [beq_eq_false_iff_ne]; omega
            have n2 : (0 : Int) < (nd : Int) := by omega
            have e1 : (xb != (nd : Int)) = false := by rw [bne_eq_false_iff_eq]; omega
            have HB := hide qb
            clear TF q1 qb
            go_wp2_with fail
            refine (in_no xc 0 p2 _ (unhide HB)).mono ?_
            rintro e w_ ⟨rfl, rfl⟩
            go_wp2
            go_ret
            exact ⟨by rw [decide_eq_false (unhide HI)]; first | rfl | (simp; done) | (simp; omega), hBf⟩
        · have HI : Hid (¬ PF) := hide (by rw [unhide TF]; omega)
          have n1 : ((nd : Int) == 0) = false := by rw [beq_eq_false_iff_ne]; omega
          have n2 : (0 : Int) < (nd : Int) := by omega
          have e1 : (xb != (nd : Int)) = true := by rw [bne_iff_ne]; omega
          clear TF q1
          go_wp2
          go_ret
          exact ⟨by rw [decide_eq_false (unhide HI)]; first | rfl | (simp; done) | (simp; omega), hBf⟩
end Go.Proofs.Ytnpfboligmnhpaa

/- The walk of the specification's RunOk: whether a run is right. -/
namespace Go.Proofs.Ytnpfboligmnhpaa
open Go.RowKit
open scoped Classical
set_option linter.unusedVariables false
set_option linter.unusedSimpArgs false
attribute [local go_sem ↓] Go.wp_at_zero Go.wp_at_succ

/-- Whether a run is right. -/
def RunOkA (r : RunL) : Prop :=
  (1 ≤ r.id ∧ r.id ≤ 9999) ∧ FaultIs r.plan 0 ∧ (r.tasks.length : Int) = r.plan.tasks ∧ (∀ x ∈ r.tasks, 1 ≤ x.a ∧ x.a ≤ 6) ∧
  (∀ (k : Nat) (h : k < r.tasks.length), TaskFits r.plan.most r.tasks[k] (needL r.tasks (befL r.plan (k : Int)))) ∧ r.state = stateA r.tasks ∧ r.state ≠ 0
theorem boxR {w W wr : World} {cs : Array Value} {T : TypeId} (h : W.heap[w.heap.size]? = some (.cells cs T (0, 0))) (hb : Below W.heap.size W wr) : wr.heap[w.heap.size]? = some (.cells cs T (0, 0)) := (hb.block _ (Array.getElem?_eq_some_iff.1 h).1).trans h
set_option maxRecDepth 100000 in
set_option maxHeartbeats 12800000 in
theorem specRunOk_any (ve vt : Value) (ba bt : Nat) (r : RunL) (w : World) (hA : w.ownsRow ba 96 2 ve r.plan.edges.length (edgesC r.plan.edges)) (hT : w.ownsRow bt 40 4 vt r.tasks.length (quadsC r.tasks)) (hl : r.plan.edges.length ≤ 2000000) (hm : r.tasks.length ≤ 2000000) :
    Calls Try.prog 33 #[runV r ve vt] w fun e w' => e = .returned (.bool (decide (RunOkA r))) ∧ Below w.heap.size w w' := by
  obtain ⟨f, hf, f0, f4⟩ := fault_ex r.plan
  obtain ⟨PF, hPF⟩ : ∃ P, P = RunOkA r := ⟨_, rfl⟩
  rw [← hPF]
  obtain ⟨id, p, s0, ts⟩ := r
  simp only at hA hT hl hm hf
  have TF : Hid (PF ↔ ((1 ≤ id ∧ id ≤ 9999) ∧ FaultIs p 0 ∧ (ts.length : Int) = p.tasks ∧ (∀ x ∈ ts, 1 ≤ x.a ∧ x.a ≤ 6) ∧ (∀ (k : Nat) (h : k < ts.length), TaskFits p.most ts[k] (needL ts (befL p (k : Int)))) ∧ s0 = stateA ts ∧ s0 ≠ 0)) := hide (by rw [hPF]; exact Iff.rfl)
  obtain ⟨ae, ce, rfl, -⟩ := ownsRow_shape hA
  obtain ⟨at_, ct, rfl, sgt⟩ := ownsRow_shape hT
  have FT := fun (W : World) (h : W.ownsRow ba 96 2 (.slice ae p.edges.length ce) p.edges.length (edgesC p.edges)) => hide (specFault_is _ ba p f W h hl hf)
  have TK := fun (k n : Nat) (hk : k < ts.length) (hn : p.tasks = (n : Int)) (h12 : n ≤ 12) (hel : p.edges.length ≤ 30) (hnd : p.edges.Nodup) (hlen : ts.length = n) (W : World) (h1 : W.ownsRow ba 96 2 (.slice ae p.edges.length ce) p.edges.length (edgesC p.edges)) (h2 : W.ownsRow bt 40 4 (.slice at_ ts.length ct) ts.length (quadsC ts)) => hide (specTask_any _ _ ba bt n k ⟨id, p, s0, ts⟩ W h1 h2 hn h12 hel hnd hlen hk)
  have SA := fun (hin : ∀ x ∈ ts, 1 ≤ x.a ∧ x.a ≤ 6) (W : World) (h2 : W.ownsRow bt 40 4 (.slice at_ ts.length ct) ts.length (quadsC ts)) => hide (specState_any (.slice ae p.edges.length ce) _ bt ⟨id, p, s0, ts⟩ W h2 hm hin)
  have FN : Hid (f = 0 → manyOk p ∧ edgesIn p ∧ onceOk p ∧ noCycle p) := hide (fun e => by rw [e] at hf; exact fault_none hf)
  have FO : Hid (f ≠ 0 → ¬ FaultIs p 0) := hide (fun e h => e (fault_one hf h))
  have FI : Hid (f = 0 → FaultIs p 0) := hide (fun e => by rw [e] at hf; exact hf)
  have HA := hide (And.intro hA hT)
  clear hA hT hf hPF
  obtain ⟨p1, p2, p3, p4, es⟩ := p
  unfold planV at FT
  unfold runV runC at TK SA ⊢
  simp only at FT TK SA TF hl HA ⊢
  have hid : (1 ≤ id ∧ id ≤ 9999) ∨ ¬ (1 ≤ id ∧ id ≤ 9999) := Classical.em _
  rcases hid with hid | hid
  · have HI := hide hid
    clear hid
    go_enter Try.func33, Try.ntmps33
    go_wp2_with fail
    obtain ⟨W, hW⟩ : ∃ W, W = w.alloc (Obj.cells #[.int .i64 id, .int .i64 p1, .int .i64 p2, .int .i64 p3, .int .i64 p4, .slice ae es.length ce, .int .i64 s0, .slice at_ ts.length ct] 29) := ⟨_, rfl⟩
    have HX := hide (show W.heap[w.heap.size]? = some (.cells #[.int .i64 id, .int .i64 p1, .int .i64 p2, .int .i64 p3, .int .i64 p4, .slice ae es.length ce, .int .i64 s0, .slice at_ ts.length ct] 29 (0, 0)) by rw [hW]; exact heap_alloc_new _ _)
    have hb0 : Below w.heap.size w W := by rw [hW]; exact (Below.refl _ _).alloc (Nat.le_refl _) _
    rw [← hW]
    clear hW
    refine (in_yes id 1 9999 _ (unhide HI).1 (unhide HI).2).mono ?_
    rintro e w0 ⟨rfl, hw0⟩
    rw [hw0]
    clear hw0 w0
    have y0a := cellIn (i := 0) (unhide HX) rfl
    have y1a := cellIn (i := 1) (unhide HX) rfl
    have y2a := cellIn (i := 2) (unhide HX) rfl
    have y3a := cellIn (i := 3) (unhide HX) rfl
    have y4a := cellIn (i := 4) (unhide HX) rfl
    have y5a := cellIn (i := 5) (unhide HX) rfl
    have y6a := cellIn (i := 6) (unhide HX) rfl
    have y7a := cellIn (i := 7) (unhide HX) rfl
    go_wp2_with fail
    refine (unhide (FT _ (ownsRow_below (unhide HA).1 hb0))).mono ?_
    rintro e w1 ⟨rfl, hb1⟩
    have t1 := hb0.trans (hb1.mono hb0.size)
    clear FT y0a y1a y2a y3a y4a y5a y6a y7a
    have y0b := cellIn (i := 0) (boxR (unhide HX) hb1) rfl
    have y1b := cellIn (i := 1) (boxR (unhide HX) hb1) rfl
    have y2b := cellIn (i := 2) (boxR (unhide HX) hb1) rfl
    have y3b := cellIn (i := 3) (boxR (unhide HX) hb1) rfl
    have y4b := cellIn (i := 4) (boxR (unhide HX) hb1) rfl
    have y5b := cellIn (i := 5) (boxR (unhide HX) hb1) rfl
    have y6b := cellIn (i := 6) (boxR (unhide HX) hb1) rfl
    have y7b := cellIn (i := 7) (boxR (unhide HX) hb1) rfl
    by_cases hf0 : f = 0
    · have FN1 := hide (unhide FN hf0)
      have FI1 := hide (unhide FI hf0)
      subst hf0
      by_cases hlen : (ts.length : Int) = p4
      · have el : ((ts.length : Int) != p4) = false := by rw [bne_eq_false_iff_eq]; exact hlen
        have HLEN := hide hlen
        clear hlen
        go_wp2
        go_loopw [3] (fun v wr => ∃ k : Nat, k ≤ ts.length ∧ v = .int .i64 k ∧ Below W.heap.size W wr ∧ Hid (∀ x ∈ ts.take k, 1 ≤ x.a ∧ x.a ≤ 6))
          (fun v _ => ts.length - (intOf v).toNat)
        case atStart => exact ⟨0, Nat.zero_le _, rfl, hb1, hide (by simp)⟩
        case round =>
          clear hb1 t1 y0b y1b y2b y3b y4b y5b y6b y7b
          obtain ⟨k, hk, rfl, hb, hat⟩ := hrel
          have x7 := cellIn (i := 7) (boxR (unhide HX) hb) rfl
          have t2 := hb0.trans (hb.mono hb0.size)
          by_cases hlt : k < ts.length
          · obtain ⟨gt, rfl⟩ := sgt (by omega)
            have hk0 : (0 : Int) ≤ (k : Int) := Int.natCast_nonneg _
            have hk1 : (k : Int) < (ts.length : Int) := by omega
            obtain ⟨c1, -, -, -⟩ := quadsC_cell (ownsRow_below (unhide HA).2 t2) hlt
            have HS := hide (List.take_succ_eq_append_getElem hlt)
            have HMM := hide (List.getElem_mem hlt)
            generalize ts[k] = x at c1 HS HMM
            by_cases hx : 1 ≤ x.a ∧ x.a ≤ 6
            · have hat2 : Hid (∀ x ∈ ts.take (k + 1), 1 ≤ x.a ∧ x.a ≤ 6) := hide (by
                rw [unhide HS]
                intro y hy
                rcases List.mem_append.1 hy with hy | hy
                · exact unhide hat y hy
                · simp at hy; subst hy; exact hx)
              have HXX := hide hx
              clear hx hat HS HMM
              go_wp2_with fail
              refine (in_yes x.a 1 6 _ (unhide HXX).1 (unhide HXX).2).mono ?_
              rintro e w_ ⟨rfl, rfl⟩
              go_wp2
              go_roundw
              case rel => exact ⟨k + 1, by omega, by go_num, hb, hat2⟩
              case measure => simp [intOf]; omega
            · have HE : Hid (¬ PF) := hide (by rw [unhide TF]; exact fun h => hx (h.2.2.2.1 x (unhide HMM)))
              have HXX := hide hx
              clear hx hat HS HMM
              go_wp2_with fail
              refine (in_no x.a 1 6 _ (unhide HXX)).mono ?_
              rintro e w_ ⟨rfl, rfl⟩
              go_wp2
              go_ret
              exact ⟨by rw [decide_eq_false (unhide HE)]; rfl, t2⟩
          · have hall : Hid (∀ x ∈ ts, 1 ≤ x.a ∧ x.a ≤ 6) := hide (by have := unhide hat; rwa [List.take_of_length_le (by omega)] at this)
            clear hat
            go_wp2
            go_loopw [4] (fun v wr => ∃ k : Nat, k ≤ ts.length ∧ v = .int .i64 k ∧ Below W.heap.size W wr ∧ Hid (∀ (j : Nat) (h : j < ts.length), j < k → TaskFits p2 ts[j] (needL ts (befL ⟨p1, p2, p3, p4, es⟩ (j : Int)))))
              (fun v _ => ts.length - (intOf v).toNat)
            case atStart => exact ⟨0, Nat.zero_le _, rfl, hb, hide (fun j h h2 => by omega)⟩
            case round =>
              clear hb x7 t2
              obtain ⟨k, hk, rfl, hb, hat⟩ := hrel
              have t2 := hb0.trans (hb.mono hb0.size)
              have y0c := cellIn (i := 0) (boxR (unhide HX) hb) rfl
              have y1c := cellIn (i := 1) (boxR (unhide HX) hb) rfl
              have y2c := cellIn (i := 2) (boxR (unhide HX) hb) rfl
              have y3c := cellIn (i := 3) (boxR (unhide HX) hb) rfl
              have y4c := cellIn (i := 4) (boxR (unhide HX) hb) rfl
              have y5c := cellIn (i := 5) (boxR (unhide HX) hb) rfl
              have y6c := cellIn (i := 6) (boxR (unhide HX) hb) rfl
              have y7c := cellIn (i := 7) (boxR (unhide HX) hb) rfl
              by_cases hlt : k < ts.length
              · obtain ⟨fm, fi, fo, -⟩ := unhide FN1
                have hlen := unhide HLEN
                have C := hide (unhide (TK k ts.length hlt hlen.symm (by have := fm.2.1; simp only at this; omega) fm.2.2.1 fo rfl wr (ownsRow_below (unhide HA).1 t2) (ownsRow_below (unhide HA).2 t2)))
                have HA1 : TaskFits p2 ts[k] (needL ts (befL ⟨p1, p2, p3, p4, es⟩ (k : Int))) → Hid (∀ (j : Nat) (h : j < ts.length), j < k + 1 → TaskFits p2 ts[j] (needL ts (befL ⟨p1, p2, p3, p4, es⟩ (j : Int)))) := fun h => hide (fun j hj hj2 => by
                  rcases Nat.lt_or_ge j k with h3 | h3
                  · exact unhide hat j hj h3
                  · have e : j = k := by omega
                    subst e; exact h)
                have HA2 : ¬ TaskFits p2 ts[k] (needL ts (befL ⟨p1, p2, p3, p4, es⟩ (k : Int))) → Hid (¬ PF) := fun h => hide (by rw [unhide TF]; exact fun g => h (g.2.2.2.2.1 k hlt))
                generalize TaskFits p2 ts[k] (needL ts (befL ⟨p1, p2, p3, p4, es⟩ (k : Int))) = TFK at C HA1 HA2
                clear hat fm fi fo hlen
                by_cases hq : TFK
                · rw [decide_eq_true hq] at C
                  have hat2 := HA1 hq
                  clear HA1 HA2 hq
                  go_wp2_with fail
                  refine (unhide C).mono ?_
                  rintro e w3 ⟨rfl, hb3⟩
                  have hbn := hb.trans (hb3.mono hb.size)
                  clear C hb3 hb y0c y1c y2c y3c y4c y5c y6c y7c
                  go_wp2
                  go_roundw
                  case rel => exact ⟨k + 1, by omega, by go_num, hbn, hat2⟩
                  case measure => simp [intOf]; omega
                · rw [decide_eq_false hq] at C
                  have HE := HA2 hq
                  clear HA1 HA2 hq
                  go_wp2_with fail
                  refine (unhide C).mono ?_
                  rintro e w3 ⟨rfl, hb3⟩
                  have tn := t2.trans (hb3.mono t2.size)
                  clear C hb3 hb y0c y1c y2c y3c y4c y5c y6c y7c
                  go_wp2
                  go_ret
                  exact ⟨by rw [decide_eq_false (unhide HE)]; rfl, tn⟩
              · have hfit : Hid (∀ (j : Nat) (h : j < ts.length), TaskFits p2 ts[j] (needL ts (befL ⟨p1, p2, p3, p4, es⟩ (j : Int)))) := hide (fun j h => unhide hat j h (by omega))
                have SC := fun W h => SA (unhide hall) W h
                obtain ⟨sa, hsa⟩ : ∃ s, s = stateA ts := ⟨_, rfl⟩
                rw [← hsa] at SC
                have TF2 : Hid (PF ↔ (s0 = sa ∧ s0 ≠ 0)) := hide (by
                  rw [unhide TF, hsa]
                  exact ⟨fun h => h.2.2.2.2.2, fun h => ⟨unhide HI, unhide FI1, unhide HLEN, unhide hall, unhide hfit, h⟩⟩)
                clear hsa hat TK SA TF FN1 FI1 HLEN hall hfit HI FN FO FI
                go_wp2_with fail
                refine wp_region_held_drew (S := fun w' => w'.cell? ⟨w.heap.size, 0, none⟩ = some (.int .i64 id) ∧ w'.cell? ⟨w.heap.size, 1, none⟩ = some (.int .i64 p1) ∧ w'.cell? ⟨w.heap.size, 2, none⟩ = some (.int .i64 p2) ∧ w'.cell? ⟨w.heap.size, 3, none⟩ = some (.int .i64 p3) ∧ w'.cell? ⟨w.heap.size, 4, none⟩ = some (.int .i64 p4) ∧ w'.cell? ⟨w.heap.size, 5, none⟩ = some (.slice ae es.length ce) ∧ w'.cell? ⟨w.heap.size, 6, none⟩ = some (.int .i64 s0) ∧ w'.cell? ⟨w.heap.size, 7, none⟩ = some (.slice at_ ts.length ct)) (by kernel_rfl) ⟨y0c, y1c, y2c, y3c, y4c, y5c, y6c, y7c⟩ (fun hS => ?_)
                obtain ⟨V0, hV0⟩ : ∃ V0, V0 = wr.drew := ⟨_, rfl⟩
                have hB0 : Below W.heap.size W V0 := by rw [hV0]; exact hb.drew
                rw [← hV0] at hS ⊢
                clear hV0
                refine wpAnyH_take (i := 0) (v := .pointer (some ⟨w.heap.size, 6, none⟩)) rfl (by kernel_rfl) (by kernel_rfl) (by kernel_rfl) (fun _ _ _ h => h) (Or.inl ⟨by kernel_rfl, fun w hSw => by (try dsimp only at hSw); go_split_ands; go_simp⟩) (by assumption) ?_
                simp only [Act.put, List.getElem_toArray, List.getElem_cons_zero, List.setIfInBounds_toArray, List.set_cons_zero, List.set_cons_succ]
                refine wpAnyH_take (i := 1) (v := .int .i64 s0) rfl (by kernel_rfl) (by kernel_rfl) (by kernel_rfl) (fun _ _ _ h => h) (Or.inl ⟨by kernel_rfl, fun w hSw => by (try dsimp only at hSw); go_split_ands; go_simp⟩) (by assumption) ?_
                simp only [Act.put, List.getElem_toArray, List.getElem_cons_zero, List.getElem_cons_succ, List.setIfInBounds_toArray, List.set_cons_zero, List.set_cons_succ]
                refine wpAnyH_take (i := 2) (v := .agg #[.int .i64 id, .int .i64 p1, .int .i64 p2, .int .i64 p3, .int .i64 p4, .slice ae es.length ce, .int .i64 s0, .slice at_ ts.length ct]) rfl (by kernel_rfl) (by kernel_rfl) (by kernel_rfl) (fun _ _ _ h => h) (Or.inl ⟨by kernel_rfl, fun w hSw => by (try dsimp only at hSw); go_split_ands; go_simp⟩) (by assumption) ?_
                simp only [Act.put, List.getElem_toArray, List.getElem_cons_zero, List.getElem_cons_succ, List.setIfInBounds_toArray, List.set_cons_zero, List.set_cons_succ]
                refine wpAnyH_ready (rs := [3]) (by kernel_rfl) (by simp) ?_
                refine AllReadyH.cons (i := 3) rfl (fun K hK => ?_) AllReadyH.nil
                go_simp
                refine (unhide (SC _ (ownsRow_below (unhide HA).2 (hb0.trans (hB0.mono hb0.size))))).mono ?_
                rintro e w5 ⟨rfl, hb5⟩
                have hB5 := hB0.trans (hb5.mono hB0.size)
                have t5 := hb0.trans (hB5.mono hb0.size)
                go_wp2_with fail
                refine hK.out _ _ ⟨cellIn (i := 0) (boxR (unhide HX) hB5) rfl, cellIn (i := 1) (boxR (unhide HX) hB5) rfl, cellIn (i := 2) (boxR (unhide HX) hB5) rfl, cellIn (i := 3) (boxR (unhide HX) hB5) rfl, cellIn (i := 4) (boxR (unhide HX) hB5) rfl, cellIn (i := 5) (boxR (unhide HX) hB5) rfl, cellIn (i := 6) (boxR (unhide HX) hB5) rfl, cellIn (i := 7) (boxR (unhide HX) hB5) rfl⟩ (fun hH => ?_)
                clear hK hS hb5 hB0 SC hb t2 y0c y1c y2c y3c y4c y5c y6c y7c
                try simp only [Act.put, List.getElem_toArray, List.getElem_cons_zero, List.getElem_cons_succ, List.setIfInBounds_toArray, List.set_cons_zero, List.set_cons_succ]
                by_cases q1 : s0 = sa
                · have e1 : (s0 == sa) = true := by rw [beq_iff_eq]; exact q1
                  by_cases q2 : s0 = 0
                  · have e2 : (s0 != 0) = false := by rw [bne_eq_false_iff_eq]; exact q2
                    have HE : Hid (¬ PF) := hide (by rw [unhide TF2]; exact fun h => h.2 q2)
                    clear q1 q2 TF2
                    refine wpAnyH_take (i := 4) (v := .bool true) rfl (by kernel_rfl) (by kernel_rfl) (by kernel_rfl) (fun _ _ _ h => h) (Or.inl ⟨by kernel_rfl, fun w hSw => by (try dsimp only at hSw); go_split_ands; go_simp⟩) (by assumption) ?_
                    simp only [Act.put, List.getElem_toArray, List.getElem_cons_zero, List.getElem_cons_succ, List.setIfInBounds_toArray, List.set_cons_zero, List.set_cons_succ]
                    refine wpAnyH_take (i := 5) (v := .bool true) rfl (by kernel_rfl) (by kernel_rfl) (by kernel_rfl) (fun _ _ _ h => h) (Or.inl ⟨by kernel_rfl, fun w hSw => by (try dsimp only at hSw); go_split_ands; go_simp⟩) (by assumption) ?_
                    simp only [Act.put, List.getElem_toArray, List.getElem_cons_zero, List.getElem_cons_succ, List.setIfInBounds_toArray, List.set_cons_zero, List.set_cons_succ]
                    refine wpAnyH_take (i := 6) (v := .pointer (some ⟨w.heap.size, 6, none⟩)) rfl (by kernel_rfl) (by kernel_rfl) (by kernel_rfl) (fun _ _ _ h => h) (Or.inl ⟨by kernel_rfl, fun w hSw => by (try dsimp only at hSw); go_split_ands; go_simp⟩) (by assumption) ?_
                    simp only [Act.put, List.getElem_toArray, List.getElem_cons_zero, List.getElem_cons_succ, List.setIfInBounds_toArray, List.set_cons_zero, List.set_cons_succ]
                    refine wpAnyH_take (i := 7) (v := .int .i64 s0) rfl (by kernel_rfl) (by kernel_rfl) (by kernel_rfl) (fun _ _ _ h => h) (Or.inl ⟨by kernel_rfl, fun w hSw => by (try dsimp only at hSw); go_split_ands; go_simp⟩) (by assumption) ?_
                    simp only [Act.put, List.getElem_toArray, List.getElem_cons_zero, List.getElem_cons_succ, List.setIfInBounds_toArray, List.set_cons_zero, List.set_cons_succ]
                    refine wpAnyH_take (i := 8) (v := .bool false) rfl (by kernel_rfl) (by kernel_rfl) (by kernel_rfl) (fun _ _ _ h => h) (Or.inl ⟨by kernel_rfl, fun w hSw => by (try dsimp only at hSw); go_split_ands; go_simp⟩) (by assumption) ?_
                    simp only [Act.put, List.getElem_toArray, List.getElem_cons_zero, List.getElem_cons_succ, List.setIfInBounds_toArray, List.set_cons_zero, List.set_cons_succ]
                    refine wpAnyH_take (i := 9) (v := .bool false) rfl (by kernel_rfl) (by kernel_rfl) (by kernel_rfl) (fun _ _ _ h => h) (Or.inl ⟨by kernel_rfl, fun w hSw => by (try dsimp only at hSw); go_split_ands; go_simp⟩) (by assumption) ?_
                    simp only [Act.put, List.getElem_toArray, List.getElem_cons_zero, List.getElem_cons_succ, List.setIfInBounds_toArray, List.set_cons_zero, List.set_cons_succ]
                    refine wpAnyH_take (i := 10) (v := .bool false) rfl (by kernel_rfl) (by kernel_rfl) (by kernel_rfl) (fun _ _ _ h => h) (Or.inl ⟨by kernel_rfl, fun w hSw => by (try dsimp only at hSw); go_split_ands; go_simp⟩) (by assumption) ?_
                    simp only [Act.put, List.getElem_toArray, List.getElem_cons_zero, List.getElem_cons_succ, List.setIfInBounds_toArray, List.set_cons_zero, List.set_cons_succ]
                    refine wpAnyH_done (by kernel_rfl) ?_ _
                    clear hH
                    go_wp2
                    go_ret
                    exact ⟨by rw [decide_eq_false (unhide HE)]; rfl, t5⟩
                  · have e2 : (s0 != 0) = true := by rw [bne_iff_ne]; exact q2
                    have HE : Hid PF := hide (by rw [unhide TF2]; exact ⟨q1, q2⟩)
                    clear q1 q2 TF2
                    refine wpAnyH_take (i := 4) (v := .bool true) rfl (by kernel_rfl) (by kernel_rfl) (by kernel_rfl) (fun _ _ _ h => h) (Or.inl ⟨by kernel_rfl, fun w hSw => by (try dsimp only at hSw); go_split_ands; go_simp⟩) (by assumption) ?_
                    simp only [Act.put, List.getElem_toArray, List.getElem_cons_zero, List.getElem_cons_succ, List.setIfInBounds_toArray, List.set_cons_zero, List.set_cons_succ]
                    refine wpAnyH_take (i := 5) (v := .bool true) rfl (by kernel_rfl) (by kernel_rfl) (by kernel_rfl) (fun _ _ _ h => h) (Or.inl ⟨by kernel_rfl, fun w hSw => by (try dsimp only at hSw); go_split_ands; go_simp⟩) (by assumption) ?_
                    simp only [Act.put, List.getElem_toArray, List.getElem_cons_zero, List.getElem_cons_succ, List.setIfInBounds_toArray, List.set_cons_zero, List.set_cons_succ]
                    refine wpAnyH_take (i := 6) (v := .pointer (some ⟨w.heap.size, 6, none⟩)) rfl (by kernel_rfl) (by kernel_rfl) (by kernel_rfl) (fun _ _ _ h => h) (Or.inl ⟨by kernel_rfl, fun w hSw => by (try dsimp only at hSw); go_split_ands; go_simp⟩) (by assumption) ?_
                    simp only [Act.put, List.getElem_toArray, List.getElem_cons_zero, List.getElem_cons_succ, List.setIfInBounds_toArray, List.set_cons_zero, List.set_cons_succ]
                    refine wpAnyH_take (i := 7) (v := .int .i64 s0) rfl (by kernel_rfl) (by kernel_rfl) (by kernel_rfl) (fun _ _ _ h => h) (Or.inl ⟨by kernel_rfl, fun w hSw => by (try dsimp only at hSw); go_split_ands; go_simp⟩) (by assumption) ?_
                    simp only [Act.put, List.getElem_toArray, List.getElem_cons_zero, List.getElem_cons_succ, List.setIfInBounds_toArray, List.set_cons_zero, List.set_cons_succ]
                    refine wpAnyH_take (i := 8) (v := .bool true) rfl (by kernel_rfl) (by kernel_rfl) (by kernel_rfl) (fun _ _ _ h => h) (Or.inl ⟨by kernel_rfl, fun w hSw => by (try dsimp only at hSw); go_split_ands; go_simp⟩) (by assumption) ?_
                    simp only [Act.put, List.getElem_toArray, List.getElem_cons_zero, List.getElem_cons_succ, List.setIfInBounds_toArray, List.set_cons_zero, List.set_cons_succ]
                    refine wpAnyH_take (i := 9) (v := .bool true) rfl (by kernel_rfl) (by kernel_rfl) (by kernel_rfl) (fun _ _ _ h => h) (Or.inl ⟨by kernel_rfl, fun w hSw => by (try dsimp only at hSw); go_split_ands; go_simp⟩) (by assumption) ?_
                    simp only [Act.put, List.getElem_toArray, List.getElem_cons_zero, List.getElem_cons_succ, List.setIfInBounds_toArray, List.set_cons_zero, List.set_cons_succ]
                    refine wpAnyH_take (i := 10) (v := .bool true) rfl (by kernel_rfl) (by kernel_rfl) (by kernel_rfl) (fun _ _ _ h => h) (Or.inl ⟨by kernel_rfl, fun w hSw => by (try dsimp only at hSw); go_split_ands; go_simp⟩) (by assumption) ?_
                    simp only [Act.put, List.getElem_toArray, List.getElem_cons_zero, List.getElem_cons_succ, List.setIfInBounds_toArray, List.set_cons_zero, List.set_cons_succ]
                    refine wpAnyH_done (by kernel_rfl) ?_ _
                    clear hH
                    go_wp2
                    go_ret
                    exact ⟨by rw [decide_eq_true (unhide HE)]; rfl, t5⟩
                · have e1 : (s0 == sa) = false := by rw [beq_eq_false_iff_ne]; exact q1
                  have HE : Hid (¬ PF) := hide (by rw [unhide TF2]; exact fun h => q1 h.1)
                  clear q1 TF2
                  refine wpAnyH_take (i := 4) (v := .bool false) rfl (by kernel_rfl) (by kernel_rfl) (by kernel_rfl) (fun _ _ _ h => h) (Or.inl ⟨by kernel_rfl, fun w hSw => by (try dsimp only at hSw); go_split_ands; go_simp⟩) (by assumption) ?_
                  simp only [Act.put, List.getElem_toArray, List.getElem_cons_zero, List.getElem_cons_succ, List.setIfInBounds_toArray, List.set_cons_zero, List.set_cons_succ]
                  refine wpAnyH_take (i := 5) (v := .bool false) rfl (by kernel_rfl) (by kernel_rfl) (by kernel_rfl) (fun _ _ _ h => h) (Or.inl ⟨by kernel_rfl, fun w hSw => by (try dsimp only at hSw); go_split_ands; go_simp⟩) (by assumption) ?_
                  simp only [Act.put, List.getElem_toArray, List.getElem_cons_zero, List.getElem_cons_succ, List.setIfInBounds_toArray, List.set_cons_zero, List.set_cons_succ]
                  refine wpAnyH_take (i := 6) (v := undef) rfl (by kernel_rfl) (by kernel_rfl) (by kernel_rfl) (fun _ _ _ h => h) (Or.inr ⟨by kernel_rfl, rfl⟩) (by assumption) ?_
                  simp only [Act.put, List.getElem_toArray, List.getElem_cons_zero, List.getElem_cons_succ, List.setIfInBounds_toArray, List.set_cons_zero, List.set_cons_succ]
                  refine wpAnyH_take (i := 7) (v := undef) rfl (by kernel_rfl) (by kernel_rfl) (by kernel_rfl) (fun _ _ _ h => h) (Or.inr ⟨by kernel_rfl, rfl⟩) (by assumption) ?_
                  simp only [Act.put, List.getElem_toArray, List.getElem_cons_zero, List.getElem_cons_succ, List.setIfInBounds_toArray, List.set_cons_zero, List.set_cons_succ]
                  refine wpAnyH_take (i := 8) (v := undef) rfl (by kernel_rfl) (by kernel_rfl) (by kernel_rfl) (fun _ _ _ h => h) (Or.inr ⟨by kernel_rfl, rfl⟩) (by assumption) ?_
                  simp only [Act.put, List.getElem_toArray, List.getElem_cons_zero, List.getElem_cons_succ, List.setIfInBounds_toArray, List.set_cons_zero, List.set_cons_succ]
                  refine wpAnyH_take (i := 9) (v := .bool false) rfl (by kernel_rfl) (by kernel_rfl) (by kernel_rfl) (fun _ _ _ h => h) (Or.inl ⟨by kernel_rfl, fun w hSw => by (try dsimp only at hSw); go_split_ands; go_simp⟩) (by assumption) ?_
                  simp only [Act.put, List.getElem_toArray, List.getElem_cons_zero, List.getElem_cons_succ, List.setIfInBounds_toArray, List.set_cons_zero, List.set_cons_succ]
                  refine wpAnyH_take (i := 10) (v := .bool false) rfl (by kernel_rfl) (by kernel_rfl) (by kernel_rfl) (fun _ _ _ h => h) (Or.inl ⟨by kernel_rfl, fun w hSw => by (try dsimp only at hSw); go_split_ands; go_simp⟩) (by assumption) ?_
                  simp only [Act.put, List.getElem_toArray, List.getElem_cons_zero, List.getElem_cons_succ, List.setIfInBounds_toArray, List.set_cons_zero, List.set_cons_succ]
                  refine wpAnyH_done (by kernel_rfl) ?_ _
                  clear hH
                  go_wp2
                  go_ret
                  exact ⟨by rw [decide_eq_false (unhide HE)]; rfl, t5⟩
      · have el : ((ts.length : Int) != p4) = true := by rw [bne_iff_ne]; exact hlen
        have HE : Hid (¬ PF) := hide (by rw [unhide TF]; exact fun h => hlen h.2.2.1)
        clear hlen hb1
        go_wp2
        go_ret
        exact ⟨by rw [decide_eq_false (unhide HE)]; rfl, t1⟩
    · have ef : (f != 0) = true := by rw [bne_iff_ne]; exact hf0
      have HE : Hid (¬ PF) := hide (by rw [unhide TF]; exact fun h => unhide FO hf0 h.2.1)
      clear hf0 hb1
      go_wp2
      go_ret
      exact ⟨by rw [decide_eq_false (unhide HE)]; rfl, t1⟩
  · have HE : Hid (¬ PF) := hide (by rw [unhide TF]; exact fun h => hid h.1)
    have HI := hide hid
    clear hid FT TK SA
    go_enter Try.func33, Try.ntmps33
    go_wp2_with fail
    refine (in_no id 1 9999 _ (unhide HI)).mono ?_
    rintro e w0 ⟨rfl, rfl⟩
    go_wp2
    go_ret
    exact ⟨by rw [decide_eq_false (unhide HE)]; rfl, (Below.refl _ _).alloc (Nat.le_refl _) _⟩
end Go.Proofs.Ytnpfboligmnhpaa
