/- The walk of the specification's l09State: what the state of a run has to be. -/
import Derived.Test.YtodlnhmlhpadbaaS9
import Derived.Deep.QuietTactic
import Derived.BigQuiet
import Derived.Deep.RegionHeld3
namespace Go.Proofs.Ytodlnhmlhpadbaa
open Go.RowKit
open scoped Classical
set_option linter.unusedVariables false
set_option linter.unusedSimpArgs false
attribute [local go_sem ↓] Go.wp_at_zero Go.wp_at_succ

/-- How many tasks are in a state; all counts, as a list. -/
def cntS (ts : List QuadL) (s : Nat) : Nat := ts.countP (fun x => x.a == (s : Int))
def cntC (ts : List QuadL) : List Int := (List.range 7).map (fun s => (cntS ts s : Int))
theorem cntS_le (ts : List QuadL) (s : Nat) : cntS ts s ≤ ts.length := List.countP_le_length
theorem cntC_len (ts : List QuadL) : (cntC ts).length = 7 := by simp [cntC]
theorem cntC_nil : cntC [] = [0, 0, 0, 0, 0, 0, 0] := rfl
theorem cntC_at (ts : List QuadL) (s : Nat) (h : s < (cntC ts).length) : (cntC ts)[s] = (cntS ts s : Int) := by simp [cntC]
theorem cntS_snoc (ts : List QuadL) (x : QuadL) (s : Nat) : cntS (ts ++ [x]) s = cntS ts s + (if x.a = (s : Int) then 1 else 0) := by
  unfold cntS
  rw [List.countP_append]
  by_cases h : x.a = (s : Int)
  · simp [h]
  · simp [h]
theorem cntC_set (ts : List QuadL) (x : QuadL) (s : Nat) (hs : s < 7) (hx : x.a = (s : Int)) : (cntC ts).set s ((cntS ts s : Int) + 1) = cntC (ts ++ [x]) := by
  apply List.ext_getElem
  · simp [cntC]
  · intro j h1 h2
    rw [List.getElem_set]
    simp only [cntC, List.getElem_map, List.getElem_range]
    rw [cntS_snoc]
    by_cases e : s = j
    · subst e
      rw [if_pos rfl, if_pos hx]
      omega
    · rw [if_neg e, if_neg (by omega)]
      rfl
/-- What the state of a run has to be; 0 when its tasks fit none. -/
def stateA (ts : List QuadL) : Int :=
  if cntS ts 4 = ts.length then 2
  else if cntS ts 5 = 1 ∧ cntS ts 1 + cntS ts 2 + cntS ts 3 = 0 then 3
  else if cntS ts 5 = 0 ∧ 0 < cntS ts 6 ∧ cntS ts 1 + cntS ts 2 + cntS ts 3 = 0 then 4
  else if cntS ts 5 = 0 ∧ cntS ts 6 = 0 then 1 else 0
theorem stateA_in (ts : List QuadL) : 0 ≤ stateA ts ∧ stateA ts ≤ 4 := by
  unfold stateA
  split
  · omega
  · split
    · omega
    · split
      · omega
      · split <;> omega
set_option maxRecDepth 100000 in
set_option maxHeartbeats 6400000 in
theorem specState_any (ve vt : Value) (bt : Nat) (r : RunL) (w : World) (hT : w.ownsRow bt 74 4 vt r.tasks.length (quadsC r.tasks)) (hm : r.tasks.length ≤ 2000000) (hin : ∀ x ∈ r.tasks, 1 ≤ x.a ∧ x.a ≤ 6) :
    Calls Try.prog 77 #[runV r ve vt] w fun e w' => e = .returned (.int .i64 (stateA r.tasks)) ∧ Below w.heap.size w w' := by
  obtain ⟨id, p, s0, ts⟩ := r
  obtain ⟨p1, p2, p3, p4, es⟩ := p
  unfold runV runC
  simp only at hT hm hin ⊢
  obtain ⟨at_, ct, rfl, sgt⟩ := ownsRow_shape hT
  obtain ⟨R, hR⟩ : ∃ R, R = stateA ts := ⟨_, rfl⟩
  rw [← hR]
  have HR := hide hR
  clear hR
  have HT := hide hT
  have HIN := hide hin
  clear hT hin
  go_enter Try.func77, Try.ntmps77
  go_wp2
  obtain ⟨W, hW⟩ : ∃ W, W = w.alloc (Obj.cells #[.int .i64 id, .int .i64 p1, .int .i64 p2, .int .i64 p3, .int .i64 p4, ve, .int .i64 s0, .slice at_ ts.length ct] 65) := ⟨_, rfl⟩
  have HX := hide (show W.heap[w.heap.size]? = some (.cells #[.int .i64 id, .int .i64 p1, .int .i64 p2, .int .i64 p3, .int .i64 p4, ve, .int .i64 s0, .slice at_ ts.length ct] 65 (0, 0)) by rw [hW]; exact heap_alloc_new _ _)
  have hW0 : Below w.heap.size w W := by rw [hW]; exact (Below.refl _ _).alloc (Nat.le_refl _) _
  have hs0 : W.heap.size = w.heap.size + 1 := by rw [hW]; simp
  rw [← hW]
  clear hW
  obtain ⟨W1, hW1⟩ : ∃ W1, W1 = W.alloc (Obj.cells #[.int .i64 0, .int .i64 0, .int .i64 0, .int .i64 0, .int .i64 0, .int .i64 0, .int .i64 0] 3) := ⟨_, rfl⟩
  have ho1 : W1.ownsRow W.heap.size 3 1 (.slice (some ⟨w.heap.size + 1, 0, none⟩) 7 7) 7 (intC (cntC [])) := by
    rw [hW1, ← hs0, cntC_nil]
    exact World.ownsRow_lit (base := W.heap.size) (e := 3) (size := 1) W #[.int .i64 0, .int .i64 0, .int .i64 0, .int .i64 0, .int .i64 0, .int .i64 0, .int .i64 0] 7 (Nat.le_refl _) (by decide) rfl
  have hb1 : Below W.heap.size W W1 := by rw [hW1]; exact (Below.refl _ _).alloc (Nat.le_refl _) _
  rw [← hW1]
  obtain ⟨gn, hgn⟩ : ∃ gn, gn = w.heap.size + 1 := ⟨_, rfl⟩
  rw [← hgn] at ho1 ⊢
  have hgW : W.heap.size ≤ gn := by omega
  clear hW1 hs0 hgn
  go_loopw [4] (fun v wr => ∃ k : Nat, k ≤ ts.length ∧ v = .int .i64 k ∧ wr.ownsRow W.heap.size 3 1 (.slice (some ⟨gn, 0, none⟩) 7 7) 7 (intC (cntC (ts.take k))) ∧ Below W.heap.size W wr)
    (fun v _ => ts.length - (intOf v).toNat)
  case atStart => exact ⟨0, Nat.zero_le _, rfl, by simpa using ho1, hb1⟩
  case round =>
    clear ho1 hb1
    obtain ⟨k, hk, rfl, ho, hb⟩ := hrel
    have x7 := cellIn (i := 7) (heapLater hb (unhide HX)) rfl
    have hbw := hW0.trans (hb.mono hW0.size)
    by_cases hlt : k < ts.length
    · obtain ⟨gt, rfl⟩ := sgt (by omega)
      have hk0 : (0 : Int) ≤ (k : Int) := Int.natCast_nonneg _
      have hk1 : (k : Int) < (ts.length : Int) := by omega
      obtain ⟨c1, -, -, -⟩ := quadsC_cell (ownsRow_below (unhide HT) hbw) hlt
      have HS := hide (List.take_succ_eq_append_getElem hlt)
      obtain ⟨i1, i2⟩ := unhide HIN ts[k] (List.getElem_mem hlt)
      have CS := hide (cntC_set (ts.take k) ts[k])
      generalize ts[k] = x at c1 HS i1 i2 CS
      obtain ⟨s, hs⟩ : ∃ s : Nat, x.a = (s : Int) := ⟨x.a.toNat, by omega⟩
      have hs7 : s < 7 := by omega
      have hs7i : (s : Int) < 7 := by omega
      have hs0i : (0 : Int) ≤ (s : Int) := by omega
      have d1 := intC_cell ho (by rw [cntC_len]) (k := s) (by rw [cntC_len]; omega)
      rw [cntC_at] at d1
      have hcl : cntS (ts.take k) s ≤ 2000000 := by have := cntS_le (ts.take k) s; rw [List.length_take] at this; omega
      have fz := ho.frozenAt s
      have ST := ho.stored s (.int .i64 ((cntS (ts.take k) s : Int) + 1))
      rw [intC_set, unhide CS s hs7 hs, ← unhide HS] at ST
      have HB := hide (And.intro ST.1 (hb.grown ST.2 hb.size (fun j hj => by simp [Value.ownBlock] at hj; omega)))
      rw [hs] at c1
      generalize cntS (ts.take k) s = c at d1 hcl HB
      clear ST ho hb CS HS hs i1 i2 hbw
      go_wp2
      go_roundw
      case rel => exact ⟨k + 1, by omega, by go_num, (unhide HB).1, (unhide HB).2⟩
      case measure => simp [intOf]; omega
    · have hke : ts.take k = ts := List.take_of_length_le (by omega)
      rw [hke] at ho
      have HRR : Hid (R = if cntS ts 4 = ts.length then 2 else if cntS ts 5 = 1 ∧ cntS ts 1 + cntS ts 2 + cntS ts 3 = 0 then 3 else if cntS ts 5 = 0 ∧ 0 < cntS ts 6 ∧ cntS ts 1 + cntS ts 2 + cntS ts 3 = 0 then 4 else if cntS ts 5 = 0 ∧ cntS ts 6 = 0 then 1 else 0) := hide (by rw [unhide HR]; rfl)
      have d1 := intC_cell ho (by rw [cntC_len]) (k := 1) (by rw [cntC_len]; omega)
      rw [cntC_at] at d1
      have b1 := cntS_le ts 1
      have d2 := intC_cell ho (by rw [cntC_len]) (k := 2) (by rw [cntC_len]; omega)
      rw [cntC_at] at d2
      have b2 := cntS_le ts 2
      have d3 := intC_cell ho (by rw [cntC_len]) (k := 3) (by rw [cntC_len]; omega)
      rw [cntC_at] at d3
      have b3 := cntS_le ts 3
      have d4 := intC_cell ho (by rw [cntC_len]) (k := 4) (by rw [cntC_len]; omega)
      rw [cntC_at] at d4
      have b4 := cntS_le ts 4
      have d5 := intC_cell ho (by rw [cntC_len]) (k := 5) (by rw [cntC_len]; omega)
      rw [cntC_at] at d5
      have b5 := cntS_le ts 5
      have d6 := intC_cell ho (by rw [cntC_len]) (k := 6) (by rw [cntC_len]; omega)
      rw [cntC_at] at d6
      have b6 := cntS_le ts 6
      clear ho hke HR sgt
      generalize cntS ts 1 = c1 at d1 b1 HRR
      generalize cntS ts 2 = c2 at d2 b2 HRR
      generalize cntS ts 3 = c3 at d3 b3 HRR
      generalize cntS ts 4 = c4 at d4 b4 HRR
      generalize cntS ts 5 = c5 at d5 b5 HRR
      generalize cntS ts 6 = c6 at d6 b6 HRR
      have m1 : c1 ≤ 2000000 ∧ c2 ≤ 2000000 ∧ c3 ≤ 2000000 := by omega
      obtain ⟨m1a, m1b, m1c⟩ := m1
      go_wp2_with fail
      go_region_held3 (fun w' => w'.cell? ⟨gn, 1, none⟩ = some (.int .i64 (c1 : Int)) ∧ w'.cell? ⟨gn, 2, none⟩ = some (.int .i64 (c2 : Int)) ∧ w'.cell? ⟨gn, 3, none⟩ = some (.int .i64 (c3 : Int))) (go_keep) (fail)
      go_wp2_with fail
      go_region_held3 (fun w' => w'.cell? ⟨gn, 4, none⟩ = some (.int .i64 (c4 : Int)) ∧ w'.cell? ⟨w.heap.size, 7, none⟩ = some (.slice at_ ts.length ct)) (go_keep) (fail)
      have HB2 : Below w.heap.size w wr.drew.drew := hbw.drew.drew
      clear hb
      by_cases q1 : c4 = ts.length
      · have e1 : ((c4 : Int) == (ts.length : Int)) = true := by simp [q1]
        have HE : Hid (R = 2) := hide (by rw [unhide HRR, if_pos q1])
        clear q1 HRR
        go_wp2
        go_ret
        exact ⟨by rw [unhide HE]; rfl, HB2⟩
      · have e1 : ((c4 : Int) == (ts.length : Int)) = false := by simp; omega
        by_cases q0 : c1 + c2 + c3 = 0
        · have er : ((c1 : Int) + (c2 : Int) + (c3 : Int) == 0) = true := by rw [beq_iff_eq]; omega
          by_cases q5 : c5 = 1
          · have e5 : ((c5 : Int) == 1) = true := by simp [q5]
            have HE : Hid (R = 3) := hide (by rw [unhide HRR, if_neg q1, if_pos ⟨q5, q0⟩])
            clear q1 q0 q5 HRR
            go_wp2
            go_ret
            exact ⟨by rw [unhide HE]; rfl, HB2⟩
          · have e5 : ((c5 : Int) == 1) = false := by rw [beq_eq_false_iff_ne]; omega
            by_cases q6 : c5 = 0
            · have e6 : ((c5 : Int) == 0) = true := by simp [q6]
              by_cases q7 : 0 < c6
              · have e7 : decide ((0 : Int) < (c6 : Int)) = true := by simp; omega
                have q7i : (0 : Int) < (c6 : Int) := by omega
                have HE : Hid (R = 4) := hide (by rw [unhide HRR, if_neg q1, if_neg (by omega), if_pos ⟨q6, q7, q0⟩])
                have K5 := hide q6
                clear q1 q0 q5 q6 q7 HRR
                go_wp2
                go_ret
                exact ⟨by rw [unhide HE]; rfl, HB2⟩
              · have e7 : decide ((0 : Int) < (c6 : Int)) = false := by simp; omega
                have e8 : ((c6 : Int) == 0) = true := by rw [beq_iff_eq]; omega
                have HE : Hid (R = 1) := hide (by rw [unhide HRR, if_neg q1, if_neg (by omega), if_neg (by omega), if_pos ⟨q6, by omega⟩])
                have c60 : c6 = 0 := by omega
                clear q1 q0 q5 q6 q7 HRR e7 e8
                subst c60
                go_wp2
                go_ret
                exact ⟨by rw [unhide HE]; rfl, HB2⟩
            · have e6 : ((c5 : Int) == 0) = false := by rw [beq_eq_false_iff_ne]; omega
              have HE : Hid (R = 0) := hide (by rw [unhide HRR, if_neg q1, if_neg (by omega), if_neg (by omega), if_neg (by omega)])
              clear q1 q0 q5 q6 HRR
              go_wp2
              go_ret
              exact ⟨by rw [unhide HE]; rfl, HB2⟩
        · have er : ((c1 : Int) + (c2 : Int) + (c3 : Int) == 0) = false := by rw [beq_eq_false_iff_ne]; omega
          by_cases q6 : c5 = 0
          · have e6 : ((c5 : Int) == 0) = true := by simp [q6]
            have e5 : ((c5 : Int) == 1) = false := by rw [beq_eq_false_iff_ne]; omega
            by_cases q8 : c6 = 0
            · have e7 : decide ((0 : Int) < (c6 : Int)) = false := by simp; omega
              have e8 : ((c6 : Int) == 0) = true := by rw [beq_iff_eq]; omega
              have HE : Hid (R = 1) := hide (by rw [unhide HRR, if_neg q1, if_neg (by omega), if_neg (by omega), if_pos ⟨q6, q8⟩])
              clear q1 q0 q6 HRR e7 e8
              subst q8
              go_wp2
              go_ret
              exact ⟨by rw [unhide HE]; rfl, HB2⟩
            · have e7 : decide ((0 : Int) < (c6 : Int)) = true := by simp; omega
              have q7i : (0 : Int) < (c6 : Int) := by omega
              have e8 : ((c6 : Int) == 0) = false := by rw [beq_eq_false_iff_ne]; omega
              have HE : Hid (R = 0) := hide (by rw [unhide HRR, if_neg q1, if_neg (by omega), if_neg (by omega), if_neg (by omega)])
              clear q1 q0 q6 q8 HRR
              go_wp2
              go_ret
              exact ⟨by rw [unhide HE]; rfl, HB2⟩
          · have e6 : ((c5 : Int) == 0) = false := by rw [beq_eq_false_iff_ne]; omega
            have HE : Hid (R = 0) := hide (by rw [unhide HRR, if_neg q1, if_neg (by omega), if_neg (by omega), if_neg (by omega)])
            clear q1 q0 q6 HRR
            by_cases q5 : c5 = 1
            · have e5 : ((c5 : Int) == 1) = true := by simp [q5]
              clear q5
              go_wp2
              go_ret
              exact ⟨by rw [unhide HE]; rfl, HB2⟩
            · have e5 : ((c5 : Int) == 1) = false := by rw [beq_eq_false_iff_ne]; omega
              clear q5
              go_wp2
              go_ret
              exact ⟨by rw [unhide HE]; rfl, HB2⟩
end Go.Proofs.Ytodlnhmlhpadbaa
