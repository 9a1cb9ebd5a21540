/- The walk of the specification's RunOk: whether a run is right. -/
import Derived.Test.YtodlnhmlhpadbaaSpecTask
import Derived.Deep.DeepCutAuto
import Derived.Deep.RegionWith
namespace Go.Proofs.Ytodlnhmlhpadbaa
open Go.RowKit
open scoped Classical
set_option linter.unusedVariables false
set_option linter.unusedSimpArgs false
attribute [local go_sem ↓] Go.wp_at_zero Go.wp_at_succ

/-- Whether a run is right. -/
def RunOkA (r : RunL) : Prop :=
  (1 ≤ r.id ∧ r.id ≤ 9999) ∧ FaultIs r.plan 0 ∧ (r.tasks.length : Int) = r.plan.tasks ∧ (∀ x ∈ r.tasks, 1 ≤ x.a ∧ x.a ≤ 6) ∧
  (∀ (k : Nat) (h : k < r.tasks.length), TaskFits r.plan.most r.tasks[k] (needL r.tasks (befL r.plan (k : Int)))) ∧ r.state = stateA r.tasks ∧ r.state ≠ 0
theorem boxR {w W wr : World} {cs : Array Value} {T : TypeId} (h : W.heap[w.heap.size]? = some (.cells cs T (0, 0))) (hb : Below W.heap.size W wr) : wr.heap[w.heap.size]? = some (.cells cs T (0, 0)) := (hb.block _ (Array.getElem?_eq_some_iff.1 h).1).trans h
set_option maxRecDepth 100000 in
set_option maxHeartbeats 12800000 in
theorem specRunOk_any (ve vt : Value) (ba bt : Nat) (r : RunL) (w : World) (hA : w.ownsRow ba 111 2 ve r.plan.edges.length (edgesC r.plan.edges)) (hT : w.ownsRow bt 74 4 vt r.tasks.length (quadsC r.tasks)) (hl : r.plan.edges.length ≤ 2000000) (hm : r.tasks.length ≤ 2000000) :
    Calls Try.prog 53 #[runV r ve vt] w fun e w' => e = .returned (.bool (decide (RunOkA r))) ∧ Below w.heap.size w w' := by
  obtain ⟨f, hf, f0, f4⟩ := fault_ex r.plan
  obtain ⟨PF, hPF⟩ : ∃ P, P = RunOkA r := ⟨_, rfl⟩
  rw [← hPF]
  obtain ⟨id, p, s0, ts⟩ := r
  simp only at hA hT hl hm hf
  have TF : Hid (PF ↔ ((1 ≤ id ∧ id ≤ 9999) ∧ FaultIs p 0 ∧ (ts.length : Int) = p.tasks ∧ (∀ x ∈ ts, 1 ≤ x.a ∧ x.a ≤ 6) ∧ (∀ (k : Nat) (h : k < ts.length), TaskFits p.most ts[k] (needL ts (befL p (k : Int)))) ∧ s0 = stateA ts ∧ s0 ≠ 0)) := hide (by rw [hPF]; exact Iff.rfl)
  obtain ⟨ae, ce, rfl, -⟩ := ownsRow_shape hA
  obtain ⟨at_, ct, rfl, sgt⟩ := ownsRow_shape hT
  have FT := fun (W : World) (h : W.ownsRow ba 111 2 (.slice ae p.edges.length ce) p.edges.length (edgesC p.edges)) => hide (specFault_is _ ba p f W h hl hf)
  have TK := fun (k n : Nat) (hk : k < ts.length) (hn : p.tasks = (n : Int)) (h12 : n ≤ 12) (hel : p.edges.length ≤ 30) (hnd : p.edges.Nodup) (hlen : ts.length = n) (W : World) (h1 : W.ownsRow ba 111 2 (.slice ae p.edges.length ce) p.edges.length (edgesC p.edges)) (h2 : W.ownsRow bt 74 4 (.slice at_ ts.length ct) ts.length (quadsC ts)) => hide (specTask_any _ _ ba bt n k ⟨id, p, s0, ts⟩ W h1 h2 hn h12 hel hnd hlen hk)
  have SA := fun (hin : ∀ x ∈ ts, 1 ≤ x.a ∧ x.a ≤ 6) (W : World) (h2 : W.ownsRow bt 74 4 (.slice at_ ts.length ct) ts.length (quadsC ts)) => hide (specState_any (.slice ae p.edges.length ce) _ bt ⟨id, p, s0, ts⟩ W h2 hm hin)
  have FN : Hid (f = 0 → manyOk p ∧ edgesIn p ∧ onceOk p ∧ noCycle p) := hide (fun e => by rw [e] at hf; exact fault_none hf)
  have FO : Hid (f ≠ 0 → ¬ FaultIs p 0) := hide (fun e h => e (fault_one hf h))
  have FI : Hid (f = 0 → FaultIs p 0) := hide (fun e => by rw [e] at hf; exact hf)
  have HA := hide (And.intro hA hT)
  clear hA hT hf hPF
  obtain ⟨p1, p2, p3, p4, es⟩ := p
  unfold planV at FT
  unfold runV runC at TK SA ⊢
  simp only at FT TK SA TF hl HA ⊢
  have hid : (1 ≤ id ∧ id ≤ 9999) ∨ ¬ (1 ≤ id ∧ id ≤ 9999) := Classical.em _
  rcases hid with hid | hid
  · have HI := hide hid
    clear hid
    go_enter Try.func53, Try.ntmps53
    go_wp2_with fail
    obtain ⟨W, hW⟩ : ∃ W, W = w.alloc (Obj.cells #[.int .i64 id, .int .i64 p1, .int .i64 p2, .int .i64 p3, .int .i64 p4, .slice ae es.length ce, .int .i64 s0, .slice at_ ts.length ct] 65) := ⟨_, rfl⟩
    have HX := hide (show W.heap[w.heap.size]? = some (.cells #[.int .i64 id, .int .i64 p1, .int .i64 p2, .int .i64 p3, .int .i64 p4, .slice ae es.length ce, .int .i64 s0, .slice at_ ts.length ct] 65 (0, 0)) by rw [hW]; exact heap_alloc_new _ _)
    have hb0 : Below w.heap.size w W := by rw [hW]; exact (Below.refl _ _).alloc (Nat.le_refl _) _
    rw [← hW]
    clear hW
    refine (in_yes id 1 9999 _ (unhide HI).1 (unhide HI).2).mono ?_
    rintro e w0 ⟨rfl, hw0⟩
    rw [hw0]
    clear hw0 w0
    have y0a := cellIn (i := 0) (unhide HX) rfl
    have y1a := cellIn (i := 1) (unhide HX) rfl
    have y2a := cellIn (i := 2) (unhide HX) rfl
    have y3a := cellIn (i := 3) (unhide HX) rfl
    have y4a := cellIn (i := 4) (unhide HX) rfl
    have y5a := cellIn (i := 5) (unhide HX) rfl
    have y6a := cellIn (i := 6) (unhide HX) rfl
    have y7a := cellIn (i := 7) (unhide HX) rfl
    go_wp2_with fail
    refine (unhide (FT _ (ownsRow_below (unhide HA).1 hb0))).mono ?_
    rintro e w1 ⟨rfl, hb1⟩
    have t1 := hb0.trans (hb1.mono hb0.size)
    clear FT y0a y1a y2a y3a y4a y5a y6a y7a
    have y0b := cellIn (i := 0) (boxR (unhide HX) hb1) rfl
    have y1b := cellIn (i := 1) (boxR (unhide HX) hb1) rfl
    have y2b := cellIn (i := 2) (boxR (unhide HX) hb1) rfl
    have y3b := cellIn (i := 3) (boxR (unhide HX) hb1) rfl
    have y4b := cellIn (i := 4) (boxR (unhide HX) hb1) rfl
    have y5b := cellIn (i := 5) (boxR (unhide HX) hb1) rfl
    have y6b := cellIn (i := 6) (boxR (unhide HX) hb1) rfl
    have y7b := cellIn (i := 7) (boxR (unhide HX) hb1) rfl
    by_cases hf0 : f = 0
    · have FN1 := hide (unhide FN hf0)
      have FI1 := hide (unhide FI hf0)
      subst hf0
      by_cases hlen : (ts.length : Int) = p4
      · have el : ((ts.length : Int) != p4) = false := by rw [bne_eq_false_iff_eq]; exact hlen
        have HLEN := hide hlen
        clear hlen
        go_wp2
        go_loopw [3] (fun v wr => ∃ k : Nat, k ≤ ts.length ∧ v = .int .i64 k ∧ Below W.heap.size W wr ∧ Hid (∀ x ∈ ts.take k, 1 ≤ x.a ∧ x.a ≤ 6))
          (fun v _ => ts.length - (intOf v).toNat)
        case atStart => exact ⟨0, Nat.zero_le _, rfl, hb1, hide (by simp)⟩
        case round =>
          clear hb1 t1 y0b y1b y2b y3b y4b y5b y6b y7b
          obtain ⟨k, hk, rfl, hb, hat⟩ := hrel
          have x7 := cellIn (i := 7) (boxR (unhide HX) hb) rfl
          have t2 := hb0.trans (hb.mono hb0.size)
          by_cases hlt : k < ts.length
          · obtain ⟨gt, rfl⟩ := sgt (by omega)
            have hk0 : (0 : Int) ≤ (k : Int) := Int.natCast_nonneg _
            have hk1 : (k : Int) < (ts.length : Int) := by omega
            obtain ⟨c1, -, -, -⟩ := quadsC_cell (ownsRow_below (unhide HA).2 t2) hlt
            have HS := hide (List.take_succ_eq_append_getElem hlt)
            have HMM := hide (List.getElem_mem hlt)
            generalize ts[k] = x at c1 HS HMM
            by_cases hx : 1 ≤ x.a ∧ x.a ≤ 6
            · have hat2 : Hid (∀ x ∈ ts.take (k + 1), 1 ≤ x.a ∧ x.a ≤ 6) := hide (by
                rw [unhide HS]
                intro y hy
                rcases List.mem_append.1 hy with hy | hy
                · exact unhide hat y hy
                · simp at hy; subst hy; exact hx)
              have HXX := hide hx
              clear hx hat HS HMM
              go_wp2_with fail
              refine (in_yes x.a 1 6 _ (unhide HXX).1 (unhide HXX).2).mono ?_
              rintro e w_ ⟨rfl, rfl⟩
              go_wp2
              go_roundw
              case rel => exact ⟨k + 1, by omega, by go_num, hb, hat2⟩
              case measure => simp [intOf]; omega
            · have HE : Hid (¬ PF) := hide (by rw [unhide TF]; exact fun h => hx (h.2.2.2.1 x (unhide HMM)))
              have HXX := hide hx
              clear hx hat HS HMM
              go_wp2_with fail
              refine (in_no x.a 1 6 _ (unhide HXX)).mono ?_
              rintro e w_ ⟨rfl, rfl⟩
              go_wp2
              go_ret
              exact ⟨by rw [decide_eq_false (unhide HE)]; rfl, t2⟩
          · have hall : Hid (∀ x ∈ ts, 1 ≤ x.a ∧ x.a ≤ 6) := hide (by have := unhide hat; rwa [List.take_of_length_le (by omega)] at this)
            clear hat
            go_wp2
            go_loopw [4] (fun v wr => ∃ k : Nat, k ≤ ts.length ∧ v = .int .i64 k ∧ Below W.heap.size W wr ∧ Hid (∀ (j : Nat) (h : j < ts.length), j < k → TaskFits p2 ts[j] (needL ts (befL ⟨p1, p2, p3, p4, es⟩ (j : Int)))))
              (fun v _ => ts.length - (intOf v).toNat)
            case atStart => exact ⟨0, Nat.zero_le _, rfl, hb, hide (fun j h h2 => by omega)⟩
            case round =>
              clear hb x7 t2
              obtain ⟨k, hk, rfl, hb, hat⟩ := hrel
              have t2 := hb0.trans (hb.mono hb0.size)
              have y0c := cellIn (i := 0) (boxR (unhide HX) hb) rfl
              have y1c := cellIn (i := 1) (boxR (unhide HX) hb) rfl
              have y2c := cellIn (i := 2) (boxR (unhide HX) hb) rfl
              have y3c := cellIn (i := 3) (boxR (unhide HX) hb) rfl
              have y4c := cellIn (i := 4) (boxR (unhide HX) hb) rfl
              have y5c := cellIn (i := 5) (boxR (unhide HX) hb) rfl
              have y6c := cellIn (i := 6) (boxR (unhide HX) hb) rfl
              have y7c := cellIn (i := 7) (boxR (unhide HX) hb) rfl
              by_cases hlt : k < ts.length
              · obtain ⟨fm, fi, fo, -⟩ := unhide FN1
                have hlen := unhide HLEN
                have C := hide (unhide (TK k ts.length hlt hlen.symm (by have := fm.2.1; simp only at this; omega) fm.2.2.1 fo rfl wr (ownsRow_below (unhide HA).1 t2) (ownsRow_below (unhide HA).2 t2)))
                have HA1 : TaskFits p2 ts[k] (needL ts (befL ⟨p1, p2, p3, p4, es⟩ (k : Int))) → Hid (∀ (j : Nat) (h : j < ts.length), j < k + 1 → TaskFits p2 ts[j] (needL ts (befL ⟨p1, p2, p3, p4, es⟩ (j : Int)))) := fun h => hide (fun j hj hj2 => by
                  rcases Nat.lt_or_ge j k with h3 | h3
                  · exact unhide hat j hj h3
                  · have e : j = k := by omega
                    subst e; exact h)
                have HA2 : ¬ TaskFits p2 ts[k] (needL ts (befL ⟨p1, p2, p3, p4, es⟩ (k : Int))) → Hid (¬ PF) := fun h => hide (by rw [unhide TF]; exact fun g => h (g.2.2.2.2.1 k hlt))
                generalize TaskFits p2 ts[k] (needL ts (befL ⟨p1, p2, p3, p4, es⟩ (k : Int))) = TFK at C HA1 HA2
                clear hat fm fi fo hlen
                by_cases hq : TFK
                · rw [decide_eq_true hq] at C
                  have hat2 := HA1 hq
                  clear HA1 HA2 hq
                  go_wp2_with fail
                  refine (unhide C).mono ?_
                  rintro e w3 ⟨rfl, hb3⟩
                  have hbn := hb.trans (hb3.mono hb.size)
                  clear C hb3 hb y0c y1c y2c y3c y4c y5c y6c y7c
                  go_wp2
                  go_roundw
                  case rel => exact ⟨k + 1, by omega, by go_num, hbn, hat2⟩
                  case measure => simp [intOf]; omega
                · rw [decide_eq_false hq] at C
                  have HE := HA2 hq
                  clear HA1 HA2 hq
                  go_wp2_with fail
                  refine (unhide C).mono ?_
                  rintro e w3 ⟨rfl, hb3⟩
                  have tn := t2.trans (hb3.mono t2.size)
                  clear C hb3 hb y0c y1c y2c y3c y4c y5c y6c y7c
                  go_wp2
                  go_ret
                  exact ⟨by rw [decide_eq_false (unhide HE)]; rfl, tn⟩
              · have hfit : Hid (∀ (j : Nat) (h : j < ts.length), TaskFits p2 ts[j] (needL ts (befL ⟨p1, p2, p3, p4, es⟩ (j : Int)))) := hide (fun j h => unhide hat j h (by omega))
                have SC := fun W h => SA (unhide hall) W h
                obtain ⟨sa, hsa⟩ : ∃ s, s = stateA ts := ⟨_, rfl⟩
                rw [← hsa] at SC
                have TF2 : Hid (PF ↔ (s0 = sa ∧ s0 ≠ 0)) := hide (by
                  rw [unhide TF, hsa]
                  exact ⟨fun h => h.2.2.2.2.2, fun h => ⟨unhide HI, unhide FI1, unhide HLEN, unhide hall, unhide hfit, h⟩⟩)
                clear hsa hat TK SA TF FN1 FI1 HLEN hall hfit HI FN FO FI
                go_wp2_with fail
                refine wp_region_held_drew (S := fun w' => w'.cell? ⟨w.heap.size, 0, none⟩ = some (.int .i64 id) ∧ w'.cell? ⟨w.heap.size, 1, none⟩ = some (.int .i64 p1) ∧ w'.cell? ⟨w.heap.size, 2, none⟩ = some (.int .i64 p2) ∧ w'.cell? ⟨w.heap.size, 3, none⟩ = some (.int .i64 p3) ∧ w'.cell? ⟨w.heap.size, 4, none⟩ = some (.int .i64 p4) ∧ w'.cell? ⟨w.heap.size, 5, none⟩ = some (.slice ae es.length ce) ∧ w'.cell? ⟨w.heap.size, 6, none⟩ = some (.int .i64 s0) ∧ w'.cell? ⟨w.heap.size, 7, none⟩ = some (.slice at_ ts.length ct)) (by kernel_rfl) ⟨y0c, y1c, y2c, y3c, y4c, y5c, y6c, y7c⟩ (fun hS => ?_)
                obtain ⟨V0, hV0⟩ : ∃ V0, V0 = wr.drew := ⟨_, rfl⟩
                have hB0 : Below W.heap.size W V0 := by rw [hV0]; exact hb.drew
                rw [← hV0] at hS ⊢
                clear hV0
                refine wpAnyH_take (i := 0) (v := .pointer (some ⟨w.heap.size, 6, none⟩)) rfl (by kernel_rfl) (by kernel_rfl) (by kernel_rfl) (fun _ _ _ h => h) (Or.inl ⟨by kernel_rfl, fun w hSw => by (try dsimp only at hSw); go_split_ands; go_simp⟩) (by assumption) ?_
                simp only [Act.put, List.getElem_toArray, List.getElem_cons_zero, List.setIfInBounds_toArray, List.set_cons_zero, List.set_cons_succ]
                refine wpAnyH_take (i := 1) (v := .int .i64 s0) rfl (by kernel_rfl) (by kernel_rfl) (by kernel_rfl) (fun _ _ _ h => h) (Or.inl ⟨by kernel_rfl, fun w hSw => by (try dsimp only at hSw); go_split_ands; go_simp⟩) (by assumption) ?_
                simp only [Act.put, List.getElem_toArray, List.getElem_cons_zero, List.getElem_cons_succ, List.setIfInBounds_toArray, List.set_cons_zero, List.set_cons_succ]
                refine wpAnyH_take (i := 2) (v := .agg #[.int .i64 id, .int .i64 p1, .int .i64 p2, .int .i64 p3, .int .i64 p4, .slice ae es.length ce, .int .i64 s0, .slice at_ ts.length ct]) rfl (by kernel_rfl) (by kernel_rfl) (by kernel_rfl) (fun _ _ _ h => h) (Or.inl ⟨by kernel_rfl, fun w hSw => by (try dsimp only at hSw); go_split_ands; go_simp⟩) (by assumption) ?_
                simp only [Act.put, List.getElem_toArray, List.getElem_cons_zero, List.getElem_cons_succ, List.setIfInBounds_toArray, List.set_cons_zero, List.set_cons_succ]
                refine wpAnyH_ready (rs := [3]) (by kernel_rfl) (by simp) ?_
                refine AllReadyH.cons (i := 3) rfl (fun K hK => ?_) AllReadyH.nil
                go_simp
                refine (unhide (SC _ (ownsRow_below (unhide HA).2 (hb0.trans (hB0.mono hb0.size))))).mono ?_
                rintro e w5 ⟨rfl, hb5⟩
                have hB5 := hB0.trans (hb5.mono hB0.size)
                have t5 := hb0.trans (hB5.mono hb0.size)
                go_wp2_with fail
                refine hK.out _ _ ⟨cellIn (i := 0) (boxR (unhide HX) hB5) rfl, cellIn (i := 1) (boxR (unhide HX) hB5) rfl, cellIn (i := 2) (boxR (unhide HX) hB5) rfl, cellIn (i := 3) (boxR (unhide HX) hB5) rfl, cellIn (i := 4) (boxR (unhide HX) hB5) rfl, cellIn (i := 5) (boxR (unhide HX) hB5) rfl, cellIn (i := 6) (boxR (unhide HX) hB5) rfl, cellIn (i := 7) (boxR (unhide HX) hB5) rfl⟩ (fun hH => ?_)
                clear hK hS hb5 hB0 SC hb t2 y0c y1c y2c y3c y4c y5c y6c y7c
                try simp only [Act.put, List.getElem_toArray, List.getElem_cons_zero, List.getElem_cons_succ, List.setIfInBounds_toArray, List.set_cons_zero, List.set_cons_succ]
                by_cases q1 : s0 = sa
                · have e1 : (s0 == sa) = true := by rw [beq_iff_eq]; exact q1
                  by_cases q2 : s0 = 0
                  · have e2 : (s0 != 0) = false := by rw [bne_eq_false_iff_eq]; exact q2
                    have HE : Hid (¬ PF) := hide (by rw [unhide TF2]; exact fun h => h.2 q2)
                    clear q1 q2 TF2
                    refine wpAnyH_take (i := 4) (v := .bool true) rfl (by kernel_rfl) (by kernel_rfl) (by kernel_rfl) (fun _ _ _ h => h) (Or.inl ⟨by kernel_rfl, fun w hSw => by (try dsimp only at hSw); go_split_ands; go_simp⟩) (by assumption) ?_
                    simp only [Act.put, List.getElem_toArray, List.getElem_cons_zero, List.getElem_cons_succ, List.setIfInBounds_toArray, List.set_cons_zero, List.set_cons_succ]
                    refine wpAnyH_take (i := 5) (v := .bool true) rfl (by kernel_rfl) (by kernel_rfl) (by kernel_rfl) (fun _ _ _ h => h) (Or.inl ⟨by kernel_rfl, fun w hSw => by (try dsimp only at hSw); go_split_ands; go_simp⟩) (by assumption) ?_
                    simp only [Act.put, List.getElem_toArray, List.getElem_cons_zero, List.getElem_cons_succ, List.setIfInBounds_toArray, List.set_cons_zero, List.set_cons_succ]
                    refine wpAnyH_take (i := 6) (v := .pointer (some ⟨w.heap.size, 6, none⟩)) rfl (by kernel_rfl) (by kernel_rfl) (by kernel_rfl) (fun _ _ _ h => h) (Or.inl ⟨by kernel_rfl, fun w hSw => by (try dsimp only at hSw); go_split_ands; go_simp⟩) (by assumption) ?_
                    simp only [Act.put, List.getElem_toArray, List.getElem_cons_zero, List.getElem_cons_succ, List.setIfInBounds_toArray, List.set_cons_zero, List.set_cons_succ]
                    refine wpAnyH_take (i := 7) (v := .int .i64 s0) rfl (by kernel_rfl) (by kernel_rfl) (by kernel_rfl) (fun _ _ _ h => h) (Or.inl ⟨by kernel_rfl, fun w hSw => by (try dsimp only at hSw); go_split_ands; go_simp⟩) (by assumption) ?_
                    simp only [Act.put, List.getElem_toArray, List.getElem_cons_zero, List.getElem_cons_succ, List.setIfInBounds_toArray, List.set_cons_zero, List.set_cons_succ]
                    refine wpAnyH_take (i := 8) (v := .bool false) rfl (by kernel_rfl) (by kernel_rfl) (by kernel_rfl) (fun _ _ _ h => h) (Or.inl ⟨by kernel_rfl, fun w hSw => by (try dsimp only at hSw); go_split_ands; go_simp⟩) (by assumption) ?_
                    simp only [Act.put, List.getElem_toArray, List.getElem_cons_zero, List.getElem_cons_succ, List.setIfInBounds_toArray, List.set_cons_zero, List.set_cons_succ]
                    refine wpAnyH_take (i := 9) (v := .bool false) rfl (by kernel_rfl) (by kernel_rfl) (by kernel_rfl) (fun _ _ _ h => h) (Or.inl ⟨by kernel_rfl, fun w hSw => by (try dsimp only at hSw); go_split_ands; go_simp⟩) (by assumption) ?_
                    simp only [Act.put, List.getElem_toArray, List.getElem_cons_zero, List.getElem_cons_succ, List.setIfInBounds_toArray, List.set_cons_zero, List.set_cons_succ]
                    refine wpAnyH_take (i := 10) (v := .bool false) rfl (by kernel_rfl) (by kernel_rfl) (by kernel_rfl) (fun _ _ _ h => h) (Or.inl ⟨by kernel_rfl, fun w hSw => by (try dsimp only at hSw); go_split_ands; go_simp⟩) (by assumption) ?_
                    simp only [Act.put, List.getElem_toArray, List.getElem_cons_zero, List.getElem_cons_succ, List.setIfInBounds_toArray, List.set_cons_zero, List.set_cons_succ]
                    refine wpAnyH_done (by kernel_rfl) ?_ _
                    clear hH
                    go_wp2
                    go_ret
                    exact ⟨by rw [decide_eq_false (unhide HE)]; rfl, t5⟩
                  · have e2 : (s0 != 0) = true := by rw [bne_iff_ne]; exact q2
                    have HE : Hid PF := hide (by rw [unhide TF2]; exact ⟨q1, q2⟩)
                    clear q1 q2 TF2
                    refine wpAnyH_take (i := 4) (v := .bool true) rfl (by kernel_rfl) (by kernel_rfl) (by kernel_rfl) (fun _ _ _ h => h) (Or.inl ⟨by kernel_rfl, fun w hSw => by (try dsimp only at hSw); go_split_ands; go_simp⟩) (by assumption) ?_
                    simp only [Act.put, List.getElem_toArray, List.getElem_cons_zero, List.getElem_cons_succ, List.setIfInBounds_toArray, List.set_cons_zero, List.set_cons_succ]
                    refine wpAnyH_take (i := 5) (v := .bool true) rfl (by kernel_rfl) (by kernel_rfl) (by kernel_rfl) (fun _ _ _ h => h) (Or.inl ⟨by kernel_rfl, fun w hSw => by (try dsimp only at hSw); go_split_ands; go_simp⟩) (by assumption) ?_
                    simp only [Act.put, List.getElem_toArray, List.getElem_cons_zero, List.getElem_cons_succ, List.setIfInBounds_toArray, List.set_cons_zero, List.set_cons_succ]
                    refine wpAnyH_take (i := 6) (v := .pointer (some ⟨w.heap.size, 6, none⟩)) rfl (by kernel_rfl) (by kernel_rfl) (by kernel_rfl) (fun _ _ _ h => h) (Or.inl ⟨by kernel_rfl, fun w hSw => by (try dsimp only at hSw); go_split_ands; go_simp⟩) (by assumption) ?_
                    simp only [Act.put, List.getElem_toArray, List.getElem_cons_zero, List.getElem_cons_succ, List.setIfInBounds_toArray, List.set_cons_zero, List.set_cons_succ]
                    refine wpAnyH_take (i := 7) (v := .int .i64 s0) rfl (by kernel_rfl) (by kernel_rfl) (by kernel_rfl) (fun _ _ _ h => h) (Or.inl ⟨by kernel_rfl, fun w hSw => by (try dsimp only at hSw); go_split_ands; go_simp⟩) (by assumption) ?_
                    simp only [Act.put, List.getElem_toArray, List.getElem_cons_zero, List.getElem_cons_succ, List.setIfInBounds_toArray, List.set_cons_zero, List.set_cons_succ]
                    refine wpAnyH_take (i := 8) (v := .bool true) rfl (by kernel_rfl) (by kernel_rfl) (by kernel_rfl) (fun _ _ _ h => h) (Or.inl ⟨by kernel_rfl, fun w hSw => by (try dsimp only at hSw); go_split_ands; go_simp⟩) (by assumption) ?_
                    simp only [Act.put, List.getElem_toArray, List.getElem_cons_zero, List.getElem_cons_succ, List.setIfInBounds_toArray, List.set_cons_zero, List.set_cons_succ]
                    refine wpAnyH_take (i := 9) (v := .bool true) rfl (by kernel_rfl) (by kernel_rfl) (by kernel_rfl) (fun _ _ _ h => h) (Or.inl ⟨by kernel_rfl, fun w hSw => by (try dsimp only at hSw); go_split_ands; go_simp⟩) (by assumption) ?_
                    simp only [Act.put, List.getElem_toArray, List.getElem_cons_zero, List.getElem_cons_succ, List.setIfInBounds_toArray, List.set_cons_zero, List.set_cons_succ]
                    refine wpAnyH_take (i := 10) (v := .bool true) rfl (by kernel_rfl) (by kernel_rfl) (by kernel_rfl) (fun _ _ _ h => h) (Or.inl ⟨by kernel_rfl, fun w hSw => by (try dsimp only at hSw); go_split_ands; go_simp⟩) (by assumption) ?_
                    simp only [Act.put, List.getElem_toArray, List.getElem_cons_zero, List.getElem_cons_succ, List.setIfInBounds_toArray, List.set_cons_zero, List.set_cons_succ]
                    refine wpAnyH_done (by kernel_rfl) ?_ _
                    clear hH
                    go_wp2
                    go_ret
                    exact ⟨by rw [decide_eq_true (unhide HE)]; rfl, t5⟩
                · have e1 : (s0 == sa) = false := by rw [beq_eq_false_iff_ne]; exact q1
                  have HE : Hid (¬ PF) := hide (by rw [unhide TF2]; exact fun h => q1 h.1)
                  clear q1 TF2
                  refine wpAnyH_take (i := 4) (v := .bool false) rfl (by kernel_rfl) (by kernel_rfl) (by kernel_rfl) (fun _ _ _ h => h) (Or.inl ⟨by kernel_rfl, fun w hSw => by (try dsimp only at hSw); go_split_ands; go_simp⟩) (by assumption) ?_
                  simp only [Act.put, List.getElem_toArray, List.getElem_cons_zero, List.getElem_cons_succ, List.setIfInBounds_toArray, List.set_cons_zero, List.set_cons_succ]
                  refine wpAnyH_take (i := 5) (v := .bool false) rfl (by kernel_rfl) (by kernel_rfl) (by kernel_rfl) (fun _ _ _ h => h) (Or.inl ⟨by kernel_rfl, fun w hSw => by (try dsimp only at hSw); go_split_ands; go_simp⟩) (by assumption) ?_
                  simp only [Act.put, List.getElem_toArray, List.getElem_cons_zero, List.getElem_cons_succ, List.setIfInBounds_toArray, List.set_cons_zero, List.set_cons_succ]
                  refine wpAnyH_take (i := 6) (v := undef) rfl (by kernel_rfl) (by kernel_rfl) (by kernel_rfl) (fun _ _ _ h => h) (Or.inr ⟨by kernel_rfl, rfl⟩) (by assumption) ?_
                  simp only [Act.put, List.getElem_toArray, List.getElem_cons_zero, List.getElem_cons_succ, List.setIfInBounds_toArray, List.set_cons_zero, List.set_cons_succ]
                  refine wpAnyH_take (i := 7) (v := undef) rfl (by kernel_rfl) (by kernel_rfl) (by kernel_rfl) (fun _ _ _ h => h) (Or.inr ⟨by kernel_rfl, rfl⟩) (by assumption) ?_
                  simp only [Act.put, List.getElem_toArray, List.getElem_cons_zero, List.getElem_cons_succ, List.setIfInBounds_toArray, List.set_cons_zero, List.set_cons_succ]
                  refine wpAnyH_take (i := 8) (v := undef) rfl (by kernel_rfl) (by kernel_rfl) (by kernel_rfl) (fun _ _ _ h => h) (Or.inr ⟨by kernel_rfl, rfl⟩) (by assumption) ?_
                  simp only [Act.put, List.getElem_toArray, List.getElem_cons_zero, List.getElem_cons_succ, List.setIfInBounds_toArray, List.set_cons_zero, List.set_cons_succ]
                  refine wpAnyH_take (i := 9) (v := .bool false) rfl (by kernel_rfl) (by kernel_rfl) (by kernel_rfl) (fun _ _ _ h => h) (Or.inl ⟨by kernel_rfl, fun w hSw => by (try dsimp only at hSw); go_split_ands; go_simp⟩) (by assumption) ?_
                  simp only [Act.put, List.getElem_toArray, List.getElem_cons_zero, List.getElem_cons_succ, List.setIfInBounds_toArray, List.set_cons_zero, List.set_cons_succ]
                  refine wpAnyH_take (i := 10) (v := .bool false) rfl (by kernel_rfl) (by kernel_rfl) (by kernel_rfl) (fun _ _ _ h => h) (Or.inl ⟨by kernel_rfl, fun w hSw => by (try dsimp only at hSw); go_split_ands; go_simp⟩) (by assumption) ?_
                  simp only [Act.put, List.getElem_toArray, List.getElem_cons_zero, List.getElem_cons_succ, List.setIfInBounds_toArray, List.set_cons_zero, List.set_cons_succ]
                  refine wpAnyH_done (by kernel_rfl) ?_ _
                  clear hH
                  go_wp2
                  go_ret
                  exact ⟨by rw [decide_eq_false (unhide HE)]; rfl, t5⟩
      · have el : ((ts.length : Int) != p4) = true := by rw [bne_iff_ne]; exact hlen
        have HE : Hid (¬ PF) := hide (by rw [unhide TF]; exact fun h => hlen h.2.2.1)
        clear hlen hb1
        go_wp2
        go_ret
        exact ⟨by rw [decide_eq_false (unhide HE)]; rfl, t1⟩
    · have ef : (f != 0) = true := by rw [bne_iff_ne]; exact hf0
      have HE : Hid (¬ PF) := hide (by rw [unhide TF]; exact fun h => unhide FO hf0 h.2.1)
      clear hf0 hb1
      go_wp2
      go_ret
      exact ⟨by rw [decide_eq_false (unhide HE)]; rfl, t1⟩
  · have HE : Hid (¬ PF) := hide (by rw [unhide TF]; exact fun h => hid h.1)
    have HI := hide hid
    clear hid FT TK SA
    go_enter Try.func53, Try.ntmps53
    go_wp2_with fail
    refine (in_no id 1 9999 _ (unhide HI)).mono ?_
    rintro e w0 ⟨rfl, rfl⟩
    go_wp2
    go_ret
    exact ⟨by rw [decide_eq_false (unhide HE)]; rfl, (Below.refl _ _).alloc (Nat.le_refl _) _⟩
end Go.Proofs.Ytodlnhmlhpadbaa

/- The walks of the specification's l06Copy and l09Copy: a plan, and a run, in memory of its own. -/
namespace Go.Proofs.Ytodlnhmlhpadbaa
open Go.RowKit
open scoped Classical
set_option linter.unusedVariables false
set_option linter.unusedSimpArgs false
attribute [local go_sem ↓] Go.wp_at_zero Go.wp_at_succ

theorem edgesC_one (es : List EdgeL) : ∀ u ∈ edgesC es, u.oneCell' = true := by
  intro u hu
  simp only [edgesC, List.mem_flatMap] at hu
  obtain ⟨f, _, hf⟩ := hu
  simp only [ecs, List.mem_cons, List.not_mem_nil, or_false] at hf
  rcases hf with rfl | rfl <;> rfl
end Go.Proofs.Ytodlnhmlhpadbaa

/- The walk of the specification's l09Leave: all that is not done and did not fail is left. -/
namespace Go.Proofs.Ytodlnhmlhpadbaa
open Go.RowKit
open scoped Classical
set_option linter.unusedVariables false
set_option linter.unusedSimpArgs false
attribute [local go_sem ↓] Go.wp_at_zero Go.wp_at_succ

/-- A task that is left. -/
def leaveQ (x : QuadL) : QuadL := if x.a ≠ 4 ∧ x.a ≠ 5 then ⟨6, x.b, x.c, 0⟩ else x
def leaveT (ts : List QuadL) (k : Nat) : List QuadL := (ts.take k).map leaveQ ++ ts.drop k
theorem leaveT_zero (ts : List QuadL) : leaveT ts 0 = ts := by simp [leaveT]
theorem leaveT_all (ts : List QuadL) : leaveT ts ts.length = ts.map leaveQ := by simp [leaveT]
theorem leaveT_length (ts : List QuadL) (k : Nat) : (leaveT ts k).length = ts.length := by simp [leaveT]; omega
theorem leaveT_at (ts : List QuadL) (k : Nat) (h : k < ts.length) (h' : k < (leaveT ts k).length) : (leaveT ts k)[k] = ts[k] := by
  simp only [leaveT]
  rw [List.getElem_append_right (by simp; omega)]
  simp [Nat.min_eq_left (Nat.le_of_lt h)]
theorem leaveT_set (ts : List QuadL) (k : Nat) (h : k < ts.length) : (leaveT ts k).set k (leaveQ ts[k]) = leaveT ts (k + 1) := by
  have hl : (List.map leaveQ (ts.take k)).length = k := by simp; omega
  unfold leaveT
  rw [List.set_append_right _ _ (by omega), hl, Nat.sub_self, List.take_succ_eq_append_getElem h, List.map_append, List.append_assoc, List.drop_eq_getElem_cons h]
  rfl
def leaveR (r : RunL) (st : Int) : RunL := ⟨r.id, r.plan, st, r.tasks.map leaveQ⟩
end Go.Proofs.Ytodlnhmlhpadbaa
