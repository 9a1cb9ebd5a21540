/- The walk of what holds a run's state against the states of its tasks. -/
import Derived.Test.YtodlnhmlhpadbaaImplTk
import Derived.Test.YtodlnhmlhpadbaaS13
import Derived.Test.YtodlnhmlhpadbaaS39
import Derived.Deep.RegionHeld3
import Derived.Deep.DeepCutAuto
namespace Go.Proofs.Ytodlnhmlhpadbaa
open Go.RowKit
open scoped Classical
set_option linter.unusedVariables false
set_option linter.unusedSimpArgs false
attribute [local go_sem ↓] Go.wp_at_zero Go.wp_at_succ

/-- The counts as the cells of an array. -/
def cntA (ts : List QuadL) : Array Value := (intC (cntC ts)).toArray
theorem cntA_get (ts : List QuadL) (s : Nat) (h : s < 7) : (cntA ts)[s]? = some (.int .i64 (cntS ts s : Int)) := by
  unfold cntA
  rw [List.getElem?_toArray, intC_get _ _ (by rw [cntC_len]; exact h), cntC_at]
theorem cntA_put (ts : List QuadL) (x : QuadL) (s : Nat) (hs : s < 7) (hx : x.a = (s : Int)) : (cntA ts).setIfInBounds s (.int .i64 ((cntS ts s : Int) + 1)) = cntA (ts ++ [x]) := by
  unfold cntA
  rw [List.setIfInBounds_toArray, intC_set, cntC_set ts x s hs hx]
theorem zeroCnt (w : World) : (zeroValue 138).run Try.prog w = .ok (.agg (cntA [])) w := by kernel_rfl
def fitsS (s : Int) (ts : List QuadL) : Bool :=
  if cntS ts 4 = ts.length then s == 2
  else if cntS ts 5 = 1 ∧ cntS ts 4 + cntS ts 6 + 1 = ts.length then s == 3
  else if cntS ts 4 + cntS ts 6 = ts.length then s == 4
  else (s == 1 && cntS ts 5 == 0 && cntS ts 6 == 0)
theorem cnt_sum {ts : List QuadL} (hin : ∀ x ∈ ts, 1 ≤ x.a ∧ x.a ≤ 6) : cntS ts 1 + cntS ts 2 + cntS ts 3 + cntS ts 4 + cntS ts 5 + cntS ts 6 = ts.length := by
  induction ts with
  | nil => rfl
  | cons x r ih =>
    have h := hin x (List.mem_cons_self ..)
    have hr := ih (fun y hy => hin y (List.mem_cons_of_mem _ hy))
    have e : ∀ s : Nat, cntS (x :: r) s = cntS r s + (if x.a = (s : Int) then 1 else 0) := fun s => by
      unfold cntS
      rw [List.countP_cons]
      simp
    rw [e 1, e 2, e 3, e 4, e 5, e 6, List.length_cons]
    have hc : x.a = 1 ∨ x.a = 2 ∨ x.a = 3 ∨ x.a = 4 ∨ x.a = 5 ∨ x.a = 6 := by omega
    rcases hc with k | k | k | k | k | k <;> rw [k] <;> simp <;> omega
theorem fitsS_iff {s : Int} {ts : List QuadL} (hin : ∀ x ∈ ts, 1 ≤ x.a ∧ x.a ≤ 6) : fitsS s ts = true ↔ s = stateA ts ∧ s ≠ 0 := by
  have hs := cnt_sum hin
  unfold fitsS stateA
  by_cases h1 : cntS ts 4 = ts.length
  · rw [if_pos h1, if_pos h1]; simp; omega
  · rw [if_neg h1, if_neg h1]
    by_cases h2 : cntS ts 5 = 1 ∧ cntS ts 4 + cntS ts 6 + 1 = ts.length
    · rw [if_pos h2, if_pos (show (cntS ts 5 = 1 ∧ cntS ts 1 + cntS ts 2 + cntS ts 3 = 0) by omega)]; simp; omega
    · rw [if_neg h2, if_neg (show ¬ (cntS ts 5 = 1 ∧ cntS ts 1 + cntS ts 2 + cntS ts 3 = 0) by omega)]
      by_cases h3 : cntS ts 4 + cntS ts 6 = ts.length
      · rw [if_pos h3, if_pos (show (cntS ts 5 = 0 ∧ 0 < cntS ts 6 ∧ cntS ts 1 + cntS ts 2 + cntS ts 3 = 0) by omega)]; simp; omega
      · rw [if_neg h3, if_neg (show ¬ (cntS ts 5 = 0 ∧ 0 < cntS ts 6 ∧ cntS ts 1 + cntS ts 2 + cntS ts 3 = 0) by omega)]
        by_cases h4 : cntS ts 5 = 0 ∧ cntS ts 6 = 0
        · rw [if_pos h4]; simp [h4]; omega
        · rw [if_neg h4]; simp; omega
theorem quadBox {w w' : World} {x : QuadL} (hb : Below (w.alloc (Obj.cells #[.int .i64 x.a, .int .i64 x.b, .int .i64 x.c, .int .i64 x.d] 74)).heap.size (w.alloc (Obj.cells #[.int .i64 x.a, .int .i64 x.b, .int .i64 x.c, .int .i64 x.d] 74)) w') : w'.cell? ⟨w.heap.size, 0, none⟩ = some (.int .i64 x.a) :=
  cellIn (i := 0) (heapLater hb (heap_alloc_new w _)) rfl
set_option maxRecDepth 100000 in
set_option maxHeartbeats 3200000 in
theorem implFits_any (s : Int) (vt : Value) (bt : Nat) (ts : List QuadL) (w : World) (hT : w.ownsRow bt 74 4 vt ts.length (quadsC ts)) (hm : ts.length ≤ 2000000) (hin : ∀ x ∈ ts, 1 ≤ x.a ∧ x.a ≤ 6) :
    Calls Try.prog 96 #[.int .i64 s, vt] w fun e w' => e = .returned (.bool (fitsS s ts)) ∧ Below w.heap.size w w' := by
  obtain ⟨at_, ct, rfl, sgt⟩ := ownsRow_shape hT
  have HT := hide hT
  have HIN := hide hin
  clear hT hin
  obtain ⟨F, hF⟩ : ∃ F, F = fitsS s ts := ⟨_, rfl⟩
  rw [← hF]
  have HF := hide hF
  clear hF
  have hz := zeroCnt
  go_enter Try.func96, Try.ntmps96
  go_wp2
  clear hz
  obtain ⟨W, hW⟩ : ∃ W, W = w.alloc (Obj.cells (cntA []) 138) := ⟨_, rfl⟩
  have hR0 : W.heap[w.heap.size]? = some (.cells (cntA (ts.take 0)) 138 (0, 0)) := by rw [hW, List.take_zero]; exact heap_alloc_new _ _
  have hW0 : Below w.heap.size w W := by rw [hW]; exact (Below.refl _ _).alloc (Nat.le_refl _) _
  rw [← hW]
  clear hW
  go_loopw [11] (fun i wr => ∃ k : Nat, k ≤ ts.length ∧ i = .int .i64 k ∧ wr.heap[w.heap.size]? = some (.cells (cntA (ts.take k)) 138 (0, 0)) ∧ Below w.heap.size w wr)
    (fun i _ => ts.length - (intOf i).toNat)
  case atStart => exact ⟨0, Nat.zero_le _, rfl, hR0, hW0⟩
  case round =>
    clear hR0 hW0
    obtain ⟨k, hk, rfl, hR, hb⟩ := hrel
    by_cases hlt : k < ts.length
    · obtain ⟨gt, rfl⟩ := sgt (by omega)
      have hk0 : (0 : Int) ≤ (k : Int) := Int.natCast_nonneg _
      have hk1 : (k : Int) < (ts.length : Int) := by omega
      obtain ⟨c1, c2, c3, c4⟩ := quadsC_cell (ownsRow_below (unhide HT) hb) hlt
      have HS := hide (List.take_succ_eq_append_getElem hlt)
      have hI := unhide HIN _ (List.getElem_mem hlt)
      generalize ts[k] = x at c1 c2 c3 c4 HS hI
      obtain ⟨xa, xb, xc, xd⟩ := x
      simp only at c1 c2 c3 c4 hI
      obtain ⟨sa, rfl⟩ : ∃ m : Nat, xa = (m : Int) := ⟨xa.toNat, by omega⟩
      have hs0 : (0 : Int) ≤ (sa : Int) := Int.natCast_nonneg _
      have hs7 : (sa : Int) < 7 := by omega
      have hs7n : sa < 7 := by omega
      have hbs := hb.size
      have hlt0 := (Array.getElem?_eq_some_iff.1 hR).1
      obtain ⟨V, hV⟩ : ∃ V, V = wr.alloc (Obj.cells #[.int .i64 (sa : Int), .int .i64 xb, .int .i64 xc, .int .i64 xd] 74) := ⟨_, rfl⟩
      have hbV : Below wr.heap.size wr V := by rw [hV]; exact (Below.refl _ _).alloc (Nat.le_refl _) _
      have z0 : V.cell? ⟨wr.heap.size, 0, none⟩ = some (.int .i64 (sa : Int)) := cellIn (i := 0) (by rw [hV]; exact heap_alloc_new wr _) rfl
      have hRV := heapLater hbV hR
      have cV := cellIn hRV (cntA_get (ts.take k) sa hs7n)
      have hle := cntS_le (ts.take k) sa
      rw [List.length_take] at hle
      obtain ⟨m, hmm⟩ : ∃ m : Nat, m = cntS (ts.take k) sa := ⟨_, rfl⟩
      have fz := softIn (i := sa) hRV
      have hg := setOne V w.heap.size sa (.int .i64 ((m : Int) + 1))
      have HB := hide (show Below w.heap.size w (V.setCell ⟨w.heap.size, sa, none⟩ (.int .i64 ((m : Int) + 1))) from (hb.trans (hbV.mono hbs)).grown hg (by have := hbV.size; omega) (fun j hj => by cases hj; exact Nat.le_refl _))
      have HP := hide (show (V.setCell ⟨w.heap.size, sa, none⟩ (.int .i64 ((m : Int) + 1))).heap[w.heap.size]? = some (.cells (cntA (ts.take (k + 1))) 138 (0, 0)) by
        rw [heap_setCell_same V w.heap.size sa _ _ _ hRV, hmm, unhide HS, cntA_put (ts.take k) ⟨(sa : Int), xb, xc, xd⟩ sa hs7n rfl])
      rw [← hmm] at cV
      have hm2 : m ≤ 2000000 := by omega
      have HV := hide hV
      clear hV hmm hle hRV hg hR hb hbs hlt0 hI HS
      go_upto_region 5 with fail
      rw [← unhide HV]
      clear HV c1 c2 c3 c4 hbV
      go_wp2
      go_roundw
      case rel => exact ⟨k + 1, by omega, by go_num, unhide HP, unhide HB⟩
      case measure => simp [intOf]; omega
    · have hke : ts.take k = ts := List.take_of_length_le (by omega)
      rw [hke] at hR
      have c4 := cellIn hR (cntA_get ts 4 (by omega))
      have c5 := cellIn hR (cntA_get ts 5 (by omega))
      have c6 := cellIn hR (cntA_get ts 6 (by omega))
      have l4 := cntS_le ts 4
      have l5 := cntS_le ts 5
      have l6 := cntS_le ts 6
      have hFe := unhide HF
      unfold fitsS at hFe
      have HB := hide hb
      clear hR hb hke HF HIN HT sgt
      generalize cntS ts 4 = n4 at c4 l4 hFe
      generalize cntS ts 5 = n5 at c5 l5 hFe
      generalize cntS ts 6 = n6 at c6 l6 hFe
      obtain ⟨i4, h4⟩ : ∃ i : Int, i = (n4 : Int) := ⟨_, rfl⟩
      obtain ⟨i5, h5⟩ : ∃ i : Int, i = (n5 : Int) := ⟨_, rfl⟩
      obtain ⟨i6, h6⟩ : ∃ i : Int, i = (n6 : Int) := ⟨_, rfl⟩
      rw [← h4] at c4
      rw [← h5] at c5
      rw [← h6] at c6
      have p4 : 0 ≤ i4 := by omega
      have p6 : 0 ≤ i6 := by omega
      have q4 : i4 ≤ 2000000 := by omega
      have q6 : i6 ≤ 2000000 := by omega
      by_cases t1 : n4 = ts.length
      · rw [if_pos t1] at hFe
        have e1 : (i4 == (ts.length : Int)) = true := by simp; omega
        have HFe := hide hFe
        clear t1 hFe h4 h5 h6 l4 l5 l6
        go_wp2
        go_ret
        exact ⟨ret_b (unhide HFe), unhide HB⟩
      · rw [if_neg t1] at hFe
        have e1 : (i4 == (ts.length : Int)) = false := by simp; omega
        by_cases t2 : n5 = 1
        · have e5 : (i5 == 1) = true := by simp; omega
          by_cases t3 : n4 + n6 + 1 = ts.length
          · rw [if_pos ⟨t2, t3⟩] at hFe
            have e2 : (i4 + i6 == (ts.length : Int) - 1) = true := by simp; omega
            have HFe := hide hFe
            clear t1 t2 t3 hFe h4 h5 h6 l4 l5 l6
            go_wp2
            go_ret
            exact ⟨ret_b (unhide HFe), unhide HB⟩
          · rw [if_neg (fun k => t3 k.2)] at hFe
            have e2 : (i4 + i6 == (ts.length : Int) - 1) = false := by simp; omega
            by_cases t4 : n4 + n6 = ts.length
            · rw [if_pos t4] at hFe
              have e3 : (i4 + i6 == (ts.length : Int)) = true := by simp; omega
              have HFe := hide hFe
              clear t1 t2 t3 t4 hFe h4 h5 h6 l4 l5 l6
              go_wp2
              go_ret
              exact ⟨ret_b (unhide HFe), unhide HB⟩
            · rw [if_neg t4] at hFe
              have e3 : (i4 + i6 == (ts.length : Int)) = false := by simp; omega
              have e6 : (i5 == 0) = false := by simp; omega
              have HFe := hide (show F = false by rw [hFe, t2]; simp)
              clear t1 t2 t3 t4 hFe h4 h5 h6 l4 l5 l6
              cases e7 : (s == 1)
              · go_wp2
                go_ret
                exact ⟨ret_b (unhide HFe), unhide HB⟩
              · go_wp2
                go_ret
                exact ⟨ret_b (unhide HFe), unhide HB⟩
        · have e5 : (i5 == 1) = false := by simp; omega
          rw [if_neg (fun k => t2 k.1)] at hFe
          by_cases t4 : n4 + n6 = ts.length
          · rw [if_pos t4] at hFe
            have e3 : (i4 + i6 == (ts.length : Int)) = true := by simp; omega
            have HFe := hide hFe
            clear t1 t2 t4 hFe h4 h5 h6 l4 l5 l6
            go_wp2
            go_ret
            exact ⟨ret_b (unhide HFe), unhide HB⟩
          · rw [if_neg t4] at hFe
            have e3 : (i4 + i6 == (ts.length : Int)) = false := by simp; omega
            cases e7 : (s == 1)
            · have HFe := hide (show F = false by rw [hFe, e7]; simp)
              clear t1 t2 t4 hFe h4 h5 h6 l4 l5 l6
              go_wp2
              go_ret
              exact ⟨ret_b (unhide HFe), unhide HB⟩
            · by_cases t5 : n5 = 0
              · have e6 : (i5 == 0) = true := by simp; omega
                cases e8 : (i6 == 0)
                · have HFe := hide (show F = false by
                    have : ¬ n6 = 0 := by simp at e8; omega
                    rw [hFe]; simp [this])
                  clear t1 t2 t4 t5 hFe h4 h5 h6 l4 l5 l6
                  go_wp2
                  go_ret
                  exact ⟨ret_b (unhide HFe), unhide HB⟩
                · have HFe := hide (show F = true by
                    have : n6 = 0 := by simp at e8; omega
                    rw [hFe, e7]; simp [this, t5])
                  clear t1 t2 t4 t5 hFe h4 h5 h6 l4 l5 l6
                  go_wp2
                  go_ret
                  exact ⟨ret_b (unhide HFe), unhide HB⟩
              · have e6 : (i5 == 0) = false := by simp; omega
                have HFe := hide (show F = false by rw [hFe]; simp [t5])
                clear t1 t2 t4 t5 hFe h4 h5 h6 l4 l5 l6
                go_wp2
                go_ret
                exact ⟨ret_b (unhide HFe), unhide HB⟩
end Go.Proofs.Ytodlnhmlhpadbaa

/- The walk of the program's RunOk. -/
namespace Go.Proofs.Ytodlnhmlhpadbaa
open Go.RowKit
open scoped Classical
set_option linter.unusedVariables false
set_option linter.unusedSimpArgs false
attribute [local go_sem ↓] Go.wp_at_zero Go.wp_at_succ

set_option maxRecDepth 100000 in
set_option maxHeartbeats 6400000 in
theorem implRunOk_any (ve vt : Value) (ba bt : Nat) (r : RunL) (w : World) (hA : w.ownsRow ba 111 2 ve r.plan.edges.length (edgesC r.plan.edges)) (hT : w.ownsRow bt 74 4 vt r.tasks.length (quadsC r.tasks)) (hl : r.plan.edges.length ≤ 2000000) (hm : r.tasks.length ≤ 2000000) :
    Calls Try.prog 79 #[runV r ve vt] w fun e w' => e = .returned (.bool (decide (RunOkA r))) ∧ Below w.heap.size w w' := by
  obtain ⟨f, hf, f0, f4⟩ := fault_ex r.plan
  obtain ⟨PF, hPF⟩ : ∃ P, P = RunOkA r := ⟨_, rfl⟩
  rw [← hPF]
  obtain ⟨id, p, s0, ts⟩ := r
  simp only at hA hT hl hm hf
  have TF : Hid (PF ↔ ((1 ≤ id ∧ id ≤ 9999) ∧ FaultIs p 0 ∧ (ts.length : Int) = p.tasks ∧ (∀ x ∈ ts, 1 ≤ x.a ∧ x.a ≤ 6) ∧ (∀ (k : Nat) (h : k < ts.length), TaskFits p.most ts[k] (needL ts (befL p (k : Int)))) ∧ s0 = stateA ts ∧ s0 ≠ 0)) := hide (by rw [hPF]; rfl)
  obtain ⟨ae, ce, rfl, -⟩ := ownsRow_shape hA
  obtain ⟨at_, ct, rfl, sgt⟩ := ownsRow_shape hT
  have FT := fun (W : World) (h : W.ownsRow ba 111 2 (.slice ae p.edges.length ce) p.edges.length (edgesC p.edges)) => hide (implFault_is _ ba p f W h hl hf)
  have ND := fun (hin : ∀ e ∈ p.edges, edgeIn ts.length e) (W : World) (h1 : W.ownsRow ba 111 2 (.slice ae p.edges.length ce) p.edges.length (edgesC p.edges)) (h2 : W.ownsRow bt 74 4 (.slice at_ ts.length ct) ts.length (quadsC ts)) => hide (implNeeds_any _ _ ba bt ts.length ⟨id, p, s0, ts⟩ W h1 h2 hl rfl hm hin)
  have FI2 := fun (hin : ∀ x ∈ ts, 1 ≤ x.a ∧ x.a ≤ 6) (W : World) (h2 : W.ownsRow bt 74 4 (.slice at_ ts.length ct) ts.length (quadsC ts)) => hide (implFits_any s0 _ bt ts W h2 hm hin)
  have FN : Hid (f = 0 → manyOk p ∧ edgesIn p ∧ onceOk p ∧ noCycle p) := hide (fun e => by rw [e] at hf; exact fault_none hf)
  have FO : Hid (f ≠ 0 → ¬ FaultIs p 0) := hide (fun e h => e (fault_one hf h))
  have FI : Hid (f = 0 → FaultIs p 0) := hide (fun e => by rw [e] at hf; exact hf)
  have NT : Hid (∀ (n : Nat), p.tasks = (n : Int) → (∀ e ∈ p.edges, edgeIn n e) → p.edges.Nodup → ∀ t : Nat, needT ts p.edges t = needL ts (befL p (t : Int))) := hide (fun n hn hin hnd t => needT_risen hn hin hnd t)
  have HA := hide (And.intro hA hT)
  clear hA hT hf hPF
  obtain ⟨p1, p2, p3, p4, es⟩ := p
  unfold planV at FT
  unfold runV runC at ND ⊢
  simp only at FT ND TF hl HA ⊢
  have C0 := fun lo hi W => hide (wi_any id lo hi W)
  by_cases hid : 1 ≤ id ∧ id ≤ 9999
  · have q0 : decide (1 ≤ id ∧ id ≤ 9999) = true := decide_eq_true hid
    have C1 := fun W => C0 1 9999 W
    rw [q0] at C1
    clear C0 q0
    have HI := hide hid
    clear hid
    go_enter Try.func79, Try.ntmps79
    go_wp2_with fail
    obtain ⟨W, hW⟩ : ∃ W, W = w.alloc (Obj.cells #[.int .i64 id, .int .i64 p1, .int .i64 p2, .int .i64 p3, .int .i64 p4, .slice ae es.length ce, .int .i64 s0, .slice at_ ts.length ct] 65) := ⟨_, rfl⟩
    have HX := hide (show W.heap[w.heap.size]? = some (.cells #[.int .i64 id, .int .i64 p1, .int .i64 p2, .int .i64 p3, .int .i64 p4, .slice ae es.length ce, .int .i64 s0, .slice at_ ts.length ct] 65 (0, 0)) by rw [hW]; exact heap_alloc_new _ _)
    have hb0 : Below w.heap.size w W := by rw [hW]; exact (Below.refl _ _).alloc (Nat.le_refl _) _
    rw [← hW]
    clear hW
    refine (unhide (C1 _)).mono ?_
    rintro e w0 ⟨rfl, hw0⟩
    rw [hw0]
    clear hw0 w0 C1
    have y1a := cellIn (i := 1) (unhide HX) rfl
    have y2a := cellIn (i := 2) (unhide HX) rfl
    have y3a := cellIn (i := 3) (unhide HX) rfl
    have y4a := cellIn (i := 4) (unhide HX) rfl
    have y5a := cellIn (i := 5) (unhide HX) rfl
    go_wp2_with fail
    refine (unhide (FT _ (ownsRow_below (unhide HA).1 hb0))).mono ?_
    rintro e w1 ⟨rfl, hb1⟩
    have t1 := hb0.trans (hb1.mono hb0.size)
    clear FT y1a y2a y3a y4a y5a
    have y0b := cellIn (i := 0) (boxR (unhide HX) hb1) rfl
    have y1b := cellIn (i := 1) (boxR (unhide HX) hb1) rfl
    have y2b := cellIn (i := 2) (boxR (unhide HX) hb1) rfl
    have y3b := cellIn (i := 3) (boxR (unhide HX) hb1) rfl
    have y4b := cellIn (i := 4) (boxR (unhide HX) hb1) rfl
    have y5b := cellIn (i := 5) (boxR (unhide HX) hb1) rfl
    have y6b := cellIn (i := 6) (boxR (unhide HX) hb1) rfl
    have y7b := cellIn (i := 7) (boxR (unhide HX) hb1) rfl
    by_cases hf0 : f = 0
    · have FN1 := hide (unhide FN hf0)
      have FI1 := hide (unhide FI hf0)
      subst hf0
      by_cases hlen : (ts.length : Int) = p4
      · have el : ((ts.length : Int) != p4) = false := by rw [bne_eq_false_iff_eq]; exact hlen
        have HLEN := hide hlen
        clear hlen
        obtain ⟨fm, fi, fo, -⟩ := unhide FN1
        have hin : ∀ e ∈ es, edgeIn ts.length e := fun e he => by have := fi e he; rwa [show (⟨p1, p2, p3, p4, es⟩ : PlanL).tasks = (ts.length : Int) from (unhide HLEN).symm] at this
        have HNT := hide (fun t => unhide NT ts.length (unhide HLEN).symm hin fo t)
        have ND1 := ND hin
        have hmo : 1 ≤ p2 ∧ p2 ≤ 5 := ⟨fm.2.2.2.2.2.1, fm.2.2.2.2.2.2.1⟩
        have t12 : ts.length ≤ 12 := by have h1 := fm.2.1; have h2 := unhide HLEN; dsimp only at h1; omega
        clear fm fi fo hin ND NT FN FO FI
        have HMO := hide hmo
        clear hmo
        go_wp2_with fail
        refine (unhide (ND1 _ (ownsRow_below (unhide HA).1 t1) (ownsRow_below (unhide HA).2 t1))).mono ?_
        rintro e w2 ⟨g, rfl, on, hb2⟩
        have hb12 := hb1.trans (hb2.mono hb1.size)
        have t2 := hb0.trans (hb12.mono hb0.size)
        clear ND1 hb1 hb2 t1 y0b y1b y2b y3b y4b y5b y6b y7b el
        have HON := hide on
        clear on
        go_wp2
        go_loopw [27] (fun v wr => ∃ k : Nat, k ≤ ts.length ∧ v = .int .i64 k ∧ Below w2.heap.size w2 wr ∧ Hid (∀ (j : Nat) (h : j < ts.length), j < k → (1 ≤ ts[j].a ∧ ts[j].a ≤ 6) ∧ TaskFits p2 ts[j] (needL ts (befL ⟨p1, p2, p3, p4, es⟩ (j : Int)))))
          (fun v _ => ts.length - (intOf v).toNat)
        case atStart => exact ⟨0, Nat.zero_le _, rfl, Below.refl _ _, hide (fun j h h2 => by omega)⟩
        case round =>
          obtain ⟨k, hk, rfl, hb, hat⟩ := hrel
          have hbX := hb12.trans (hb.mono hb12.size)
          have tX := hb0.trans (hbX.mono hb0.size)
          by_cases hlt : k < ts.length
          · obtain ⟨gt, rfl⟩ := sgt (by omega)
            have hk0 : (0 : Int) ≤ (k : Int) := Int.natCast_nonneg _
            have hk1 : (k : Int) < (ts.length : Int) := by omega
            obtain ⟨c1, c2, c3, c4⟩ := quadsC_cell (ownsRow_below (unhide HA).2 tX) hlt
            have cn := intC_cell (ownsRow_below (unhide HON) hb) (by rw [needsL_len]) (k := k) (by rw [needsL_len]; exact hlt)
            rw [needsL_get, unhide HNT k] at cn
            have x7 := cellIn (i := 7) (boxR (unhide HX) hbX) rfl
            have x2 := cellIn (i := 2) (boxR (unhide HX) hbX) rfl
            have HA1 : ((1 ≤ ts[k].a ∧ ts[k].a ≤ 6) ∧ TaskFits p2 ts[k] (needL ts (befL ⟨p1, p2, p3, p4, es⟩ (k : Int)))) → Hid (∀ (j : Nat) (h : j < ts.length), j < k + 1 → (1 ≤ ts[j].a ∧ ts[j].a ≤ 6) ∧ TaskFits p2 ts[j] (needL ts (befL ⟨p1, p2, p3, p4, es⟩ (j : Int)))) := fun h => hide (fun j hj hj2 => by
              rcases Nat.lt_or_ge j k with h3 | h3
              · exact unhide hat j hj h3
              · have e : j = k := by omega
                subst e; exact h)
            have HA2 : ¬ ((1 ≤ ts[k].a ∧ ts[k].a ≤ 6) ∧ TaskFits p2 ts[k] (needL ts (befL ⟨p1, p2, p3, p4, es⟩ (k : Int)))) → Hid (¬ PF) := fun h => hide (by rw [unhide TF]; exact fun g => h ⟨g.2.2.2.1 _ (List.getElem_mem hlt), g.2.2.2.2.1 k hlt⟩)
            generalize needL ts (befL ⟨p1, p2, p3, p4, es⟩ (k : Int)) = nd at cn HA1 HA2
            have C := fun (R : Bool) (hR : R = true ↔ (1 ≤ ts[k].a ∧ ts[k].a ≤ 6) ∧ TaskFits p2 ts[k] nd) (W : World) => hide (implRight_is ts[k] nd p2 R W (unhide HMO) hR)
            generalize ts[k] = x at c1 c2 c3 c4 HA1 HA2 C
            obtain ⟨xa, xb, xc, xd⟩ := x
            unfold quadV at C
            simp only at c1 c2 c3 c4 C
            have HBX := hide (And.intro hb tX)
            have hsz := hb.size
            clear hat hbX tX hb
            by_cases hq : (1 ≤ xa ∧ xa ≤ 6) ∧ TaskFits p2 ⟨xa, xb, xc, xd⟩ nd
            · have C := C true (by simp [hq])
              have hat2 := HA1 hq
              clear HA1 HA2 hq
              go_upto_region 6 with fail
              go_region_held3 (fun w' => w'.cell? ⟨w.heap.size, 7, none⟩ = some (.slice (some ⟨gt, 0, none⟩) ts.length ct) ∧ w'.cell? ⟨w.heap.size, 2, none⟩ = some (.int .i64 p2) ∧ w'.cell? ⟨gt, k * 4, none⟩ = some (.int .i64 xa) ∧ w'.cell? ⟨gt, k * 4 + 1, none⟩ = some (.int .i64 xb) ∧ w'.cell? ⟨gt, k * 4 + 2, none⟩ = some (.int .i64 xc) ∧ w'.cell? ⟨gt, k * 4 + 3, none⟩ = some (.int .i64 xd))
                (first | go_keep | exact ⟨cell_later hb3 (by assumption), cell_later hb3 (by assumption), cell_later hb3 (by assumption), cell_later hb3 (by assumption), cell_later hb3 (by assumption), cell_later hb3 (by assumption)⟩)
                ((go_at_call 95; refine (unhide (C _)).mono ?_; rintro e w3 ⟨rfl, hb3⟩))
              all_goals
                have hbn := hide (((unhide HBX).1.drew).trans (hb3.mono hsz))
                clear C hb3 x7 x2 c1 c2 c3 c4 cn
                go_wp2
                go_roundw
                case rel => exact ⟨k + 1, by omega, by go_num, unhide hbn, hat2⟩
                case measure => simp [intOf]; omega
            · have C := C false (by simp [hq])
              have HE := HA2 hq
              clear HA1 HA2 hq
              go_upto_region 6 with fail
              go_region_held3 (fun w' => w'.cell? ⟨w.heap.size, 7, none⟩ = some (.slice (some ⟨gt, 0, none⟩) ts.length ct) ∧ w'.cell? ⟨w.heap.size, 2, none⟩ = some (.int .i64 p2) ∧ w'.cell? ⟨gt, k * 4, none⟩ = some (.int .i64 xa) ∧ w'.cell? ⟨gt, k * 4 + 1, none⟩ = some (.int .i64 xb) ∧ w'.cell? ⟨gt, k * 4 + 2, none⟩ = some (.int .i64 xc) ∧ w'.cell? ⟨gt, k * 4 + 3, none⟩ = some (.int .i64 xd))
                (first | go_keep | exact ⟨cell_later hb3 (by assumption), cell_later hb3 (by assumption), cell_later hb3 (by assumption), cell_later hb3 (by assumption), cell_later hb3 (by assumption), cell_later hb3 (by assumption)⟩)
                ((go_at_call 95; refine (unhide (C _)).mono ?_; rintro e w3 ⟨rfl, hb3⟩))
              all_goals
                have hbn := hide (((unhide HBX).2.drew).trans (hb3.mono (unhide HBX).2.size))
                clear C hb3 x7 x2 c1 c2 c3 c4 cn
                go_wp2
                go_ret
                exact ⟨by rw [decide_eq_false (unhide HE)]; rfl, unhide hbn⟩
          · have x7 := cellIn (i := 7) (boxR (unhide HX) hbX) rfl
            have x6 := cellIn (i := 6) (boxR (unhide HX) hbX) rfl
            have hall : ∀ x ∈ ts, 1 ≤ x.a ∧ x.a ≤ 6 := fun x hx => by
              obtain ⟨j, hj, rfl⟩ := List.mem_iff_getElem.1 hx
              exact (unhide hat j hj (by omega)).1
            have HE : Hid (PF ↔ fitsS s0 ts = true) := hide (by
              rw [unhide TF, fitsS_iff hall]
              exact ⟨fun h => h.2.2.2.2.2, fun h => ⟨unhide HI, unhide FI1, unhide HLEN, hall, fun j hj => (unhide hat j hj (by omega)).2, h⟩⟩)
            have FF := hide (unhide (FI2 hall _ (ownsRow_below (unhide HA).2 tX)))
            have HTX := hide tX
            clear FI2 hall hat hbX tX hb TF
            go_wp2_with fail
            refine (unhide FF).mono ?_
            rintro e w3 ⟨rfl, hb3⟩
            have hbn := hide ((unhide HTX).trans (hb3.mono (unhide HTX).size))
            clear FF hb3 x7 x6
            generalize hbb : fitsS s0 ts = bb at HE
            go_wp2
            go_ret
            refine ⟨?_, unhide hbn⟩
            have := unhide HE
            first
              | (rw [hbb]; cases bb <;> simp_all)
              | (cases bb <;> simp_all)
      · have el : ((ts.length : Int) != p4) = true := by simp; exact hlen
        have HE : Hid (¬ PF) := hide (by rw [unhide TF]; exact fun g => hlen g.2.2.1)
        clear hlen
        go_wp2
        go_ret
        exact ⟨by rw [decide_eq_false (unhide HE)]; rfl, t1⟩
    · have ef : (f != 0) = true := by simp; exact hf0
      have HE : Hid (¬ PF) := hide (by rw [unhide TF]; exact fun g => unhide FO hf0 g.2.1)
      clear hf0
      go_wp2
      go_ret
      exact ⟨by rw [decide_eq_false (unhide HE)]; rfl, t1⟩
  · have q0 : decide (1 ≤ id ∧ id ≤ 9999) = false := decide_eq_false hid
    have C1 := fun W => C0 1 9999 W
    rw [q0] at C1
    have HE : Hid (¬ PF) := hide (by rw [unhide TF]; exact fun g => hid g.1)
    clear C0 q0 hid FT ND FI2
    go_enter Try.func79, Try.ntmps79
    go_wp2_with fail
    obtain ⟨W, hW⟩ : ∃ W, W = w.alloc (Obj.cells #[.int .i64 id, .int .i64 p1, .int .i64 p2, .int .i64 p3, .int .i64 p4, .slice ae es.length ce, .int .i64 s0, .slice at_ ts.length ct] 65) := ⟨_, rfl⟩
    have hb0 : Below w.heap.size w W := by rw [hW]; exact (Below.refl _ _).alloc (Nat.le_refl _) _
    rw [← hW]
    clear hW
    refine (unhide (C1 _)).mono ?_
    rintro e w0 ⟨rfl, hw0⟩
    rw [hw0]
    clear hw0 w0 C1
    go_wp2
    go_ret
    exact ⟨by rw [decide_eq_false (unhide HE)]; rfl, hb0⟩
end Go.Proofs.Ytodlnhmlhpadbaa
