/- The walk of what holds a run's state against the states of its tasks. -/
import Derived.Test.YtnpfboligmnhpaaImplTk
import Derived.Test.YtnpfboligmnhpaaSpecRunLeft
namespace Go.Proofs.Ytnpfboligmnhpaa
open Go.RowKit
open scoped Classical
set_option linter.unusedVariables false
set_option linter.unusedSimpArgs false
attribute [local go_sem ↓] Go.wp_at_zero Go.wp_at_succ

/-- The counts as the cells of an array. -/
def cntA (ts : List QuadL) : Array Value := (intC (cntC ts)).toArray
theorem cntA_get (ts : List QuadL) (s : Nat) (h : s < 7) : (cntA ts)[s]? = some (.int .i64 (cntS ts s : Int)) := by
  unfold cntA
  rw [List.getElem?_toArray, intC_get _ _ (by rw [cntC_len]; exact h), cntC_at]
theorem cntA_put (ts : List QuadL) (x : QuadL) (s : Nat) (hs : s < 7) (hx : x.a = (s : Int)) : (cntA ts).setIfInBounds s (.int .i64 ((cntS ts s : Int) + 1)) = cntA (ts ++ [x]) := by
  unfold cntA
  rw [List.setIfInBounds_toArray, intC_set, cntC_set ts x s hs hx]
theorem zeroCnt (w : World) : (zeroValue 103).run Try.prog w = .ok (.agg (cntA [])) w := by kernel_rfl
def fitsS (s : Int) (ts : List QuadL) : Bool :=
  if cntS ts 4 = ts.length then s == 2
  else if cntS ts 5 = 1 ∧ cntS ts 4 + cntS ts 6 + 1 = ts.length then s == 3
  else if cntS ts 4 + cntS ts 6 = ts.length then s == 4
  else (s == 1 && cntS ts 5 == 0 && cntS ts 6 == 0)
theorem cnt_sum {ts : List QuadL} (hin : ∀ x ∈ ts, 1 ≤ x.a ∧ x.a ≤ 6) : cntS ts 1 + cntS ts 2 + cntS ts 3 + cntS ts 4 + cntS ts 5 + cntS ts 6 = ts.length := by
  induction ts with
  | nil => rfl
  | cons x r ih =>
    have h := hin x (List.mem_cons_self ..)
    have hr := ih (fun y hy => hin y (List.mem_cons_of_mem _ hy))
    have e : ∀ s : Nat, cntS (x :: r) s = cntS r s + (if x.a = (s : Int) then 1 else 0) := fun s => by
      unfold cntS
      rw [List.countP_cons]
      simp
    rw [e 1, e 2, e 3, e 4, e 5, e 6, List.length_cons]
    have hc : x.a = 1 ∨ x.a = 2 ∨ x.a = 3 ∨ x.a = 4 ∨ x.a = 5 ∨ x.a = 6 := by omega
    rcases hc with k | k | k | k | k | k <;> rw [k] <;> simp <;> omega
theorem fitsS_iff {s : Int} {ts : List QuadL} (hin : ∀ x ∈ ts, 1 ≤ x.a ∧ x.a ≤ 6) : fitsS s ts = true ↔ s = stateA ts ∧ s ≠ 0 := by
  have hs := cnt_sum hin
  unfold fitsS stateA
  by_cases h1 : cntS ts 4 = ts.length
  · rw [if_pos h1, if_pos h1]; simp; omega
  · rw [if_neg h1, if_neg h1]
    by_cases h2 : cntS ts 5 = 1 ∧ cntS ts 4 + cntS ts 6 + 1 = ts.length
    · rw [if_pos h2, if_pos (show (cntS ts 5 = 1 ∧ cntS ts 1 + cntS ts 2 + cntS ts 3 = 0) by omega)]; simp; omega
    · rw [if_neg h2, if_neg (show ¬ (cntS ts 5 = 1 ∧ cntS ts 1 + cntS ts 2 + cntS ts 3 = 0) by omega)]
      by_cases h3 : cntS ts 4 + cntS ts 6 = ts.length
      · rw [if_pos h3, if_pos (show (cntS ts 5 = 0 ∧ 0 < cntS ts 6 ∧ cntS ts 1 + cntS ts 2 + cntS ts 3 = 0) by omega)]; simp; omega
      · rw [if_neg h3, if_neg (show ¬ (cntS ts 5 = 0 ∧ 0 < cntS ts 6 ∧ cntS ts 1 + cntS ts 2 + cntS ts 3 = 0) by omega)]
        by_cases h4 : cntS ts 5 = 0 ∧ cntS ts 6 = 0
        · rw [if_pos h4]; simp [h4]; omega
        · rw [if_neg h4]; simp; omega
theorem quadBox {w w' : World} {x : QuadL} (hb : Below (w.alloc (Obj.cells #[.int .i64 x.a, .int .i64 x.b, .int .i64 x.c, .int .i64 x.d] 40)).heap.size (w.alloc (Obj.cells #[.int .i64 x.a, .int .i64 x.b, .int .i64 x.c, .int .i64 x.d] 40)) w') : w'.cell? ⟨w.heap.size, 0, none⟩ = some (.int .i64 x.a) :=
  cellIn (i := 0) (heapLater hb (heap_alloc_new w _)) rfl
set_option maxRecDepth 100000 in
set_option maxHeartbeats 3200000 in
theorem implFits_any (s : Int) (vt : Value) (bt : Nat) (ts : List QuadL) (w : World) (hT : w.ownsRow bt 40 4 vt ts.length (quadsC ts)) (hm : ts.length ≤ 2000000) (hin : ∀ x ∈ ts, 1 ≤ x.a ∧ x.a ≤ 6) :
    Calls Try.prog 47 #[.int .i64 s, vt] w fun e w' => e = .returned (.bool (fitsS s ts)) ∧ Below w.heap.size w w' := by
  obtain ⟨at_, ct, rfl, sgt⟩ := ownsRow_shape hT
  have HT := hide hT
  have HIN := hide hin
  clear hT hin
  obtain ⟨F, hF⟩ : ∃ F, F = fitsS s ts := ⟨_, rfl⟩
  rw [← hF]
  have HF := hide hF
  clear hF
  have hz := zeroCnt
  go_enter Try.func47, Try.ntmps47
  go_wp2
  clear hz
  obtain ⟨W, hW⟩ : ∃ W, W = w.alloc (Obj.cells (cntA []) 103) := ⟨_, rfl⟩
  have hR0 : W.heap[w.heap.size]? = some (.cells (cntA (ts.take 0)) 103 (0, 0)) := by rw [hW, List.take_zero]; exact heap_alloc_new _ _
  have hW0 : Below w.heap.size w W := by rw [hW]; exact (Below.refl _ _).alloc (Nat.le_refl _) _
  rw [← hW]
  clear hW
  go_loopw [11] (fun i wr => ∃ k : Nat, k ≤ ts.length ∧ i = .int .i64 k ∧ wr.heap[w.heap.size]? = some (.cells (cntA (ts.take k)) 103 (0, 0)) ∧ Below w.heap.size w wr)
    (fun i _ => ts.length - (intOf i).toNat)
  case atStart => exact ⟨0, Nat.zero_le _, rfl, hR0, hW0⟩
  case round =>
    clear hR0 hW0
    obtain ⟨k, hk, rfl, hR, hb⟩ := hrel
    by_cases hlt : k < ts.length
    · obtain ⟨gt, rfl⟩ := sgt (by omega)
      have hk0 : (0 : Int) ≤ (k : Int) := Int.natCast_nonneg _
      have hk1 : (k : Int) < (ts.length : Int) := by omega
      obtain ⟨c1, c2, c3, c4⟩ := quadsC_cell (ownsRow_below (unhide HT) hb) hlt
      have HS := hide (List.take_succ_eq_append_getElem hlt)
      have hI := unhide HIN _ (List.getElem_mem hlt)
      generalize ts[k] = x at c1 c2 c3 c4 HS hI
      obtain ⟨xa, xb, xc, xd⟩ := x
      simp only at c1 c2 c3 c4 hI
      obtain ⟨sa, rfl⟩ : ∃ m : Nat, xa = (m : Int) := ⟨xa.toNat, by omega⟩
      have hs0 : (0 : Int) ≤ (sa : Int) := Int.natCast_nonneg _
      have hs7 : (sa : Int) < 7 := by omega
      have hs7n : sa < 7 := by omega
      have hbs := hb.size
      have hlt0 := (Array.getElem?_eq_some_iff.1 hR).1
      obtain ⟨V, hV⟩ : ∃ V, V = wr.alloc (Obj.cells #[.int .i64 (sa : Int), .int .i64 xb, .int .i64 xc, .int .i64 xd] 40) := ⟨_, rfl⟩
      have hbV : Below wr.heap.size wr V := by rw [hV]; exact (Below.refl _ _).alloc (Nat.le_refl _) _
      have z0 : V.cell? ⟨wr.heap.size, 0, none⟩ = some (.int .i64 (sa : Int)) := cellIn (i := 0) (by rw [hV]; exact heap_alloc_new wr _) rfl
      have hRV := heapLater hbV hR
      have cV := cellIn hRV (cntA_get (ts.take k) sa hs7n)
      have hle := cntS_le (ts.take k) sa
      rw [List.length_take] at hle
      obtain ⟨m, hmm⟩ : ∃ m : Nat, m = cntS (ts.take k) sa := ⟨_, rfl⟩
      have fz := softIn (i := sa) hRV
      have hg := setOne V w.heap.size sa (.int .i64 ((m : Int) + 1))
      have HB := hide (show Below w.heap.size w (V.setCell ⟨w.heap.size, sa, none⟩ (.int .i64 ((m : Int) + 1))) from (hb.trans (hbV.mono hbs)).grown hg (by have := hbV.size; omega) (fun j hj => by cases hj; exact Nat.le_refl _))
      have HP := hide (show (V.setCell ⟨w.heap.size, sa, none⟩ (.int .i64 ((m : Int) + 1))).heap[w.heap.size]? = some (.cells (cntA (ts.take (k + 1))) 103 (0, 0)) by
        rw [heap_setCell_same V w.heap.size sa _ _ _ hRV, hmm, unhide HS, cntA_put (ts.take k) ⟨(sa : Int), xb, xc, xd⟩ sa hs7n rfl])
      rw [← hmm] at cV
      have hm2 : m ≤ 2000000 := by omega
      have HV := hide hV
      clear hV hmm hle hRV hg hR hb hbs hlt0 hI HS
      go_upto_region 5 with fail
      rw [← unhide HV]
      clear HV c1 c2 c3 c4 hbV
      go_wp2
      go_roundw
      case rel => exact ⟨k + 1, by omega, by go_num, unhide HP, unhide HB⟩
      case measure => simp [intOf]; omega
    · have hke : ts.take k = ts := List.take_of_length_le (by omega)
      rw [hke] at hR
      have c4 := cellIn hR (cntA_get ts 4 (by omega))
      have c5 := cellIn hR (cntA_get ts 5 (by omega))
      have c6 := cellIn hR (cntA_get ts 6 (by omega))
      have l4 := cntS_le ts 4
      have l5 := cntS_le ts 5
      have l6 := cntS_le ts 6
      have hFe := unhide HF
      unfold fitsS at hFe
      have HB := hide hb
      clear hR hb hke HF HIN HT sgt
      generalize cntS ts 4 = n4 at c4 l4 hFe
      generalize cntS ts 5 = n5 at c5 l5 hFe
      generalize cntS ts 6 = n6 at c6 l6 hFe
      obtain ⟨i4, h4⟩ : ∃ i : Int, i = (n4 : Int) := ⟨_, rfl⟩
      obtain ⟨i5, h5⟩ : ∃ i : Int, i = (n5 : Int) := ⟨_, rfl⟩
      obtain ⟨i6, h6⟩ : ∃ i : Int, i = (n6 : Int) := ⟨_, rfl⟩
      rw [← h4] at c4
      rw [← h5] at c5
      rw [← h6] at c6
      have p4 : 0 ≤ i4 := by omega
      have p6 : 0 ≤ i6 := by omega
      have q4 : i4 ≤ 2000000 := by omega
      have q6 : i6 ≤ 2000000 := by omega
      by_cases t1 : n4 = ts.length
      · rw [if_pos t1] at hFe
        have e1 : (i4 == (ts.length : Int)) = true := by simp; omega
        have HFe := hide hFe
        clear t1 hFe h4 h5 h6 l4 l5 l6
        go_wp2
        go_ret
        exact ⟨ret_b (unhide HFe), unhide HB⟩
      · rw [if_neg t1] at hFe
        have e1 : (i4 == (ts.length : Int)) = false := by simp; omega
        by_cases t2 : n5 = 1
        · have e5 : (i5 == 1) = true := by simp; omega
          by_cases t3 : n4 + n6 + 1 = ts.length
          · rw [if_pos ⟨t2, t3⟩] at hFe
            have e2 : (i4 + i6 == (ts.length : Int) - 1) = true := by simp; omega
            have HFe := hide hFe
            clear t1 t2 t3 hFe h4 h5 h6 l4 l5 l6
            go_wp2
            go_ret
            exact ⟨ret_b (unhide HFe), unhide HB⟩
          · rw [if_neg (fun k => t3 k.2)] at hFe
            have e2 : (i4 + i6 == (ts.length : Int) - 1) = false := by simp; omega
            by_cases t4 : n4 + n6 = ts.length
            · rw [if_pos t4] at hFe
              have e3 : (i4 + i6 == (ts.length : Int)) = true := by simp; omega
              have HFe := hide hFe
              clear t1 t2 t3 t4 hFe h4 h5 h6 l4 l5 l6
              go_wp2
              go_ret
              exact ⟨ret_b (unhide HFe), unhide HB⟩
            · rw [if_neg t4] at hFe
              have e3 : (i4 + i6 == (ts.length : Int)) = false := by simp; omega
              have e6 : (i5 == 0) = false := by simp; omega
              have HFe := hide (show F = false by rw [hFe, t2]; simp)
              clear t1 t2 t3 t4 hFe h4 h5 h6 l4 l5 l6
              cases e7 : (s == 1)
              · go_wp2
                go_ret
                exact ⟨ret_b (unhide HFe), unhide HB⟩
              · go_wp2
                go_ret
                exact ⟨ret_b (unhide HFe), unhide HB⟩
        · have e5 : (i5 == 1) = false := by simp; omega
          rw [if_neg (fun k => t2 k.1)] at hFe
          by_cases t4 : n4 + n6 = ts.length
          · rw [if_pos t4] at hFe
            have e3 : (i4 + i6 == (ts.length : Int)) = true := by simp; omega
            have HFe := hide hFe
            clear t1 t2 t4 hFe h4 h5 h6 l4 l5 l6
            go_wp2
            go_ret
            exact ⟨ret_b (unhide HFe), unhide HB⟩
          · rw [if_neg t4] at hFe
            have e3 : (i4 + i6 == (ts.length : Int)) = false := by simp; omega
            cases e7 : (s == 1)
            · have HFe := hide (show F = false by rw [hFe, e7]; simp)
              clear t1 t2 t4 hFe h4 h5 h6 l4 l5 l6
              go_wp2
              go_ret
              exact ⟨ret_b (unhide HFe), unhide HB⟩
            · by_cases t5 : n5 = 0
              · have e6 : (i5 == 0) = true := by simp; omega
                cases e8 : (i6 == 0)
                · have HFe := hide (show F = false by
                    have : ¬ n6 = 0 := by simp at e8; omega
                    rw [hFe]; simp [this])
                  clear t1 t2 t4 t5 hFe h4 h5 h6 l4 l5 l6
                  go_wp2
                  go_ret
                  exact ⟨ret_b (unhide HFe), unhide HB⟩
                · have HFe := hide (show F = true by
                    have : n6 = 0 := by simp at e8; omega
                    rw [hFe, e7]; simp [this, t5])
                  clear t1 t2 t4 t5 hFe h4 h5 h6 l4 l5 l6
                  go_wp2
                  go_ret
                  exact ⟨ret_b (unhide HFe), unhide HB⟩
              · have e6 : (i5 == 0) = false := by simp; omega
                have HFe := hide (show F = false by rw [hFe]; simp [t5])
                clear t1 t2 t4 t5 hFe h4 h5 h6 l4 l5 l6
                go_wp2
                go_ret
                exact ⟨ret_b (unhide HFe), unhide HB⟩
end Go.Proofs.Ytnpfboligmnhpaa
