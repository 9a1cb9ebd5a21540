/- The walk of the specification's l09Task: whether a task fits those for which it waits. -/
import Derived.Test.YtodlnhmlhpadbaaSpecState
namespace Go.Proofs.Ytodlnhmlhpadbaa
open Go.RowKit
open scoped Classical
set_option linter.unusedVariables false
set_option linter.unusedSimpArgs false
attribute [local go_sem ↓] Go.wp_at_zero Go.wp_at_succ

/-- Of these tasks, how many are not done. -/
def needL (ts : List QuadL) (l : List Int) : Nat := l.countP (fun u => (ts.getD u.toNat quad0).a != 4)
theorem needL_snoc (ts : List QuadL) (l : List Int) (u : Int) : needL ts (l ++ [u]) = needL ts l + (if (ts.getD u.toNat quad0).a = 4 then 0 else 1) := by
  unfold needL
  rw [List.countP_append]
  by_cases h : (ts.getD u.toNat quad0).a = 4
  · simp [h]
  · simp [h]
theorem needL_le (ts : List QuadL) (l : List Int) : needL ts l ≤ l.length := List.countP_le_length
/-- The tasks for which one waits. -/
def befL (p : PlanL) (t : Int) : List Int := risen (fun u => hasE p.edges u t) p.tasks.toNat
theorem risen_in (f : Int → Bool) (n : Nat) : ∀ u ∈ risen f n, 0 ≤ u ∧ u < (n : Int) := by
  induction n with
  | zero => simp [risen_zero]
  | succ n ih =>
    intro u hu
    rw [risen_succ, List.mem_append] at hu
    rcases hu with hu | hu
    · have := ih u hu; omega
    · split at hu
      · simp at hu; omega
      · simp at hu
/-- Whether a task fits. -/
def TaskFits (most : Int) (x : QuadL) (need : Nat) : Prop :=
  x.b = (need : Int) ∧ (0 ≤ x.c ∧ x.c ≤ most) ∧ (x.a = 3 → 1 ≤ x.d ∧ x.d ≤ 1000000000) ∧ (x.a ≠ 3 → x.d = 0) ∧
  ((x.a = 1 ∧ 0 < need) ∨ (x.a = 2 ∧ need = 0 ∧ x.c < most) ∨ ((x.a = 3 ∨ x.a = 4 ∨ x.a = 5) ∧ need = 0 ∧ 1 ≤ x.c) ∨ x.a = 6)
set_option maxRecDepth 100000 in
set_option maxHeartbeats 12800000 in
theorem specTask_any (ve vt : Value) (ba bt n k : Nat) (r : RunL) (w : World) (hA : w.ownsRow ba 111 2 ve r.plan.edges.length (edgesC r.plan.edges)) (hT : w.ownsRow bt 74 4 vt r.tasks.length (quadsC r.tasks)) (hn : r.plan.tasks = (n : Int)) (h12 : n ≤ 12) (hel : r.plan.edges.length ≤ 30) (hnd : r.plan.edges.Nodup) (hlen : r.tasks.length = n) (hk : k < r.tasks.length) :
    Calls Try.prog 76 #[runV r ve vt, .int .i64 (k : Int)] w fun e w' => e = .returned (.bool (decide (TaskFits r.plan.most r.tasks[k] (needL r.tasks (befL r.plan (k : Int)))))) ∧ Below w.heap.size w w' := by
  obtain ⟨id, p, s0, ts⟩ := r
  simp only at hA hT hn hel hnd hlen hk
  obtain ⟨ae, ce, rfl, -⟩ := ownsRow_shape hA
  obtain ⟨at_, ct, rfl, sgt⟩ := ownsRow_shape hT
  obtain ⟨gt, rfl⟩ := sgt (by omega)
  have BF := fun (W : World) (h : W.ownsRow ba 111 2 (.slice ae p.edges.length ce) p.edges.length (edgesC p.edges)) => hide (specBef_any _ ba n p (k : Int) W h hn h12 hel hnd)
  have HL : Hid (befL p (k : Int) = risen (fun t => hasE p.edges t (k : Int)) n) := hide (by unfold befL; rw [hn, Int.toNat_natCast])
  obtain ⟨p1, p2, p3, p4, es⟩ := p
  unfold runV runC
  unfold planV at BF
  simp only at hA hT hn hel hnd BF HL ⊢
  subst hn
  generalize befL ⟨p1, p2, p3, (n : Int), es⟩ (k : Int) = L at HL ⊢
  have hLi : ∀ u ∈ L, 0 ≤ u ∧ u < (n : Int) := by rw [unhide HL]; exact risen_in _ _
  have hLl : L.length ≤ 12 := by rw [unhide HL]; have := risen_len (fun t => hasE es t (k : Int)) n; omega
  rw [← unhide HL] at BF
  obtain ⟨c1, c2, c3, c4⟩ := quadsC_cell (World.ownsRow.alloc hT (Obj.cells #[.int .i64 id, .int .i64 p1, .int .i64 p2, .int .i64 p3, .int .i64 (n : Int), .slice ae es.length ce, .int .i64 s0, .slice (some ⟨gt, 0, none⟩) ts.length ct] 65)) hk
  obtain ⟨x, hx⟩ : ∃ x, x = ts[k] := ⟨_, rfl⟩
  rw [← hx] at c1 c2 c3 c4
  rw [← hx]
  obtain ⟨PF, hPF⟩ : ∃ P, P = TaskFits p2 x (needL ts L) := ⟨_, rfl⟩
  rw [← hPF]
  have HPF := hide hPF
  clear hPF
  have hk0 : (0 : Int) ≤ (k : Int) := Int.natCast_nonneg _
  have hk1 : (k : Int) < (ts.length : Int) := by omega
  have HLi := hide hLi
  have HA := hide (And.intro hA hT)
  have HN := hide hlen
  clear hA hT hlen hLi hnd HL hx sgt
  go_enter Try.func76, Try.ntmps76
  go_wp2_with fail
  obtain ⟨W, hW⟩ : ∃ W, W = (w.alloc (Obj.cells #[.int .i64 id, .int .i64 p1, .int .i64 p2, .int .i64 p3, .int .i64 (n : Int), .slice ae es.length ce, .int .i64 s0, .slice (some ⟨gt, 0, none⟩) ts.length ct] 65)).alloc (Obj.cells #[.int .i64 x.a, .int .i64 x.b, .int .i64 x.c, .int .i64 x.d] 74) := ⟨_, rfl⟩
  have hv : W.heap[w.heap.size]? = some (.cells #[.int .i64 id, .int .i64 p1, .int .i64 p2, .int .i64 p3, .int .i64 (n : Int), .slice ae es.length ce, .int .i64 s0, .slice (some ⟨gt, 0, none⟩) ts.length ct] 65 (0, 0)) := by rw [hW, Below.heap_alloc _ _ _ (by simp)]; exact heap_alloc_new _ _
  have hy : W.heap[w.heap.size + 1]? = some (.cells #[.int .i64 x.a, .int .i64 x.b, .int .i64 x.c, .int .i64 x.d] 74 (0, 0)) := by rw [hW]; exact allocAt _ _ _ (by simp)
  have hb0 : Below w.heap.size w W := by rw [hW]; exact ((Below.refl _ _).alloc (Nat.le_refl _) _).alloc (by simp) _
  rw [← hW]
  clear hW c1 c2 c3 c4
  refine (unhide (BF _ (ownsRow_below (unhide HA).1 hb0))).mono ?_
  rintro e w1 ⟨g, cap, rfl, ol, hb1⟩
  have t1 := hb0.trans (hb1.mono hb0.size)
  have HV := hide (And.intro (heapLater hb1 hv) (heapLater hb1 hy))
  have HO := hide (And.intro ol (ownsRow_below (unhide HA).2 t1))
  clear BF hv hy hb0 hb1 ol HA
  go_wp2
  go_loopw [6, 8] (fun q v wr => ∃ i : Nat, i ≤ L.length ∧ v = .int .i64 i ∧ q = .int .i64 (needL ts (L.take i) : Int) ∧ Below w1.heap.size w1 wr)
    (fun _ v _ => L.length - (intOf v).toNat)
  case atStart => exact ⟨0, Nat.zero_le _, rfl, by simp [needL], Below.refl _ _⟩
  case round =>
    obtain ⟨i, hi, rfl, rfl, hb⟩ := hrel
    have x7 := cellIn (i := 7) (heapLater hb (unhide HV).1) rfl
    have hnl : needL ts (L.take i) ≤ 12 := by have := needL_le ts (L.take i); rw [List.length_take] at this; omega
    by_cases hlt : i < L.length
    · have hi0 : (0 : Int) ≤ (i : Int) := Int.natCast_nonneg _
      have hi1 : (i : Int) < (L.length : Int) := by omega
      have d1 := intC_cell (ownsRow_below (unhide HO).1 hb) rfl hlt
      have HS := hide (List.take_succ_eq_append_getElem hlt)
      obtain ⟨u0, u1⟩ := unhide HLi L[i] (List.getElem_mem hlt)
      have NS := hide (needL_snoc ts (L.take i) L[i])
      generalize L[i] = u at d1 HS u0 u1 NS
      obtain ⟨j, rfl⟩ : ∃ j : Nat, u = (j : Int) := ⟨u.toNat, by omega⟩
      have hj : j < ts.length := by have := unhide HN; omega
      have hj1 : (j : Int) < (ts.length : Int) := by omega
      obtain ⟨y1, -, -, -⟩ := quadsC_cell (ownsRow_below (unhide HO).2 hb) hj
      have GD : Hid ((ts.getD (j : Int).toNat quad0).a = ts[j].a) := hide (by rw [Int.toNat_natCast, List.getD_eq_getElem?_getD, List.getElem?_eq_getElem hj]; rfl)
      rw [unhide GD, ← unhide HS] at NS
      generalize ts[j].a = z at y1 NS
      have hbd : Below w1.heap.size w1 wr.drew := hb.drew
      by_cases hz : z = 4
      · have e1 : (z != 4) = false := by simp [hz]
        have N2 : Hid (needL ts (L.take (i + 1)) = needL ts (L.take i)) := hide (by rw [unhide NS, if_pos hz]; omega)
        have HZ := hide hz
        generalize needL ts (L.take i) = nd at hnl N2
        clear hz NS HS GD
        go_wp2_with fail
        go_region_held3 (fun w' => w'.cell? ⟨w.heap.size, 7, none⟩ = some (.slice (some ⟨gt, 0, none⟩) ts.length ct) ∧ w'.cell? ⟨g, i, none⟩ = some (.int .i64 (j : Int)) ∧ w'.cell? ⟨gt, j * 4, none⟩ = some (.int .i64 z)) (go_keep) (fail)
        clear x7 d1 y1 hb
        go_wp2
        go_roundw
        case rel => exact ⟨i + 1, by omega, by go_num, by rw [unhide N2], hbd⟩
        case measure => simp [intOf]; omega
      · have e1 : (z != 4) = true := by simp [hz]
        have N2 : Hid (needL ts (L.take (i + 1)) = needL ts (L.take i) + 1) := hide (by rw [unhide NS, if_neg hz])
        generalize needL ts (L.take i) = nd at hnl N2
        clear hz NS HS GD
        go_wp2_with fail
        go_region_held3 (fun w' => w'.cell? ⟨w.heap.size, 7, none⟩ = some (.slice (some ⟨gt, 0, none⟩) ts.length ct) ∧ w'.cell? ⟨g, i, none⟩ = some (.int .i64 (j : Int)) ∧ w'.cell? ⟨gt, j * 4, none⟩ = some (.int .i64 z)) (go_keep) (fail)
        clear x7 d1 y1 hb
        go_wp2
        go_roundw
        case rel => exact ⟨i + 1, by omega, by go_num, by rw [unhide N2]; go_num, hbd⟩
        case measure => simp [intOf]; omega
    · have hte : L.take i = L := List.take_of_length_le (by omega)
      rw [hte] at hnl ⊢
      have hBf : Below w.heap.size w wr := t1.trans (hb.mono t1.size)
      have z2 := cellIn (i := 2) (heapLater hb (unhide HV).1) rfl
      have y0 := cellIn (i := 0) (heapLater hb (unhide HV).2) rfl
      have y1 := cellIn (i := 1) (heapLater hb (unhide HV).2) rfl
      have y2 := cellIn (i := 2) (heapLater hb (unhide HV).2) rfl
      have y3 := cellIn (i := 3) (heapLater hb (unhide HV).2) rfl
      obtain ⟨xa, xb, xc, xd⟩ := x
      simp only at y0 y1 y2 y3
      have TF : Hid (PF ↔ (xb = (needL ts L : Int) ∧ (0 ≤ xc ∧ xc ≤ p2) ∧ (xa = 3 → 1 ≤ xd ∧ xd ≤ 1000000000) ∧ (xa ≠ 3 → xd = 0) ∧ ((xa = 1 ∧ 0 < needL ts L) ∨ (xa = 2 ∧ needL ts L = 0 ∧ xc < p2) ∨ ((xa = 3 ∨ xa = 4 ∨ xa = 5) ∧ needL ts L = 0 ∧ 1 ≤ xc) ∨ xa = 6))) := hide (by rw [unhide HPF]; exact Iff.rfl)
      clear HPF
      generalize needL ts L = nd at hnl TF ⊢
      clear hb x7
      by_cases qn : nd = 0
      · subst qn
        skip
        by_cases q1 : xb = 0
        · by_cases qb : 0 ≤ xc ∧ xc ≤ p2
          · by_cases q3 : xa = 3
            · subst q3
              by_cases qu : 1 ≤ xd ∧ xd ≤ 1000000000
              · by_cases qt : 1 ≤ xc
                · have HI : Hid (PF) := hide (by rw [unhide TF]; omega)
                  have e1 : (xb != 0) = false := by rw [bne_eq_false_iff_eq]; omega
                  have HB := hide qb
                  have HU := hide qu
                  have et : decide ((1 : Int) ≤ xc) = true := decide_eq_true qt
                  clear TF q1 qb qu
                  go_wp2_with fail
                  refine (in_yes xc 0 p2 _ (unhide HB).1 (unhide HB).2).mono ?_
                  rintro e w_ ⟨rfl, rfl⟩
                  go_wp2_with fail
                  refine (in_yes xd 1 1000000000 _ (unhide HU).1 (unhide HU).2).mono ?_
                  rintro e w_ ⟨rfl, rfl⟩
                  go_wp2
                  go_ret
                  exact ⟨by rw [decide_eq_true (unhide HI)]; first | rfl | (simp; done) | (simp; omega), hBf⟩
                · have HI : Hid (¬ PF) := hide (by rw [unhide TF]; omega)
                  have e1 : (xb != 0) = false := by rw [bne_eq_false_iff_eq]; omega
                  have HB := hide qb
                  have HU := hide qu
                  have et : decide ((1 : Int) ≤ xc) = false := decide_eq_false qt
                  clear TF q1 qb qu qt
                  go_wp2_with fail
                  refine (in_yes xc 0 p2 _ (unhide HB).1 (unhide HB).2).mono ?_
                  rintro e w_ ⟨rfl, rfl⟩
                  go_wp2_with fail
                  refine (in_yes xd 1 1000000000 _ (unhide HU).1 (unhide HU).2).mono ?_
                  rintro e w_ ⟨rfl, rfl⟩
                  go_wp2
                  go_ret
                  exact ⟨by rw [decide_eq_false (unhide HI)]; first | rfl | (simp; done) | (simp; omega), hBf⟩
              · have HI : Hid (¬ PF) := hide (by rw [unhide TF]; omega)
                have e1 : (xb != 0) = false := by rw [bne_eq_false_iff_eq]; omega
                have HB := hide qb
                have HU := hide qu
                clear TF q1 qb qu
                go_wp2_with fail
                refine (in_yes xc 0 p2 _ (unhide HB).1 (unhide HB).2).mono ?_
                rintro e w_ ⟨rfl, rfl⟩
                go_wp2_with fail
                refine (in_no xd 1 1000000000 _ (unhide HU)).mono ?_
                rintro e w_ ⟨rfl, rfl⟩
                go_wp2
                go_ret
                exact ⟨by rw [decide_eq_false (unhide HI)]; first | rfl | (simp; done) | (simp; omega), hBf⟩
            · by_cases qd : xd = 0
              · subst qd
                by_cases s1 : xa = 1
                · subst s1
                  clear q3
                  have HI : Hid (¬ PF) := hide (by rw [unhide TF]; omega)
                  have e1 : (xb != 0) = false := by rw [bne_eq_false_iff_eq]; omega
                  have HB := hide qb
                  clear TF q1 qb
                  go_wp2_with fail
                  refine (in_yes xc 0 p2 _ (unhide HB).1 (unhide HB).2).mono ?_
                  rintro e w_ ⟨rfl, rfl⟩
                  go_wp2
                  go_ret
                  exact ⟨by rw [decide_eq_false (unhide HI)]; first | rfl | (simp; done) | (simp; omega), hBf⟩
                · by_cases s2 : xa = 2
                  · subst s2
                    clear q3 s1
                    by_cases qt : xc < p2
                    · have HI : Hid (PF) := hide (by rw [unhide TF]; omega)
                      have e1 : (xb != 0) = false := by rw [bne_eq_false_iff_eq]; omega
                      have HB := hide qb
                      have et : decide (xc < p2) = true := decide_eq_true qt
                      clear TF q1 qb
                      go_wp2_with fail
                      refine (in_yes xc 0 p2 _ (unhide HB).1 (unhide HB).2).mono ?_
                      rintro e w_ ⟨rfl, rfl⟩
                      go_wp2
                      go_ret
                      exact ⟨by rw [decide_eq_true (unhide HI)]; first | rfl | (simp; done) | (simp; omega), hBf⟩
                    · have HI : Hid (¬ PF) := hide (by rw [unhide TF]; omega)
                      have e1 : (xb != 0) = false := by rw [bne_eq_false_iff_eq]; omega
                      have HB := hide qb
                      have et : decide (xc < p2) = false := decide_eq_false qt
                      clear TF q1 qb qt
                      go_wp2_with fail
                      refine (in_yes xc 0 p2 _ (unhide HB).1 (unhide HB).2).mono ?_
                      rintro e w_ ⟨rfl, rfl⟩
                      go_wp2
                      go_ret
                      exact ⟨by rw [decide_eq_false (unhide HI)]; first | rfl | (simp; done) | (simp; omega), hBf⟩
                  · by_cases s4 : xa = 4
                    · subst s4
                      clear q3 s1 s2
                      by_cases qt : 1 ≤ xc
                      · have HI : Hid (PF) := hide (by rw [unhide TF]; omega)
                        have e1 : (xb != 0) = false := by rw [bne_eq_false_iff_eq]; omega
                        have HB := hide qb
                        have et : decide ((1 : Int) ≤ xc) = true := decide_eq_true qt
                        clear TF q1 qb
                        go_wp2_with fail
                        refine (in_yes xc 0 p2 _ (unhide HB).1 (unhide HB).2).mono ?_
                        rintro e w_ ⟨rfl, rfl⟩
                        go_wp2
                        go_ret
                        exact ⟨by rw [decide_eq_true (unhide HI)]; first | rfl | (simp; done) | (simp; omega), hBf⟩
                      · have HI : Hid (¬ PF) := hide (by rw [unhide TF]; omega)
                        have e1 : (xb != 0) = false := by rw [bne_eq_false_iff_eq]; omega
                        have HB := hide qb
                        have et : decide ((1 : Int) ≤ xc) = false := decide_eq_false qt
                        clear TF q1 qb qt
                        go_wp2_with fail
                        refine (in_yes xc 0 p2 _ (unhide HB).1 (unhide HB).2).mono ?_
                        rintro e w_ ⟨rfl, rfl⟩
                        go_wp2
                        go_ret
                        exact ⟨by rw [decide_eq_false (unhide HI)]; first | rfl | (simp; done) | (simp; omega), hBf⟩
                    · by_cases s5 : xa = 5
                      · subst s5
                        clear q3 s1 s2 s4
                        by_cases qt : 1 ≤ xc
                        · have HI : Hid (PF) := hide (by rw [unhide TF]; omega)
                          have e1 : (xb != 0) = false := by rw [bne_eq_false_iff_eq]; omega
                          have HB := hide qb
                          have et : decide ((1 : Int) ≤ xc) = true := decide_eq_true qt
                          clear TF q1 qb
                          go_wp2_with fail
                          refine (in_yes xc 0 p2 _ (unhide HB).1 (unhide HB).2).mono ?_
                          rintro e w_ ⟨rfl, rfl⟩
                          go_wp2
                          go_ret
                          exact ⟨by rw [decide_eq_true (unhide HI)]; first | rfl | (simp; done) | (simp; omega), hBf⟩
                        · have HI : Hid (¬ PF) := hide (by rw [unhide TF]; omega)
                          have e1 : (xb != 0) = false := by rw [bne_eq_false_iff_eq]; omega
                          have HB := hide qb
                          have et : decide ((1 : Int) ≤ xc) = false := decide_eq_false qt
                          clear TF q1 qb qt
                          go_wp2_with fail
                          refine (in_yes xc 0 p2 _ (unhide HB).1 (unhide HB).2).mono ?_
                          rintro e w_ ⟨rfl, rfl⟩
                          go_wp2
                          go_ret
                          exact ⟨by rw [decide_eq_false (unhide HI)]; first | rfl | (simp; done) | (simp; omega), hBf⟩
                      · by_cases s6 : xa = 6
                        · subst s6
                          clear q3 s1 s2 s4 s5
                          have HI : Hid (PF) := hide (by rw [unhide TF]; omega)
                          have e1 : (xb != 0) = false := by rw [bne_eq_false_iff_eq]; omega
                          have HB := hide qb
                          clear TF q1 qb
                          go_wp2_with fail
                          refine (in_yes xc 0 p2 _ (unhide HB).1 (unhide HB).2).mono ?_
                          rintro e w_ ⟨rfl, rfl⟩
                          go_wp2
                          go_ret
                          exact ⟨by rw [decide_eq_true (unhide HI)]; first | rfl | (simp; done) | (simp; omega), hBf⟩
                        · have HI : Hid (¬ PF) := hide (by rw [unhide TF]; omega)
                          have e1 : (xb != 0) = false := by rw [bne_eq_false_iff_eq]; omega
                          have HB := hide qb
                          have e3 : (xa == 3) = false := by rw [beq_eq_false_iff_ne]; omega
                          have e3b : (xa != 3) = true := by rw [bne_iff_ne]; omega
                          have k1 : (xa == 1) = false := by rw [beq_eq_false_iff_ne]; omega
                          have k2 : (xa == 2) = false := by rw [beq_eq_false_iff_ne]; omega
                          have k4 : (xa == 4) = false := by rw [beq_eq_false_iff_ne]; omega
                          have k5 : (xa == 5) = false := by rw [beq_eq_false_iff_ne]; omega
                          have k6 : (xa == 6) = false := by rw [beq_eq_false_iff_ne]; omega
                          clear TF q1 qb q3 s1 s2 s4 s5 s6
                          go_wp2_with fail
                          refine (in_yes xc 0 p2 _ (unhide HB).1 (unhide HB).2).mono ?_
                          rintro e w_ ⟨rfl, rfl⟩
                          go_wp2
                          go_ret
                          exact ⟨by rw [decide_eq_false (unhide HI)]; first | rfl | (simp; done) | (simp; omega), hBf⟩
              · have HI : Hid (¬ PF) := hide (by rw [unhide TF]; omega)
                have e1 : (xb != 0) = false := by rw [bne_eq_false_iff_eq]; omega
                have HB := hide qb
                have e3 : (xa == 3) = false := by rw [beq_eq_false_iff_ne]; omega
                have e3b : (xa != 3) = true := by rw [bne_iff_ne]; omega
                have ed : (xd != 0) = true := by rw [bne_iff_ne]; omega
                clear TF q1 qb q3 qd
                go_wp2_with fail
                refine (in_yes xc 0 p2 _ (unhide HB).1 (unhide HB).2).mono ?_
                rintro e w_ ⟨rfl, rfl⟩
                go_wp2
                go_ret
                exact ⟨by rw [decide_eq_false (unhide HI)]; first | rfl | (simp; done) | (simp; omega), hBf⟩
          · have HI : Hid (¬ PF) := hide (by rw [unhide TF]; omega)
            have e1 : (xb != 0) = false := by rw [bne_eq_false_iff_eq]; omega
            have HB := hide qb
            clear TF q1 qb
            go_wp2_with fail
            refine (in_no xc 0 p2 _ (unhide HB)).mono ?_
            rintro e w_ ⟨rfl, rfl⟩
            go_wp2
            go_ret
            exact ⟨by rw [decide_eq_false (unhide HI)]; first | rfl | (simp; done) | (simp; omega), hBf⟩
        · have HI : Hid (¬ PF) := hide (by rw [unhide TF]; omega)
          have e1 : (xb != 0) = true := by rw [bne_iff_ne]; omega
          clear TF q1
          go_wp2
          go_ret
          exact ⟨by rw [decide_eq_false (unhide HI)]; first | rfl | (simp; done) | (simp; omega), hBf⟩
      · skip
        by_cases q1 : xb = (nd : Int)
        · by_cases qb : 0 ≤ xc ∧ xc ≤ p2
          · by_cases q3 : xa = 3
            · subst q3
              by_cases qu : 1 ≤ xd ∧ xd ≤ 1000000000
              · have HI : Hid (¬ PF) := hide (by rw [unhide TF]; omega)
                have n1 : ((nd : Int) == 0) = false := by rw [beq_eq_false_iff_ne]; omega
                have n2 : (0 : Int) < (nd : Int) := by omega
                have e1 : (xb != (nd : Int)) = false := by rw [bne_eq_false_iff_eq]; omega
                have HB := hide qb
                have HU := hide qu
                clear TF q1 qb qu
                go_wp2_with fail
                refine (in_yes xc 0 p2 _ (unhide HB).1 (unhide HB).2).mono ?_
                rintro e w_ ⟨rfl, rfl⟩
                go_wp2_with fail
                refine (in_yes xd 1 1000000000 _ (unhide HU).1 (unhide HU).2).mono ?_
                rintro e w_ ⟨rfl, rfl⟩
                go_wp2
                go_ret
                exact ⟨by rw [decide_eq_false (unhide HI)]; first | rfl | (simp; done) | (simp; omega), hBf⟩
              · have HI : Hid (¬ PF) := hide (by rw [unhide TF]; omega)
                have n1 : ((nd : Int) == 0) = false := by rw [beq_eq_false_iff_ne]; omega
                have n2 : (0 : Int) < (nd : Int) := by omega
                have e1 : (xb != (nd : Int)) = false := by rw [bne_eq_false_iff_eq]; omega
                have HB := hide qb
                have HU := hide qu
                clear TF q1 qb qu
                go_wp2_with fail
                refine (in_yes xc 0 p2 _ (unhide HB).1 (unhide HB).2).mono ?_
                rintro e w_ ⟨rfl, rfl⟩
                go_wp2_with fail
                refine (in_no xd 1 1000000000 _ (unhide HU)).mono ?_
                rintro e w_ ⟨rfl, rfl⟩
                go_wp2
                go_ret
                exact ⟨by rw [decide_eq_false (unhide HI)]; first | rfl | (simp; done) | (simp; omega), hBf⟩
            · by_cases qd : xd = 0
              · subst qd
                by_cases s1 : xa = 1
                · subst s1
                  clear q3
                  have HI : Hid (PF) := hide (by rw [unhide TF]; omega)
                  have n1 : ((nd : Int) == 0) = false := by rw [beq_eq_false_iff_ne]; omega
                  have n2 : (0 : Int) < (nd : Int) := by omega
                  have e1 : (xb != (nd : Int)) = false := by rw [bne_eq_false_iff_eq]; omega
                  have HB := hide qb
                  clear TF q1 qb
                  go_wp2_with fail
                  refine (in_yes xc 0 p2 _ (unhide HB).1 (unhide HB).2).mono ?_
                  rintro e w_ ⟨rfl, rfl⟩
                  go_wp2
                  go_ret
                  exact ⟨by rw [decide_eq_true (unhide HI)]; first | rfl | (simp; done) | (simp; omega), hBf⟩
                · by_cases s2 : xa = 2
                  · subst s2
                    clear q3 s1
                    have HI : Hid (¬ PF) := hide (by rw [unhide TF]; omega)
                    have n1 : ((nd : Int) == 0) = false := by rw [beq_eq_false_iff_ne]; omega
                    have n2 : (0 : Int) < (nd : Int) := by omega
                    have e1 : (xb != (nd : Int)) = false := by rw [bne_eq_false_iff_eq]; omega
                    have HB := hide qb
                    clear TF q1 qb
                    go_wp2_with fail
                    refine (in_yes xc 0 p2 _ (unhide HB).1 (unhide HB).2).mono ?_
                    rintro e w_ ⟨rfl, rfl⟩
                    go_wp2
                    go_ret
                    exact ⟨by rw [decide_eq_false (unhide HI)]; first | rfl | (simp; done) | (simp; omega), hBf⟩
                  · by_cases s4 : xa = 4
                    · subst s4
                      clear q3 s1 s2
                      have HI : Hid (¬ PF) := hide (by rw [unhide TF]; omega)
                      have n1 : ((nd : Int) == 0) = false := by rw [beq_eq_false_iff_ne]; omega
                      have n2 : (0 : Int) < (nd : Int) := by omega
                      have e1 : (xb != (nd : Int)) = false := by rw [bne_eq_false_iff_eq]; omega
                      have HB := hide qb
                      clear TF q1 qb
                      go_wp2_with fail
                      refine (in_yes xc 0 p2 _ (unhide HB).1 (unhide HB).2).mono ?_
                      rintro e w_ ⟨rfl, rfl⟩
                      go_wp2
                      go_ret
                      exact ⟨by rw [decide_eq_false (unhide HI)]; first | rfl | (simp; done) | (simp; omega), hBf⟩
                    · by_cases s5 : xa = 5
                      · subst s5
                        clear q3 s1 s2 s4
                        have HI : Hid (¬ PF) := hide (by rw [unhide TF]; omega)
                        have n1 : ((nd : Int) == 0) = false := by rw [beq_eq_false_iff_ne]; omega
                        have n2 : (0 : Int) < (nd : Int) := by omega
                        have e1 : (xb != (nd : Int)) = false := by rw [bne_eq_false_iff_eq]; omega
                        have HB := hide qb
                        clear TF q1 qb
                        go_wp2_with fail
                        refine (in_yes xc 0 p2 _ (unhide HB).1 (unhide HB).2).mono ?_
                        rintro e w_ ⟨rfl, rfl⟩
                        go_wp2
                        go_ret
                        exact ⟨by rw [decide_eq_false (unhide HI)]; first | rfl | (simp; done) | (simp; omega), hBf⟩
                      · by_cases s6 : xa = 6
                        · subst s6
                          clear q3 s1 s2 s4 s5
                          have HI : Hid (PF) := hide (by rw [unhide TF]; omega)
                          have n1 : ((nd : Int) == 0) = false := by rw [beq_eq_false_iff_ne]; omega
                          have n2 : (0 : Int) < (nd : Int) := by omega
                          have e1 : (xb != (nd : Int)) = false := by rw [bne_eq_false_iff_eq]; omega
                          have HB := hide qb
                          clear TF q1 qb
                          go_wp2_with fail
                          refine (in_yes xc 0 p2 _ (unhide HB).1 (unhide HB).2).mono ?_
                          rintro e w_ ⟨rfl, rfl⟩
                          go_wp2
                          go_ret
                          exact ⟨by rw [decide_eq_true (unhide HI)]; first | rfl | (simp; done) | (simp; omega), hBf⟩
                        · have HI : Hid (¬ PF) := hide (by rw [unhide TF]; omega)
                          have n1 : ((nd : Int) == 0) = false := by rw [beq_eq_false_iff_ne]; omega
                          have n2 : (0 : Int) < (nd : Int) := by omega
                          have e1 : (xb != (nd : Int)) = false := by rw [bne_eq_false_iff_eq]; omega
                          have HB := hide qb
                          have e3 : (xa == 3) = false := by rw [beq_eq_false_iff_ne]; omega
                          have e3b : (xa != 3) = true := by rw [bne_iff_ne]; omega
                          have k1 : (xa == 1) = false := by rw [beq_eq_false_iff_ne]; omega
                          have k2 : (xa == 2) = false := by rw [beq_eq_false_iff_ne]; omega
                          have k4 : (xa == 4) = false := by rw [beq_eq_false_iff_ne]; omega
                          have k5 : (xa == 5) = false := by rw [beq_eq_false_iff_ne]; omega
                          have k6 : (xa == 6) = false := by rw [beq_eq_false_iff_ne]; omega
                          clear TF q1 qb q3 s1 s2 s4 s5 s6
                          go_wp2_with fail
                          refine (in_yes xc 0 p2 _ (unhide HB).1 (unhide HB).2).mono ?_
                          rintro e w_ ⟨rfl, rfl⟩
                          go_wp2
                          go_ret
                          exact ⟨by rw [decide_eq_false (unhide HI)]; first | rfl | (simp; done) | (simp; omega), hBf⟩
              · have HI : Hid (¬ PF) := hide (by rw [unhide TF]; omega)
                have n1 : ((nd : Int) == 0) = false := by rw [beq_eq_false_iff_ne]; omega
                have n2 : (0 : Int) < (nd : Int) := by omega
                have e1 : (xb != (nd : Int)) = false := by rw [bne_eq_false_iff_eq]; omega
                have HB := hide qb
                have e3 : (xa == 3) = false := by rw [beq_eq_false_iff_ne]; omega
                have e3b : (xa != 3) = true := by rw [bne_iff_ne]; omega
                have ed : (xd != 0) = true := by rw [bne_iff_ne]; omega
                clear TF q1 qb q3 qd
                go_wp2_with fail
                refine (in_yes xc 0 p2 _ (unhide HB).1 (unhide HB).2).mono ?_
                rintro e w_ ⟨rfl, rfl⟩
                go_wp2
                go_ret
                exact ⟨by rw [decide_eq_false (unhide HI)]; first | rfl | (simp; done) | (simp; omega), hBf⟩
          · have HI : Hid (¬ PF) := hide (by rw [unhide TF]; omega)
            have n1 : ((nd : Int) == 0) = false := by rw [beq_eq_false_iff_ne]; omega
            have n2 : (0 : Int) < (nd : Int) := by omega
            have e1 : (xb != (nd : Int)) = false := by rw [bne_eq_false_iff_eq]; omega
            have HB := hide qb
            clear TF q1 qb
            go_wp2_with fail
            refine (in_no xc 0 p2 _ (unhide HB)).mono ?_
            rintro e w_ ⟨rfl, rfl⟩
            go_wp2
            go_ret
            exact ⟨by rw [decide_eq_false (unhide HI)]; first | rfl | (simp; done) | (simp; omega), hBf⟩
        · have HI : Hid (¬ PF) := hide (by rw [unhide TF]; omega)
          have n1 : ((nd : Int) == 0) = false := by rw [beq_eq_false_iff_ne]; omega
          have n2 : (0 : Int) < (nd : Int) := by omega
          have e1 : (xb != (nd : Int)) = true := by rw [bne_iff_ne]; omega
          clear TF q1
          go_wp2
          go_ret
          exact ⟨by rw [decide_eq_false (unhide HI)]; first | rfl | (simp; done) | (simp; omega), hBf⟩
end Go.Proofs.Ytodlnhmlhpadbaa
