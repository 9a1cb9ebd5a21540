/- The walk of the specification's l09Leave: all that is not done and did not fail is left. -/
import Derived.Test.YtnpfboligmnhpaaSpecRCopy
import Derived.Deep.DeepCutAuto
import Derived.Deep.RegionWith
namespace Go.Proofs.Ytnpfboligmnhpaa
open Go.RowKit
open scoped Classical
set_option linter.unusedVariables false
set_option linter.unusedSimpArgs false
attribute [local go_sem ↓] Go.wp_at_zero Go.wp_at_succ

/-- A task that is left. -/
def leaveQ (x : QuadL) : QuadL := if x.a ≠ 4 ∧ x.a ≠ 5 then ⟨6, x.b, x.c, 0⟩ else x
def leaveT (ts : List QuadL) (k : Nat) : List QuadL := (ts.take k).map leaveQ ++ ts.drop k
theorem leaveT_zero (ts : List QuadL) : leaveT ts 0 = ts := by simp [leaveT]
theorem leaveT_all (ts : List QuadL) : leaveT ts ts.length = ts.map leaveQ := by simp [leaveT]
theorem leaveT_length (ts : List QuadL) (k : Nat) : (leaveT ts k).length = ts.length := by simp [leaveT]; omega
theorem leaveT_at (ts : List QuadL) (k : Nat) (h : k < ts.length) (h' : k < (leaveT ts k).length) : (leaveT ts k)[k] = ts[k] := by
  simp only [leaveT]
  rw [List.getElem_append_right (by simp; omega)]
  simp [Nat.min_eq_left (Nat.le_of_lt h)]
theorem leaveT_set (ts : List QuadL) (k : Nat) (h : k < ts.length) : (leaveT ts k).set k (leaveQ ts[k]) = leaveT ts (k + 1) := by
  have hl : (List.map leaveQ (ts.take k)).length = k := by simp; omega
  unfold leaveT
  rw [List.set_append_right _ _ (by omega), hl, Nat.sub_self, List.take_succ_eq_append_getElem h, List.map_append, List.append_assoc, List.drop_eq_getElem_cons h]
  rfl
def leaveR (r : RunL) (st : Int) : RunL := ⟨r.id, r.plan, st, r.tasks.map leaveQ⟩
set_option maxRecDepth 100000 in
set_option maxHeartbeats 6400000 in
theorem specLeave_any (ae : Option Addr) (ne ce : Nat) (vt : Value) (bt : Nat) (r : RunL) (st : Int) (w : World) (hT : w.ownsRow bt 40 4 vt r.tasks.length (quadsC r.tasks)) (hm : r.tasks.length ≤ 2000000) :
    Calls Try.prog 58 #[runV r (.slice ae ne ce) vt, .int .i64 st] w fun e w' => e = .returned (runV (leaveR r st) (.slice ae ne ce) vt) ∧ w'.ownsRow bt 40 4 vt r.tasks.length (quadsC (r.tasks.map leaveQ)) ∧ w.grownBy w' vt.ownBlock := by
  obtain ⟨id, p, s0, ts⟩ := r
  obtain ⟨p1, p2, p3, p4, es⟩ := p
  unfold leaveR runV runC
  simp only at hT hm ⊢
  obtain ⟨at_, ct, rfl, sgt⟩ := ownsRow_shape hT
  have LT : Hid (∀ j, (Value.slice at_ ts.length ct).ownBlock = some j → j < w.heap.size) := hide (fun j hj => (hT.lt j hj).2)
  have LA := hide (leaveT_at ts)
  have LS := hide (leaveT_set ts)
  have LL := hide (leaveT_length ts)
  have LE := hide (leaveT_all ts)
  have h0 : w.ownsRow bt 40 4 (.slice at_ ts.length ct) ts.length (quadsC (leaveT ts 0)) := by rw [leaveT_zero]; exact hT
  go_enter Try.func58, Try.ntmps58
  go_wp2
  obtain ⟨W, hW⟩ : ∃ W, W = (w.alloc (Obj.cells #[.int .i64 id, .int .i64 p1, .int .i64 p2, .int .i64 p3, .int .i64 p4, .slice ae ne ce, .int .i64 s0, .slice at_ ts.length ct] 29)).alloc (Obj.cells #[.int .i64 0, .int .i64 0, .int .i64 0, .int .i64 0, .int .i64 0, .slice none 0 0, .int .i64 0, .slice none 0 0] 29) := ⟨_, rfl⟩
  have hx : W.heap[w.heap.size]? = some (.cells #[.int .i64 id, .int .i64 p1, .int .i64 p2, .int .i64 p3, .int .i64 p4, .slice ae ne ce, .int .i64 s0, .slice at_ ts.length ct] 29 (0, 0)) := by rw [hW, Below.heap_alloc _ _ _ (by simp)]; exact heap_alloc_new _ _
  have hr : W.heap[w.heap.size + 1]? = some (.cells #[.int .i64 0, .int .i64 0, .int .i64 0, .int .i64 0, .int .i64 0, .slice none 0 0, .int .i64 0, .slice none 0 0] 29 (0, 0)) := by rw [hW]; exact allocAt _ _ _ (by simp)
  have hb0 : Below w.heap.size w W := by rw [hW]; exact ((Below.refl _ _).alloc (Nat.le_refl _) _).alloc (by simp) _
  rw [← hW]
  clear hW
  have ho := ownsRow_below h0 hb0
  have hg0 : w.grownBy W (Value.slice at_ ts.length ct).ownBlock := grown_of_below hb0
  clear h0 hT hb0
  go_loopw [5] (fun v wr => ∃ k : Nat, k ≤ ts.length ∧ v = .int .i64 k ∧ wr.ownsRow bt 40 4 (.slice at_ ts.length ct) ts.length (quadsC (leaveT ts k)) ∧ wr.heap[w.heap.size]? = some (.cells #[.int .i64 id, .int .i64 p1, .int .i64 p2, .int .i64 p3, .int .i64 p4, .slice ae ne ce, .int .i64 s0, .slice at_ ts.length ct] 29 (0, 0)) ∧ wr.heap[w.heap.size + 1]? = some (.cells #[.int .i64 0, .int .i64 0, .int .i64 0, .int .i64 0, .int .i64 0, .slice none 0 0, .int .i64 0, .slice none 0 0] 29 (0, 0)) ∧ w.grownBy wr (Value.slice at_ ts.length ct).ownBlock)
    (fun v _ => ts.length - (intOf v).toNat)
  case atStart => exact ⟨0, Nat.zero_le _, rfl, ho, hx, hr, hg0⟩
  case round =>
    clear ho hx hr hg0
    obtain ⟨k, hk, rfl, ho, hx, hr, hg⟩ := hrel
    by_cases hlt : k < ts.length
    · obtain ⟨gt, rfl⟩ := sgt (by omega)
      have hk0 : (0 : Int) ≤ (k : Int) := Int.natCast_nonneg _
      have hk1 : (k : Int) < (ts.length : Int) := by omega
      have hkp : k < (leaveT ts k).length := by rw [unhide LL]; exact hlt
      obtain ⟨d1, d2, d3, d4⟩ := quadsC_cell ho hkp
      rw [unhide LA k hlt hkp] at d1 d2 d3 d4
      have c7 := cellIn (i := 7) hx rfl
      have S1 := hide (unhide LS k hlt)
      generalize ts[k] = x at d1 d2 d3 d4 S1
      obtain ⟨xa, xb, xc, xd⟩ := x
      simp only at d1 d2 d3 d4
      have HO := hide ho
      have HX := hide hx
      have HR := hide hr
      have HG := hide hg
      have HK := hide hkp
      clear ho hx hr hg hkp
      go_upto_region 5 with fail
      obtain ⟨W1, hW1⟩ : ∃ W1, W1 = wr.alloc (Obj.cells #[.int .i64 xa, .int .i64 xb, .int .i64 xc, .int .i64 xd] 40) := ⟨_, rfl⟩
      have HY : W1.heap[wr.heap.size]? = some (.cells #[.int .i64 xa, .int .i64 xb, .int .i64 xc, .int .i64 xd] 40 (0, 0)) := by rw [hW1]; exact heap_alloc_new _ _
      have hb1 : Below wr.heap.size wr W1 := by rw [hW1]; exact (Below.refl _ _).alloc (Nat.le_refl _) _
      rw [← hW1]
      clear hW1 d1 d2 d3 d4 c7
      have HO1 := ownsRow_below (unhide HO) hb1
      have HX1 := heapLater hb1 (unhide HX)
      have HR1 := heapLater hb1 (unhide HR)
      have HG1 := grown_trans (unhide HG) (grown_of_below (row := (Value.slice (some ⟨gt, 0, none⟩) ts.length ct).ownBlock) hb1)
      have hne : Hid (w.heap.size < wr.heap.size ∧ w.heap.size + 1 < wr.heap.size ∧ gt < w.heap.size) := hide ⟨(Array.getElem?_eq_some_iff.1 (unhide HX)).1, (Array.getElem?_eq_some_iff.1 (unhide HR)).1, unhide LT gt rfl⟩
      clear HO HX HR HG hb1
      by_cases hc : xa ≠ 4 ∧ xa ≠ 5
      · obtain ⟨n4, n5⟩ := hc
        have LQ : leaveQ ⟨xa, xb, xc, xd⟩ = ⟨6, xb, xc, 0⟩ := by unfold leaveQ; exact if_pos ⟨n4, n5⟩
        have t4 : (xa != 4) = true := by simp [n4]
        have t5 : (xa != 5) = true := by simp [n5]
        have y0 := cellIn (i := 0) HY rfl
        have u0 := softIn (i := 0) HY
        have y3 := cellIn (i := 3) HY rfl
        have u3 := softIn (i := 3) HY
        have N := hide (And.intro n4 n5)
        clear n4 n5
        go_upto_region 8 with fail
        obtain ⟨hy2, G2⟩ := setMany_is [(0, .int .i64 6), (3, .int .i64 0)] W1 _ HY
        obtain ⟨z1, z2, z3⟩ := unhide hne
        have HO2 := HO1.kept G2 (.inr (by simp [Value.ownBlock]; omega))
        have HX2 := heapBut G2 HX1 (by omega)
        have HR2 := heapBut G2 HR1 (by omega)
        have HG2 : w.grownBy (setMany W1 wr.heap.size [(0, .int .i64 6), (3, .int .i64 0)]) (Value.slice (some ⟨gt, 0, none⟩) ts.length ct).ownBlock := ⟨G2.os.trans HG1.os, G2.tape.trans HG1.tape, G2.output.trans HG1.output, Nat.le_trans HG1.size G2.size, fun j hj hn => (G2.block j (Nat.lt_of_lt_of_le hj HG1.size) (fun e => by simp only [Option.some.injEq] at e; omega)).trans (HG1.block j hj hn)⟩
        have HY2 : (setMany W1 wr.heap.size [(0, .int .i64 6), (3, .int .i64 0)]).heap[wr.heap.size]? = some (.cells #[.int .i64 6, .int .i64 xb, .int .i64 xc, .int .i64 0] 40 (0, 0)) := by rw [hy2]; rfl
        obtain ⟨W2, hW2⟩ : ∃ W2, W2 = setMany W1 wr.heap.size [(0, .int .i64 6), (3, .int .i64 0)] := ⟨_, rfl⟩
        have eW : (W1.setCell ⟨wr.heap.size, 0, none⟩ (.int .i64 6)).setCell ⟨wr.heap.size, 3, none⟩ (.int .i64 0) = W2 := by rw [hW2]; rfl
        rw [eW]
        rw [← hW2] at HO2 HX2 HR2 HG2 HY2
        clear eW hW2 hy2 G2 z1 z2 z3 t4 t5 HO1 HX1 HR1 HG1 HY y0 u0 y3 u3
        have CY2 := hide HY2
        have b7 := cellIn (i := 7) HX2 rfl
        have y0 := cellIn (i := 0) HY2 rfl
        have y1 := cellIn (i := 1) HY2 rfl
        have y2 := cellIn (i := 2) HY2 rfl
        have y3 := cellIn (i := 3) HY2 rfl
        obtain ⟨d1, d2, d3, d4⟩ := quadsC_cell HO2 (unhide HK)
        generalize (leaveT ts k)[k] = q at d1 d2 d3 d4
        have f1 := HO2.frozenAt (k * 4)
        have f2 := HO2.frozenAt (k * 4 + 1)
        have f3 := HO2.frozenAt (k * 4 + 2)
        have f4 := HO2.frozenAt (k * 4 + 3)
        have R := quadsC_stored HO2 ⟨6, xb, xc, 0⟩ (unhide HK)
        rw [show (leaveT ts k).set k ⟨6, xb, xc, 0⟩ = leaveT ts (k + 1) from by rw [← LQ]; exact unhide S1] at R
        simp only at R
        have R2 := grown_trans HG2 R.2
        have e1 := heapFar (v := .slice (some ⟨gt, 0, none⟩) ts.length ct) R.2 HO2 HX2 (by decide)
        have e2 := heapFar (v := .slice (some ⟨gt, 0, none⟩) ts.length ct) R.2 HO2 HR2 (by decide)
        have RR := hide (And.intro R.1 (And.intro e1 (And.intro e2 R2)))
        clear R R2 e1 e2 HO2 HX2 HR2 HG2 HY2 CY2 LQ S1 hne LA LS LL LE HK LT sgt N
        go_wp2
        go_roundw
        case rel =>
          obtain ⟨q1, q2, q3, q4⟩ := unhide RR
          exact ⟨k + 1, by omega, by go_num, q1, q2, q3, q4⟩
        case measure => simp [intOf]; omega
      · have LQ : leaveQ ⟨xa, xb, xc, xd⟩ = ⟨xa, xb, xc, xd⟩ := by unfold leaveQ; exact if_neg hc
        by_cases h4 : xa = 4
        · subst h4
          clear hc
          have CY := hide HY
          have b7 := cellIn (i := 7) HX1 rfl
          have y0 := cellIn (i := 0) HY rfl
          have y1 := cellIn (i := 1) HY rfl
          have y2 := cellIn (i := 2) HY rfl
          have y3 := cellIn (i := 3) HY rfl
          obtain ⟨d1, d2, d3, d4⟩ := quadsC_cell HO1 (unhide HK)
          generalize (leaveT ts k)[k] = q at d1 d2 d3 d4
          have f1 := HO1.frozenAt (k * 4)
          have f2 := HO1.frozenAt (k * 4 + 1)
          have f3 := HO1.frozenAt (k * 4 + 2)
          have f4 := HO1.frozenAt (k * 4 + 3)
          have R := quadsC_stored HO1 ⟨4, xb, xc, xd⟩ (unhide HK)
          rw [show (leaveT ts k).set k ⟨4, xb, xc, xd⟩ = leaveT ts (k + 1) from by rw [← LQ]; exact unhide S1] at R
          simp only at R
          have R2 := grown_trans HG1 R.2
          have e1 := heapFar (v := .slice (some ⟨gt, 0, none⟩) ts.length ct) R.2 HO1 HX1 (by decide)
          have e2 := heapFar (v := .slice (some ⟨gt, 0, none⟩) ts.length ct) R.2 HO1 HR1 (by decide)
          have RR := hide (And.intro R.1 (And.intro e1 (And.intro e2 R2)))
          clear R R2 e1 e2 HO1 HX1 HR1 HG1 HY CY LQ S1 hne LA LS LL LE HK LT sgt
          go_wp2
          go_roundw
          case rel =>
            obtain ⟨q1, q2, q3, q4⟩ := unhide RR
            exact ⟨k + 1, by omega, by go_num, q1, q2, q3, q4⟩
          case measure => simp [intOf]; omega
        · have h5 : xa = 5 := by omega
          subst h5
          clear hc h4
          have CY := hide HY
          have b7 := cellIn (i := 7) HX1 rfl
          have y0 := cellIn (i := 0) HY rfl
          have y1 := cellIn (i := 1) HY rfl
          have y2 := cellIn (i := 2) HY rfl
          have y3 := cellIn (i := 3) HY rfl
          obtain ⟨d1, d2, d3, d4⟩ := quadsC_cell HO1 (unhide HK)
          generalize (leaveT ts k)[k] = q at d1 d2 d3 d4
          have f1 := HO1.frozenAt (k * 4)
          have f2 := HO1.frozenAt (k * 4 + 1)
          have f3 := HO1.frozenAt (k * 4 + 2)
          have f4 := HO1.frozenAt (k * 4 + 3)
          have R := quadsC_stored HO1 ⟨5, xb, xc, xd⟩ (unhide HK)
          rw [show (leaveT ts k).set k ⟨5, xb, xc, xd⟩ = leaveT ts (k + 1) from by rw [← LQ]; exact unhide S1] at R
          simp only at R
          have R2 := grown_trans HG1 R.2
          have e1 := heapFar (v := .slice (some ⟨gt, 0, none⟩) ts.length ct) R.2 HO1 HX1 (by decide)
          have e2 := heapFar (v := .slice (some ⟨gt, 0, none⟩) ts.length ct) R.2 HO1 HR1 (by decide)
          have RR := hide (And.intro R.1 (And.intro e1 (And.intro e2 R2)))
          clear R R2 e1 e2 HO1 HX1 HR1 HG1 HY CY LQ S1 hne LA LS LL LE HK LT sgt
          go_wp2
          go_roundw
          case rel =>
            obtain ⟨q1, q2, q3, q4⟩ := unhide RR
            exact ⟨k + 1, by omega, by go_num, q1, q2, q3, q4⟩
          case measure => simp [intOf]; omega
    · have hke : k = ts.length := by omega
      have hown : wr.ownsRow bt 40 4 (.slice at_ ts.length ct) ts.length (quadsC (ts.map leaveQ)) := by rw [hke, unhide LE] at ho; exact ho
      have HH := hide (And.intro hown hg)
      have b7 := cellIn (i := 7) hx rfl
      have HX := hide hx
      have HR := hide hr
      clear ho hown hg hke hx hr
      go_upto_region 9 with fail
      clear b7
      obtain ⟨hx2, G2⟩ := setMany_is [(6, .int .i64 st)] wr _ (unhide HX)
      have hr2 := heapBut G2 (unhide HR) (by omega)
      obtain ⟨hr3, G3⟩ := setMany_is [(0, .int .i64 id), (1, .int .i64 p1), (2, .int .i64 p2), (3, .int .i64 p3), (4, .int .i64 p4), (5, .slice ae ne ce), (6, .int .i64 st), (7, .slice at_ ts.length ct)] (setMany wr w.heap.size [(6, .int .i64 st)]) _ hr2
      have hr3' : (setMany (setMany wr w.heap.size [(6, .int .i64 st)]) (w.heap.size + 1) [(0, .int .i64 id), (1, .int .i64 p1), (2, .int .i64 p2), (3, .int .i64 p3), (4, .int .i64 p4), (5, .slice ae ne ce), (6, .int .i64 st), (7, .slice at_ ts.length ct)]).heap[w.heap.size + 1]? = some (.cells #[.int .i64 id, .int .i64 p1, .int .i64 p2, .int .i64 p3, .int .i64 p4, .slice ae ne ce, .int .i64 st, .slice at_ ts.length ct] 29 (0, 0)) := by rw [hr3]; rfl
      obtain ⟨o1, g1⟩ := unhide HH
      have o2 := o1.kept G2 (by
        cases hv : (Value.slice at_ ts.length ct).ownBlock with
        | none => exact .inl rfl
        | some j => exact .inr (fun e => by simp only [Option.some.injEq] at e; have := unhide LT j hv; omega))
      have o3 := o2.kept G3 (by
        cases hv : (Value.slice at_ ts.length ct).ownBlock with
        | none => exact .inl rfl
        | some j => exact .inr (fun e => by simp only [Option.some.injEq] at e; have := unhide LT j hv; omega))
      have g3 : w.grownBy (setMany (setMany wr w.heap.size [(6, .int .i64 st)]) (w.heap.size + 1) [(0, .int .i64 id), (1, .int .i64 p1), (2, .int .i64 p2), (3, .int .i64 p3), (4, .int .i64 p4), (5, .slice ae ne ce), (6, .int .i64 st), (7, .slice at_ ts.length ct)]) (Value.slice at_ ts.length ct).ownBlock := ⟨G3.os.trans (G2.os.trans g1.os), G3.tape.trans (G2.tape.trans g1.tape), G3.output.trans (G2.output.trans g1.output), Nat.le_trans g1.size (Nat.le_trans G2.size G3.size), fun j hj hn => (G3.block j (Nat.lt_of_lt_of_le hj (Nat.le_trans g1.size G2.size)) (fun e => by simp only [Option.some.injEq] at e; omega)).trans ((G2.block j (Nat.lt_of_lt_of_le hj g1.size) (fun e => by simp only [Option.some.injEq] at e; omega)).trans (g1.block j hj hn))⟩
      have ER := hide (And.intro o3 (And.intro g3 hr3'))
      have hx1 := unhide HX
      have hr1 := unhide HR
      have x0 := cellIn (i := 0) hx1 rfl
      have f0 := softIn (i := 0) hx1
      have z0 := cellIn (i := 0) hr1 rfl
      have u0 := softIn (i := 0) hr1
      have x1 := cellIn (i := 1) hx1 rfl
      have f1 := softIn (i := 1) hx1
      have z1 := cellIn (i := 1) hr1 rfl
      have u1 := softIn (i := 1) hr1
      have x2 := cellIn (i := 2) hx1 rfl
      have f2 := softIn (i := 2) hx1
      have z2 := cellIn (i := 2) hr1 rfl
      have u2 := softIn (i := 2) hr1
      have x3 := cellIn (i := 3) hx1 rfl
      have f3 := softIn (i := 3) hx1
      have z3 := cellIn (i := 3) hr1 rfl
      have u3 := softIn (i := 3) hr1
      have x4 := cellIn (i := 4) hx1 rfl
      have f4 := softIn (i := 4) hx1
      have z4 := cellIn (i := 4) hr1 rfl
      have u4 := softIn (i := 4) hr1
      have x5 := cellIn (i := 5) hx1 rfl
      have f5 := softIn (i := 5) hx1
      have z5 := cellIn (i := 5) hr1 rfl
      have u5 := softIn (i := 5) hr1
      have x6 := cellIn (i := 6) hx1 rfl
      have f6 := softIn (i := 6) hx1
      have z6 := cellIn (i := 6) hr1 rfl
      have u6 := softIn (i := 6) hr1
      have x7 := cellIn (i := 7) hx1 rfl
      have f7 := softIn (i := 7) hx1
      have z7 := cellIn (i := 7) hr1 rfl
      have u7 := softIn (i := 7) hr1
      clear hx1 hr1 hx2 G2 hr2 hr3 G3 hr3' o1 g1 o2 o3 g3 HH HX HR
      obtain ⟨W5, hW5⟩ : ∃ W5, W5 = setMany (setMany wr w.heap.size [(6, .int .i64 st)]) (w.heap.size + 1) [(0, .int .i64 id), (1, .int .i64 p1), (2, .int .i64 p2), (3, .int .i64 p3), (4, .int .i64 p4), (5, .slice ae ne ce), (6, .int .i64 st), (7, .slice at_ ts.length ct)] := ⟨_, rfl⟩
      rw [← hW5] at ER
      have eW : (((((((((wr).setCell ⟨w.heap.size, 6, none⟩ (.int .i64 st)).setCell ⟨w.heap.size + 1, 0, none⟩ (.int .i64 id)).setCell ⟨w.heap.size + 1, 1, none⟩ (.int .i64 p1)).setCell ⟨w.heap.size + 1, 2, none⟩ (.int .i64 p2)).setCell ⟨w.heap.size + 1, 3, none⟩ (.int .i64 p3)).setCell ⟨w.heap.size + 1, 4, none⟩ (.int .i64 p4)).setCell ⟨w.heap.size + 1, 5, none⟩ (.slice ae ne ce)).setCell ⟨w.heap.size + 1, 6, none⟩ (.int .i64 st)).setCell ⟨w.heap.size + 1, 7, none⟩ (.slice at_ ts.length ct) = W5 := by rw [hW5]; rfl
      have EW := hide eW
      clear eW hW5
      go_wp2
      rw [unhide EW]
      obtain ⟨Q1, Q2, Q3⟩ := unhide ER
      have r0 := cellIn (i := 0) Q3 rfl
      have r1 := cellIn (i := 1) Q3 rfl
      have r2 := cellIn (i := 2) Q3 rfl
      have r3 := cellIn (i := 3) Q3 rfl
      have r4 := cellIn (i := 4) Q3 rfl
      have r5 := cellIn (i := 5) Q3 rfl
      have r6 := cellIn (i := 6) Q3 rfl
      have r7 := cellIn (i := 7) Q3 rfl
      refine bodyPost_ret (v := .agg #[.int .i64 id, .int .i64 p1, .int .i64 p2, .int .i64 p3, .int .i64 p4, .slice ae ne ce, .int .i64 st, .slice at_ ts.length ct]) (by simp [results, Try.results58, go_sem, r0, r1, r2, r3, r4, r5, r6, r7]) rfl ⟨rfl, Q1, Q2⟩
end Go.Proofs.Ytnpfboligmnhpaa
