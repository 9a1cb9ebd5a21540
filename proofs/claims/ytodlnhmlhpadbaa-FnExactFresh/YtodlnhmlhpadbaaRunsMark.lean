/- The runs of a yard marked, and held. -/
import Derived.Test.YtodlnhmlhpadbaaRunsBase
import Derived.Test.YtodlnhmlhpadbaaEdgeHelp
import Derived.Test.YtodlnhmlhpadbaaS4
namespace Go.Proofs.Ytodlnhmlhpadbaa
open Go.RowKit
set_option linter.unusedVariables false
set_option linter.unusedSimpArgs false
attribute [local go_sem ↓] Go.wp_at_zero Go.wp_at_succ

/-- A run that is marked from kk on, its own numbers and its rows in the order of its fields. -/
def sizeRS (r : RunL) : Nat := 6 + r.plan.edges.length * 2 + r.tasks.length * 4
def markRS (kk : Nat) (r : RunL) : RunL := ⟨(kk : Int), ⟨((kk + 1 : Nat) : Int), ((kk + 2 : Nat) : Int), ((kk + 3 : Nat) : Int), ((kk + 4 : Nat) : Int), marksE (kk + 5) r.plan.edges.length⟩, ((kk + 5 + r.plan.edges.length * 2 : Nat) : Int), marksQ (kk + 6 + r.plan.edges.length * 2) r.tasks.length⟩
/-- The marks that runs hold when they are marked from kk on. -/
def sumR : List RunL → Nat
  | [] => 0
  | r :: t => sizeRS r + sumR t
def marksRS : Nat → List RunL → List RunL
  | _, [] => []
  | kk, r :: t => markRS kk r :: marksRS (kk + sizeRS r) t
theorem sumR_append (a b : List RunL) : sumR (a ++ b) = sumR a + sumR b := by
  induction a with
  | nil => simp [sumR]
  | cons x t ih => simp only [List.cons_append, sumR, ih]; omega
theorem marksRS_len (kk : Nat) (rs : List RunL) : (marksRS kk rs).length = rs.length := by
  induction rs generalizing kk with
  | nil => rfl
  | cons r t ih => simp [marksRS, ih]
theorem marksRS_get (kk : Nat) (rs : List RunL) (i : Nat) (h : i < (marksRS kk rs).length) (h' : i < rs.length) : (marksRS kk rs)[i] = markRS (kk + sumR (rs.take i)) rs[i] := by
  induction rs generalizing kk i with
  | nil => simp at h'
  | cons r t ih =>
    cases i with
    | zero => simp [marksRS, sumR]
    | succ i =>
      simp only [marksRS, List.getElem_cons_succ, List.take_succ_cons, sumR]
      rw [ih (kk + sizeRS r) i (by rw [marksRS_len]; simpa using h') (by simpa using h')]
      rw [Nat.add_assoc]
theorem sumR_take_succ (rs : List RunL) (i : Nat) (h : i < rs.length) : sumR (rs.take (i + 1)) = sumR (rs.take i) + sizeRS rs[i] := by
  rw [List.take_succ_eq_append_getElem h, sumR_append]; simp [sumR]
theorem sumR_take_le (rs : List RunL) (i : Nat) : sumR (rs.take i) ≤ sumR rs := by
  have h : rs = rs.take i ++ rs.drop i := (List.take_append_drop i rs).symm
  have := congrArg sumR h
  rw [sumR_append] at this
  omega
/-- Some runs are marked: the first i. -/
def marksToR (kk : Nat) (rs : List RunL) (i : Nat) : List RunL := (marksRS kk rs).take i ++ rs.drop i
theorem marksToR_len (kk : Nat) (rs : List RunL) (i : Nat) : (marksToR kk rs i).length = rs.length := by
  unfold marksToR; rw [List.length_append, List.length_take, List.length_drop, marksRS_len]; omega
theorem marksToR_at (kk : Nat) (rs : List RunL) (i : Nat) (h : i < rs.length) : (marksToR kk rs i)[i]'(by rw [marksToR_len]; exact h) = rs[i] := by
  unfold marksToR
  have hl : ((marksRS kk rs).take i).length = i := by rw [List.length_take, marksRS_len]; omega
  rw [List.getElem_append_right (by omega)]
  simp [hl]
theorem marksToR_next (kk : Nat) (rs : List RunL) (i : Nat) (h : i < rs.length) : marksToR kk rs (i + 1) = (marksToR kk rs i).set i (markRS (kk + sumR (rs.take i)) rs[i]) := by
  have hm : i < (marksRS kk rs).length := by rw [marksRS_len]; exact h
  have hl : ((marksRS kk rs).take i).length = i := by rw [List.length_take, marksRS_len]; omega
  unfold marksToR
  rw [List.take_succ_eq_append_getElem hm, marksRS_get kk rs i hm h, List.set_append_right _ _ (by omega), hl, Nat.sub_self, List.drop_eq_getElem_cons h, List.set_cons_zero, List.append_assoc]
  rfl
theorem pc_five {w : World} {B g off n cap p : Nat} {T : TypeId} {A D : List Value} (c0 c1 c2 c3 c4 c5 c6 c7 a0 a1 a2 a3 a4 : Value) (hA : A.length = p) (h : ownsPc w B T 8 (.slice (some ⟨g, off, none⟩) n cap) n (A ++ [c0, c1, c2, c3, c4, c5, c6, c7] ++ D)) :
    ownsPc (((((w.setCell ⟨g, off + p, none⟩ a0).setCell ⟨g, off + p + 1, none⟩ a1).setCell ⟨g, off + p + 2, none⟩ a2).setCell ⟨g, off + p + 3, none⟩ a3).setCell ⟨g, off + p + 4, none⟩ a4) B T 8 (.slice (some ⟨g, off, none⟩) n cap) n (A ++ [a0, a1, a2, a3, a4, c5, c6, c7] ++ D)
    ∧ w.grownBy (((((w.setCell ⟨g, off + p, none⟩ a0).setCell ⟨g, off + p + 1, none⟩ a1).setCell ⟨g, off + p + 2, none⟩ a2).setCell ⟨g, off + p + 3, none⟩ a3).setCell ⟨g, off + p + 4, none⟩ a4) (some g) := by
  simp only [Nat.add_assoc off]
  have s0 := h.stored (p + 0) a0
  rw [set8 _ _ _ _ _ _ hA (by simp)] at s0
  simp only [List.set_cons_zero, Nat.add_zero] at s0
  have s1 := s0.1.stored (p + 1) a1
  rw [set8 _ _ _ _ _ _ hA (by simp)] at s1
  simp only [List.set_cons_zero, List.set_cons_succ] at s1
  have s2 := s1.1.stored (p + 2) a2
  rw [set8 _ _ _ _ _ _ hA (by simp)] at s2
  simp only [List.set_cons_zero, List.set_cons_succ] at s2
  have s3 := s2.1.stored (p + 3) a3
  rw [set8 _ _ _ _ _ _ hA (by simp)] at s3
  simp only [List.set_cons_zero, List.set_cons_succ] at s3
  have s4 := s3.1.stored (p + 4) a4
  rw [set8 _ _ _ _ _ _ hA (by simp)] at s4
  simp only [List.set_cons_zero, List.set_cons_succ] at s4
  exact ⟨s4.1, grown_trans (grown_trans (grown_trans (grown_trans s0.2 s1.2) s2.2) s3.2) s4.2⟩
theorem pc_six {w : World} {B g off n cap p : Nat} {T : TypeId} {A D : List Value} (c0 c1 c2 c3 c4 c5 c6 c7 a6 : Value) (hA : A.length = p) (h : ownsPc w B T 8 (.slice (some ⟨g, off, none⟩) n cap) n (A ++ [c0, c1, c2, c3, c4, c5, c6, c7] ++ D)) :
    ownsPc (w.setCell ⟨g, off + p + 6, none⟩ a6) B T 8 (.slice (some ⟨g, off, none⟩) n cap) n (A ++ [c0, c1, c2, c3, c4, c5, a6, c7] ++ D) ∧ w.grownBy (w.setCell ⟨g, off + p + 6, none⟩ a6) (some g) := by
  simp only [Nat.add_assoc off]
  have s0 := h.stored (p + 6) a6
  rw [set8 _ _ _ _ _ _ hA (by simp)] at s0
  simp only [List.set_cons_zero, List.set_cons_succ] at s0
  exact s0
theorem kept_ne {v : Value} {b : Option Nat} (h : ∀ j, v.ownBlock = some j → b ≠ some j) : v.ownBlock = none ∨ v.ownBlock ≠ b := by
  cases hv : v.ownBlock with
  | none => exact .inl rfl
  | some j => exact .inr (fun e => h j hv e.symm)
theorem pc_mid {w : World} {B g off n cap p q : Nat} {T : TypeId} {A D C : List Value} {u : Value} (hA : A.length = p) (hq : q < C.length) (h : ownsPc w B T 8 (.slice (some ⟨g, off, none⟩) n cap) n (A ++ C ++ D)) (hu : C[q]? = some u) : w.cell? ⟨g, off + p + q, none⟩ = some u := by
  rw [Nat.add_assoc]
  refine h.cells (p + q) u ?_
  rw [List.append_assoc, List.getElem?_append_right (by omega), List.getElem?_append_left (by omega), hA, Nat.add_sub_cancel_left]
  exact hu
set_option maxRecDepth 100000 in
set_option maxHeartbeats 3200000 in
theorem markRuns_any (va : Value) (lo hi kk : Nat) (us : List (Value × Value)) (rs : List RunL) (w : World) (hA : RunsX w lo hi va us rs) (hl : rs.length ≤ 2000000) (hm : ∀ r ∈ rs, r.plan.edges.length ≤ 2000000 ∧ r.tasks.length ≤ 2000000) (h1 : 1 ≤ kk) (h2 : kk + sumR rs ≤ 19000000) :
    Calls Try.prog 36 #[va, .int .i64 (kk : Int)] w fun e w' => e = .returned (.int .i64 ((kk + sumR rs : Nat) : Int)) ∧ RunsX w' lo hi va us (marksRS kk rs) ∧ Within lo hi w w' ∧ KeptBut [65, 111, 74] w w' := by
  obtain ⟨aa, ca, rfl, sga⟩ := ownsPc_shape hA.out.own
  have HA := hide hA
  have hul := hA.len
  have HUL := hide hul
  clear hA hul
  go_enter Try.func36, Try.ntmps36
  go_wp2
  go_loopw [1, 5] (fun q i wr => ∃ k : Nat, k ≤ rs.length ∧ i = .int .i64 k ∧ q = .int .i64 ((kk + sumR (rs.take k) : Nat) : Int) ∧ Hid (RunsX wr lo hi (.slice aa rs.length ca) us (marksToR kk rs k)) ∧ Within lo hi w wr ∧ KeptBut [65, 111, 74] w wr)
    (fun _ i _ => rs.length - (intOf i).toNat)
  case atStart => exact ⟨0, Nat.zero_le _, rfl, rfl, by unfold marksToR; simpa using HA, ⟨rfl, rfl, rfl, Nat.le_refl _, fun _ _ _ => rfl⟩, keptBut_refl _ _⟩
  case round =>
    clear HA
    obtain ⟨k, hk, rfl, rfl, SS, hb, KB⟩ := hrel
    have HKB := hide KB
    clear KB
    by_cases hlt : k < rs.length
    · obtain ⟨ga, oa, rfl⟩ := sga (by omega)
      have hk0 : (0 : Int) ≤ (k : Int) := Int.natCast_nonneg _
      have hk1 : (k : Int) < (rs.length : Int) := by omega
      have huk : k < us.length := by rw [unhide HUL]; exact hlt
      have hmk : k < (marksToR kk rs k).length := by rw [marksToR_len]; exact hlt
      have hrl := hm _ (List.getElem_mem hlt)
      have NX := hide (marksToR_next kk rs k hlt)
      have SU := hide (sumR_take_succ rs k hlt)
      have hsl := sumR_take_le rs k
      have hsk := sumR_take_le rs (k + 1)
      rw [unhide SU] at hsk
      have S0 := unhide SS
      have X0 := S0.ins k huk hmk
      rw [marksToR_at kk rs k hlt] at X0
      have SP := runsC_split (marksToR kk rs k) us k hmk huk
      have ST := runsC_set (marksToR kk rs k) us k (markRS (kk + sumR (rs.take k)) rs[k]) hmk huk
      rw [marksToR_at kk rs k hlt] at SP
      have hAl : ((runsC (marksToR kk rs k) us).take (k * 8)).length = k * 8 := by
        rw [List.length_take, runsC_len _ _ S0.len, marksToR_len]; omega
      generalize (runsC (marksToR kk rs k) us).take (k * 8) = A at SP ST hAl
      generalize (runsC (marksToR kk rs k) us).drop (k * 8 + 8) = D at SP ST
      have PUT := fun (w' : World) ho he ht hk => hide (runs_put (w' := w') (r' := markRS (kk + sumR (rs.take k)) (rs[k]'hlt)) S0 huk hmk ho he ht hk)
      have O0 := S0.out.own
      rw [SP] at O0
      rw [ST] at PUT
      rw [← unhide NX] at PUT
      rw [marksToR_len] at O0 PUT
      have hin := pcX_in S0.out
      have hsz : 6 + (rs[k]).plan.edges.length * 2 + (rs[k]).tasks.length * 4 = sizeRS rs[k] := rfl
      have hU : ∃ m : Nat, m = kk + sumR (rs.take k) := ⟨_, rfl⟩
      obtain ⟨m, hmm⟩ := hU
      have hmb : m ≤ 19000000 := by omega
      rw [← hmm] at PUT ⊢
      have SUM : m + sizeRS rs[k] = kk + sumR (rs.take (k + 1)) := by rw [unhide SU, hmm]; omega
      have HSUM := hide SUM
      generalize rs[k] = r at *
      generalize us[k] = u at *
      obtain ⟨u1, u2⟩ := u
      dsimp only at X0 PUT O0
      obtain ⟨q1, m1, rfl, -⟩ := ownsRow_shape X0.ed.own
      obtain ⟨q2, m2, rfl, -⟩ := ownsRow_shape X0.tk.own
      simp only [runC] at O0
      have z0 := pc_mid (q := 0) hAl (by simp) O0 rfl
      rw [Nat.add_zero] at z0
      have z1 := pc_mid (q := 1) hAl (by simp) O0 rfl
      have z2 := pc_mid (q := 2) hAl (by simp) O0 rfl
      have z3 := pc_mid (q := 3) hAl (by simp) O0 rfl
      have z4 := pc_mid (q := 4) hAl (by simp) O0 rfl
      have z5 := pc_mid (q := 5) hAl (by simp) O0 rfl
      have f0 := O0.frozenAt (oa + k * 8)
      have f1 := O0.frozenAt (oa + k * 8 + 1)
      have f2 := O0.frozenAt (oa + k * 8 + 2)
      have f3 := O0.frozenAt (oa + k * 8 + 3)
      have f4 := O0.frozenAt (oa + k * 8 + 4)
      have P5 := pc_five _ _ _ _ _ _ _ _ (.int .i64 (m : Int)) (.int .i64 ((m : Int) + 1)) (.int .i64 ((m : Int) + 1 + 1)) (.int .i64 ((m : Int) + 1 + 1 + 1)) (.int .i64 ((m : Int) + 1 + 1 + 1 + 1)) hAl O0
      obtain ⟨W5, hW5⟩ : ∃ W5, W5 = ((((wr.setCell ⟨ga, oa + k * 8, none⟩ (.int .i64 (m : Int))).setCell ⟨ga, oa + k * 8 + 1, none⟩ (.int .i64 ((m : Int) + 1))).setCell ⟨ga, oa + k * 8 + 2, none⟩ (.int .i64 ((m : Int) + 1 + 1))).setCell ⟨ga, oa + k * 8 + 3, none⟩ (.int .i64 ((m : Int) + 1 + 1 + 1))).setCell ⟨ga, oa + k * 8 + 4, none⟩ (.int .i64 ((m : Int) + 1 + 1 + 1 + 1)) := ⟨_, rfl⟩
      rw [← hW5] at P5
      have eE := rows_types (pcOf X0.ed.own) O0 (by decide)
      have eT := rows_types (pcOf X0.tk.own) O0 (by decide)
      have eTE := rows_types (pcOf X0.tk.own) (pcOf X0.ed.own) (by decide)
      have E5 := X0.ed.own.kept P5.2 (kept_ne eE)
      have T5 := X0.tk.own.kept P5.2 (kept_ne eT)
      obtain ⟨m5, hm5⟩ : ∃ m5 : Nat, m5 = m + 5 := ⟨_, rfl⟩
      obtain ⟨m6, hm6⟩ : ∃ m6 : Nat, m6 = m5 + r.plan.edges.length * 2 := ⟨_, rfl⟩
      obtain ⟨m7, hm7⟩ : ∃ m7 : Nat, m7 = m6 + 1 := ⟨_, rfl⟩
      obtain ⟨m8, hm8⟩ : ∃ m8 : Nat, m8 = m7 + r.tasks.length * 4 := ⟨_, rfl⟩
      have x5 : (m5 : Int) = (m : Int) + 1 + 1 + 1 + 1 + 1 := by omega
      have x7 : (m7 : Int) = (m6 : Int) + 1 := by omega
      have M5 := hide (markEdges_any _ lo m5 r.plan.edges W5 E5 hrl.1 (by omega) (by omega))
      rw [← hm6, x5] at M5
      have hb6 : m6 ≤ 40000000 := by omega
      have M7 := fun (W : World) h => hide (markTaskS_any (.slice q2 r.tasks.length m2) lo m7 r.tasks W h hrl.2 (by omega) (by omega))
      rw [← hm8, x7] at M7
      have HH := hide (And.intro hm5 (And.intro hm6 (And.intro hm7 hm8)))
      have HP := hide (And.intro P5 (And.intro E5 (And.intro T5 (And.intro eE (And.intro eT eTE)))))
      have HX := hide (And.intro X0 (And.intro O0 hin))
      have HW := hide (show W5 = ((((wr.setCell ⟨ga, oa + k * 8, none⟩ (.int .i64 (m : Int))).setCell ⟨ga, oa + k * 8 + 1, none⟩ (.int .i64 ((m : Int) + 1))).setCell ⟨ga, oa + k * 8 + 1 + 1, none⟩ (.int .i64 ((m : Int) + 1 + 1))).setCell ⟨ga, oa + k * 8 + 1 + 2, none⟩ (.int .i64 ((m : Int) + 1 + 1 + 1))).setCell ⟨ga, oa + k * 8 + 1 + 3, none⟩ (.int .i64 ((m : Int) + 1 + 1 + 1 + 1)) from hW5)
      have hm8' : m8 = kk + sumR (rs.take (k + 1)) := by rw [← SUM, ← hsz]; omega
      have HM8 := hide hm8'
      have HB := hide hb
      have HAl := hide hAl
      have HPUT := hide PUT
      have HM7 := hide M7
      have HMM := hide hmm
      clear sga SS S0 SP ST P5 E5 T5 eE eT eTE O0 X0 hin hW5 hb hmm hm5 hm6 hm7 hm8 x5 x7 hsz SUM hm8' hsl hsk hAl hmk PUT M7 hm
      go_wp2_with fail
      rw [← unhide HW]
      refine (unhide M5).mono ?_
      rintro e w6 ⟨rfl, E6, G6⟩
      obtain ⟨P5, E5, T5, eE, eT, eTE⟩ := unhide HP
      have O6 := P5.1.kept G6 (kept_ne (rows_types P5.1 (pcOf E5) (by decide)))
      have T6 := T5.kept G6 (kept_ne eTE)
      have y6 := pc_mid (q := 6) (unhide HAl) (by simp) O6 rfl
      have y7 := pc_mid (q := 7) (unhide HAl) (by simp) O6 rfl
      have g6 := O6.frozenAt (oa + k * 8 + 6)
      have P7 := pc_six _ _ _ _ _ _ _ _ (.int .i64 (m6 : Int)) (unhide HAl) O6
      obtain ⟨W7, hW7⟩ : ∃ W7, W7 = w6.setCell ⟨ga, oa + k * 8 + 6, none⟩ (.int .i64 (m6 : Int)) := ⟨_, rfl⟩
      rw [← hW7] at P7
      have E7 := E6.kept P7.2 (kept_ne eE)
      have T7 := T6.kept P7.2 (kept_ne eT)
      have MT := unhide HM7 W7 T7
      have HQ := hide (And.intro P7 (And.intro E7 (And.intro T7 G6)))
      have HW7 := hide hW7
      clear E6 G6 P5 E5 T5 eE eT eTE O6 T6 P7 hW7 E7 T7 z0 z1 z2 z3 z4 z5 f0 f1 f2 f3 f4 M5 HM7
      go_wp2_with fail
      rw [← unhide HW7]
      refine (unhide MT).mono ?_
      rintro e w8 ⟨rfl, T8, G8⟩
      obtain ⟨P7, E7, T7, G6⟩ := unhide HQ
      obtain ⟨P5, E5, T5, eE, eT, eTE⟩ := unhide HP
      obtain ⟨X0, O0, hin⟩ := unhide HX
      obtain ⟨hm5, hm6, hm7, hm8⟩ := unhide HH
      have E8 := E7.kept G8 (kept_ne (rows_types (pcOf E7) (pcOf T7) (by decide)))
      have O8 := P7.1.kept G8 (kept_ne (rows_types P7.1 (pcOf T7) (by decide)))
      have ecs : [Value.int .i64 (m : Int), .int .i64 ((m : Int) + 1), .int .i64 ((m : Int) + 1 + 1), .int .i64 ((m : Int) + 1 + 1 + 1), .int .i64 ((m : Int) + 1 + 1 + 1 + 1), .slice q1 r.plan.edges.length m1, .int .i64 (m6 : Int), .slice q2 r.tasks.length m2] = (runC (markRS m r) (.slice q1 r.plan.edges.length m1) (.slice q2 r.tasks.length m2)).toList := by
        simp [runC, markRS]
        omega
      rw [ecs] at O8
      have e5 : marksE m5 r.plan.edges.length = (markRS m r).plan.edges := by rw [hm5]; rfl
      have e7 : marksQ m7 r.tasks.length = (markRS m r).tasks := by rw [hm7, hm6, hm5, show m + 5 + r.plan.edges.length * 2 + 1 = m + 6 + r.plan.edges.length * 2 from by omega]; rfl
      have l5 : (markRS m r).plan.edges.length = r.plan.edges.length := marksE_length _ _
      have l7 : (markRS m r).tasks.length = r.tasks.length := marksQ_length _ _
      rw [e5] at E8
      rw [e7] at T8
      have S8 := unhide HPUT w8 O8 (by rw [l5]; exact E8) (by rw [l7]; exact T8) (fun j hj n1 n2 n3 => by
        have a5 := P5.2.size
        have a6 := G6.size
        have a7 := P7.2.size
        rw [G8.block j (by omega) (fun e => n3 e.symm), P7.2.block j (by omega) (fun e => n1 e.symm), G6.block j (by omega) (fun e => n2 e.symm), P5.2.block j hj (fun e => n1 e.symm)])
      have hwi : Within lo hi w w8 := within_trans (unhide HB) (within_trans (within_grown P5.2 hin) (within_trans (within_grown G6 (rowX_in X0.ed)) (within_trans (within_grown P7.2 hin) (within_grown G8 (rowX_in X0.tk)))))
      have KB2 := hide (keptBut_trans (unhide HKB) (keptBut_trans (keptBut_grown (Ts := [65, 111, 74]) P5.2 O0 (by simp)) (keptBut_trans (keptBut_grown (Ts := [65, 111, 74]) G6 (pcOf E5) (by simp)) (keptBut_trans (keptBut_grown (Ts := [65, 111, 74]) P7.2 (P5.1.kept G6 (kept_ne (rows_types P5.1 (pcOf E5) (by decide)))) (by simp)) (keptBut_grown (Ts := [65, 111, 74]) G8 (pcOf T7) (by simp))))))
      clear HKB
      clear P7 E7 T7 G6 P5 E5 T5 eE eT eTE X0 O0 hin hm5 hm6 hm7 hm8 E8 O8 ecs e5 e7 l5 l7 T8 G8 y6 y7 g6 MT
      go_wp2
      go_roundw
      case rel => exact ⟨k + 1, by omega, by go_num, by rw [← unhide HM8], S8, hwi, unhide KB2⟩
      case measure => simp [intOf]; omega
    · have hke : rs.take k = rs := List.take_of_length_le (by omega)
      have SE : Hid (RunsX wr lo hi (.slice aa rs.length ca) us (marksRS kk rs)) := by
        have e : marksToR kk rs k = marksRS kk rs := by
          unfold marksToR
          rw [List.take_of_length_le (by rw [marksRS_len]; omega), List.drop_of_length_le (by omega), List.append_nil]
        rw [← e]; exact SS
      rw [hke]
      clear sga SS hke
      go_wp2
      go_ret
      exact ⟨rfl, unhide SE, hb, unhide HKB⟩
set_option maxRecDepth 100000 in
set_option maxHeartbeats 3200000 in
theorem heldRuns_any (va : Value) (lo hi kk : Nat) (us : List (Value × Value)) (rs : List RunL) (w : World) (hA : RunsX w lo hi va us (marksRS kk rs)) (hl : rs.length ≤ 2000000) (hm : ∀ r ∈ rs, r.plan.edges.length ≤ 2000000 ∧ r.tasks.length ≤ 2000000) (h1 : 1 ≤ kk) (h2 : kk + sumR rs ≤ 19000000) :
    Calls Try.prog 38 #[va, .int .i64 (kk : Int)] w fun e w' => e = .returned (.int .i64 ((kk + sumR rs : Nat) : Int)) ∧ Below w.heap.size w w' := by
  obtain ⟨aa, ca, rfl, sga⟩ := ownsPc_shape hA.out.own
  have HA := hide hA
  have hul := hA.len
  have HUL := hide hul
  clear hA hul
  rw [marksRS_len] at sga ⊢
  go_enter Try.func38, Try.ntmps38
  go_wp2
  go_loopw [1, 5] (fun q i wr => ∃ k : Nat, k ≤ rs.length ∧ i = .int .i64 k ∧ q = .int .i64 ((kk + sumR (rs.take k) : Nat) : Int) ∧ Below w.heap.size w wr)
    (fun _ i _ => rs.length - (intOf i).toNat)
  case atStart => exact ⟨0, Nat.zero_le _, rfl, rfl, Below.refl _ _⟩
  case round =>
    obtain ⟨k, hk, rfl, rfl, hb⟩ := hrel
    by_cases hlt : k < rs.length
    · obtain ⟨ga, oa, rfl⟩ := sga (by omega)
      have hk0 : (0 : Int) ≤ (k : Int) := Int.natCast_nonneg _
      have hk1 : (k : Int) < (rs.length : Int) := by omega
      have hmk : k < (marksRS kk rs).length := by rw [marksRS_len]; exact hlt
      have huk : k < us.length := by rw [unhide HUL]; exact hmk
      have S1 := runsX_below (unhide HA) hb
      have X1 := S1.ins k huk hmk
      obtain ⟨c0, c1, c2, c3, c4, c5, c6, c7⟩ := runs_cells S1 rfl huk hmk
      rw [marksRS_get kk rs k hmk hlt] at X1 c0 c1 c2 c3 c4 c6
      have hrl := hm _ (List.getElem_mem hlt)
      have SU := sumR_take_succ rs k hlt
      have hsk := sumR_take_le rs (k + 1)
      rw [SU] at hsk
      have hsz : 6 + (rs[k]).plan.edges.length * 2 + (rs[k]).tasks.length * 4 = sizeRS rs[k] := rfl
      obtain ⟨m, hmm⟩ : ∃ m : Nat, m = kk + sumR (rs.take k) := ⟨_, rfl⟩
      rw [← hmm] at X1 c0 c1 c2 c3 c4 c6 ⊢
      have SUM : m + sizeRS rs[k] = kk + sumR (rs.take (k + 1)) := by rw [SU, hmm]; omega
      generalize rs[k] = r at *
      generalize us[k] = u at *
      obtain ⟨u1, u2⟩ := u
      dsimp only [markRS] at X1 c0 c1 c2 c3 c4 c5 c6 c7
      have hle : (marksE (m + 5) r.plan.edges.length).length = r.plan.edges.length := marksE_length _ _
      have hlq : (marksQ (m + 6 + r.plan.edges.length * 2) r.tasks.length).length = r.tasks.length := marksQ_length _ _
      have E1 := X1.ed.own
      have T1 := X1.tk.own
      dsimp only at E1 T1
      rw [hle] at E1
      rw [hlq] at T1
      obtain ⟨m5, hm5⟩ : ∃ m5 : Nat, m5 = m + 5 := ⟨_, rfl⟩
      obtain ⟨m6, hm6⟩ : ∃ m6 : Nat, m6 = m5 + r.plan.edges.length * 2 := ⟨_, rfl⟩
      obtain ⟨m7, hm7⟩ : ∃ m7 : Nat, m7 = m6 + 1 := ⟨_, rfl⟩
      obtain ⟨m8, hm8⟩ : ∃ m8 : Nat, m8 = m7 + r.tasks.length * 4 := ⟨_, rfl⟩
      rw [← hm5] at E1 c6
      rw [← hm6] at c6
      rw [show m + 6 + r.plan.edges.length * 2 = m7 from by omega] at T1
      rw [show ((m + 1 : Nat) : Int) = (m : Int) + 1 from by omega] at c1
      rw [show ((m + 2 : Nat) : Int) = (m : Int) + 1 + 1 from by omega] at c2
      rw [show ((m + 3 : Nat) : Int) = (m : Int) + 1 + 1 + 1 from by omega] at c3
      rw [show ((m + 4 : Nat) : Int) = (m : Int) + 1 + 1 + 1 + 1 from by omega] at c4
      have x5 : (m5 : Int) = (m : Int) + 1 + 1 + 1 + 1 + 1 := by omega
      have x7 : (m7 : Int) = (m6 : Int) + 1 := by omega
      have H5 := hide (heldEdges_any u1 lo m5 r.plan.edges.length wr E1 hrl.1 (by omega) (by omega))
      rw [← hm6, x5] at H5
      have H7 := fun (W : World) (hW : Below wr.heap.size wr W) => hide (heldTaskS_any u2 lo m7 r.tasks.length W (ownsRow_below T1 hW) hrl.2 (by omega) (by omega))
      rw [← hm8, x7] at H7
      obtain ⟨q1, m1, rfl, -⟩ := ownsRow_shape E1
      obtain ⟨q2, m2, rfl, -⟩ := ownsRow_shape T1
      have e0 : ((m : Int) != (m : Int)) = false := by simp
      have e1 : ((m : Int) + 1 != (m : Int) + 1) = false := by simp
      have e2 : ((m : Int) + 1 + 1 != (m : Int) + 1 + 1) = false := by simp
      have e3 : ((m : Int) + 1 + 1 + 1 != (m : Int) + 1 + 1 + 1) = false := by simp
      have e4 : ((m : Int) + 1 + 1 + 1 + 1 != (m : Int) + 1 + 1 + 1 + 1) = false := by simp
      have e6 : ((m6 : Int) != (m6 : Int)) = false := by simp
      have n6 : decide ((m6 : Int) < 0) = false := decide_eq_false (by omega)
      have n8 : decide ((m8 : Int) < 0) = false := decide_eq_false (by omega)
      have hmb : m ≤ 19000000 := by omega
      have hb6 : m6 ≤ 40000000 := by omega
      have hm8' : m8 = kk + sumR (rs.take (k + 1)) := by rw [← SUM, ← hsz]; omega
      have HM8 := hide hm8'
      have C67 := hide (And.intro c6 c7)
      have HB := hide hb
      clear sga S1 X1 E1 T1 hmm hm5 hm6 hm7 hm8 x5 x7 hsz SUM SU hsk hm8' hm hle hlq hmk HUL c6 c7 hb
      go_wp2_with fail
      refine (unhide H5).mono ?_
      rintro e w6 ⟨rfl, hb6_⟩
      have c6 := cell_later hb6_ (unhide C67).1
      have c7 := cell_later hb6_ (unhide C67).2
      have MT := H7 w6 hb6_
      have R6 := hide ((unhide HB).trans (hb6_.mono (unhide HB).size))
      clear hb6_ H5 H7 c0 c1 c2 c3 c4 c5 e0 e1 e2 e3 e4
      go_wp2_with fail
      refine (unhide MT).mono ?_
      rintro e w8 ⟨rfl, hb8⟩
      have R := (unhide R6).trans (hb8.mono (unhide R6).size)
      clear hb8 MT c6 c7
      go_wp2
      go_roundw
      case rel => exact ⟨k + 1, by omega, by go_num, by rw [← unhide HM8], R⟩
      case measure => simp [intOf]; omega
    · have hke : rs.take k = rs := List.take_of_length_le (by omega)
      rw [hke]
      clear sga hke HA
      go_wp2
      go_ret
      exact ⟨rfl, hb⟩
end Go.Proofs.Ytodlnhmlhpadbaa
