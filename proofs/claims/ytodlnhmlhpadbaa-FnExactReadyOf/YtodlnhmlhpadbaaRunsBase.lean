/- The runs of a yard: a row of runs, each with its two rows; nothing of it is shared. -/
import Derived.Test.YtodlnhmlhpadbaaPcSpan
import Derived.Test.YtodlnhmlhpadbaaS5
import Derived.Test.YtodlnhmlhpadbaaS4
namespace Go.Proofs.Ytodlnhmlhpadbaa
open Go.RowKit
set_option linter.unusedVariables false
set_option linter.unusedSimpArgs false
attribute [local go_sem ↓] Go.wp_at_zero Go.wp_at_succ

/-- The cells of a row of runs, the rows' values beside. -/
def runsC : List RunL → List (Value × Value) → List Value
  | r :: rs, p :: ps => (runC r p.1 p.2).toList ++ runsC rs ps
  | _, _ => []
theorem runsC_get : ∀ (rs : List RunL) (ps : List (Value × Value)) (i q : Nat) (hi : i < rs.length) (hp : i < ps.length), q < 8 → (runsC rs ps)[i * 8 + q]? = (runC rs[i] ps[i].1 ps[i].2).toList[q]?
  | r :: rs, p :: ps, 0, q, _, _, hq => by
    simp only [runsC, Nat.zero_mul, Nat.zero_add, List.getElem_cons_zero]
    rw [List.getElem?_append_left (by simpa [runC] using hq)]
  | r :: rs, p :: ps, i + 1, q, hi, hp, hq => by
    simp only [runsC, List.getElem_cons_succ]
    rw [List.getElem?_append_right (by simp [runC]; omega)]
    have e : (i + 1) * 8 + q - (runC r p.1 p.2).toList.length = i * 8 + q := by simp [runC]; omega
    rw [e]
    exact runsC_get rs ps i q (by simpa using hi) (by simpa using hp) hq
  | [], _, i, _, hi, _, _ => by simp at hi
  | _ :: _, [], i, _, _, hp, _ => by simp at hp
theorem runsC_len : ∀ (rs : List RunL) (ps : List (Value × Value)), ps.length = rs.length → (runsC rs ps).length = rs.length * 8
  | [], ps, h => by simp [runsC]
  | r :: rs, [], h => by simp at h
  | r :: rs, p :: ps, h => by
    simp only [runsC, List.length_append, List.length_cons]
    rw [runsC_len rs ps (by simpa using h)]
    simp [runC]; omega
theorem runsC_split : ∀ (rs : List RunL) (ps : List (Value × Value)) (i : Nat) (hi : i < rs.length) (hp : i < ps.length), runsC rs ps = (runsC rs ps).take (i * 8) ++ (runC rs[i] ps[i].1 ps[i].2).toList ++ (runsC rs ps).drop (i * 8 + 8)
  | r :: rs, p :: ps, 0, _, _ => by
    have e : (runC r p.1 p.2).toList.length = 8 := by simp [runC]
    simp only [runsC, Nat.zero_mul, Nat.zero_add, List.take_zero, List.nil_append, List.getElem_cons_zero]
    rw [List.drop_append_of_le_length (by omega), List.drop_of_length_le (by omega), List.nil_append]
  | r :: rs, p :: ps, i + 1, hi, hp => by
    have e : (runC r p.1 p.2).toList.length = 8 := by simp [runC]
    simp only [runsC, List.getElem_cons_succ]
    rw [show (i + 1) * 8 = 8 + i * 8 from by omega, List.take_append, List.drop_append, e, List.take_of_length_le (by omega), List.drop_of_length_le (by omega), List.nil_append, show 8 + i * 8 - 8 = i * 8 from by omega, show 8 + i * 8 + 8 - 8 = i * 8 + 8 from by omega]
    rw [List.append_assoc, List.append_assoc, ← List.append_assoc (List.take _ _)]
    exact congrArg _ (runsC_split rs ps i (by simpa using hi) (by simpa using hp))
  | [], _, i, hi, _ => by simp at hi
  | _ :: _, [], i, _, hp => by simp at hp
theorem runsC_set : ∀ (rs : List RunL) (ps : List (Value × Value)) (i : Nat) (r' : RunL) (hi : i < rs.length) (hp : i < ps.length), runsC (rs.set i r') ps = (runsC rs ps).take (i * 8) ++ (runC r' ps[i].1 ps[i].2).toList ++ (runsC rs ps).drop (i * 8 + 8)
  | r :: rs, p :: ps, 0, r', _, _ => by
    have e : (runC r p.1 p.2).toList.length = 8 := by simp [runC]
    simp only [runsC, List.set_cons_zero, Nat.zero_mul, Nat.zero_add, List.take_zero, List.nil_append, List.getElem_cons_zero]
    rw [List.drop_append_of_le_length (by omega), List.drop_of_length_le (by omega), List.nil_append]
  | r :: rs, p :: ps, i + 1, r', hi, hp => by
    have e : (runC r p.1 p.2).toList.length = 8 := by simp [runC]
    simp only [runsC, List.set_cons_succ, List.getElem_cons_succ]
    rw [show (i + 1) * 8 = 8 + i * 8 from by omega, List.take_append, List.drop_append, e, List.take_of_length_le (by omega), List.drop_of_length_le (by omega), List.nil_append, show 8 + i * 8 - 8 = i * 8 from by omega, show 8 + i * 8 + 8 - 8 = i * 8 + 8 from by omega]
    rw [List.append_assoc, List.append_assoc, ← List.append_assoc (List.take _ _)]
    exact congrArg _ (runsC_set rs ps i r' (by simpa using hi) (by simpa using hp))
  | [], _, i, _, hi, _ => by simp at hi
  | _ :: _, [], i, _, _, hp => by simp at hp
theorem set8 (A C D : List Value) (n q : Nat) (u : Value) (hA : A.length = n) (hq : q < C.length) : (A ++ C ++ D).set (n + q) u = A ++ C.set q u ++ D := by
  rw [List.append_assoc, List.set_append_right _ _ (by omega), List.set_append_left _ _ (by omega), List.append_assoc, hA, Nat.add_sub_cancel_left]
/-- Runs within a span. -/
structure RunsX (w : World) (lo hi : Nat) (v : Value) (vals : List (Value × Value)) (rs : List RunL) : Prop where
  len : vals.length = rs.length
  out : PcX w lo hi 65 8 v rs.length (runsC rs vals)
  ins : ∀ (i : Nat) (h : i < vals.length) (h' : i < rs.length), RunX w lo hi vals[i].1 vals[i].2 rs[i]
  apE : ∀ (i j : Nat) (hi : i < vals.length) (hj : j < vals.length), i < j → (vals[i].1).ownBlock = none ∨ (vals[i].1).ownBlock ≠ (vals[j].1).ownBlock
  apT : ∀ (i j : Nat) (hi : i < vals.length) (hj : j < vals.length), i < j → (vals[i].2).ownBlock = none ∨ (vals[i].2).ownBlock ≠ (vals[j].2).ownBlock
theorem runX_wide {w : World} {lo hi lo' hi' : Nat} {ve vt : Value} {r : RunL} (h : RunX w lo hi ve vt r) (h1 : lo' ≤ lo) (h2 : hi ≤ hi') : RunX w lo' hi' ve vt r :=
  ⟨⟨ownsRow_baseE h.ed.own h1, fun g hg => Nat.lt_of_lt_of_le (h.ed.lt g hg) h2⟩, ⟨ownsRow_baseE h.tk.own h1, fun g hg => Nat.lt_of_lt_of_le (h.tk.lt g hg) h2⟩⟩
theorem runsX_frame {w w' : World} {lo hi l2 h2 : Nat} {v : Value} {vals : List (Value × Value)} {rs : List RunL} (h : RunsX w lo hi v vals rs) (k : Within l2 h2 w w') (d : hi ≤ l2 ∨ h2 ≤ lo) : RunsX w' lo hi v vals rs := ⟨h.len, pcX_frame h.out k d, fun i a b => runX_frame (h.ins i a b) k d, h.apE, h.apT⟩
theorem runsX_below {w w' : World} {lo hi : Nat} {v : Value} {vals : List (Value × Value)} {rs : List RunL} (h : RunsX w lo hi v vals rs) (hb : Below w.heap.size w w') : RunsX w' lo hi v vals rs := ⟨h.len, pcX_below h.out hb, fun i a b => runX_below (h.ins i a b) hb, h.apE, h.apT⟩
theorem runsX_wide {w : World} {lo hi lo' hi' : Nat} {v : Value} {vals : List (Value × Value)} {rs : List RunL} (h : RunsX w lo hi v vals rs) (h1 : lo' ≤ lo) (h2 : hi ≤ hi') : RunsX w lo' hi' v vals rs := ⟨h.len, pcX_wide h.out h1 h2, fun i a b => runX_wide (h.ins i a b) h1 h2, h.apE, h.apT⟩
theorem runsX_but {Ts : List TypeId} {w w' : World} {lo hi : Nat} {v : Value} {vals : List (Value × Value)} {rs : List RunL} (h : RunsX w lo hi v vals rs) (k : KeptBut Ts w w') (h1 : 65 ∉ Ts) (h2 : 111 ∉ Ts) (h3 : 74 ∉ Ts) : RunsX w' lo hi v vals rs := ⟨h.len, pcX_but h.out k h1, fun i a b => ⟨rowX_but (h.ins i a b).ed k h2, rowX_but (h.ins i a b).tk k h3⟩, h.apE, h.apT⟩
/-- The cells of the i-th run. -/
theorem runs_cell {w : World} {lo hi g off n cap i q : Nat} {u : Value} {vals : List (Value × Value)} {rs : List RunL} (h : RunsX w lo hi (.slice (some ⟨g, off, none⟩) n cap) vals rs) (hn : n = rs.length) (hi1 : i < vals.length) (hi2 : i < rs.length) (hq : q < 8) (hu : (runC rs[i] vals[i].1 vals[i].2).toList[q]? = some u) : w.cell? ⟨g, off + (i * 8 + q), none⟩ = some u := by
  subst hn
  exact h.out.own.cells _ _ ((runsC_get rs vals i q hi2 hi1 hq).trans hu)
theorem runs_cells {w : World} {lo hi g off n cap i : Nat} {vals : List (Value × Value)} {rs : List RunL} (h : RunsX w lo hi (.slice (some ⟨g, off, none⟩) n cap) vals rs) (hn : n = rs.length) (hi1 : i < vals.length) (hi2 : i < rs.length) :
    w.cell? ⟨g, off + i * 8, none⟩ = some (.int .i64 (rs[i]).id) ∧ w.cell? ⟨g, off + i * 8 + 1, none⟩ = some (.int .i64 (rs[i]).plan.prio) ∧ w.cell? ⟨g, off + i * 8 + 2, none⟩ = some (.int .i64 (rs[i]).plan.most) ∧ w.cell? ⟨g, off + i * 8 + 3, none⟩ = some (.int .i64 (rs[i]).plan.wait) ∧
    w.cell? ⟨g, off + i * 8 + 4, none⟩ = some (.int .i64 (rs[i]).plan.tasks) ∧ w.cell? ⟨g, off + i * 8 + 5, none⟩ = some vals[i].1 ∧ w.cell? ⟨g, off + i * 8 + 6, none⟩ = some (.int .i64 (rs[i]).state) ∧ w.cell? ⟨g, off + i * 8 + 7, none⟩ = some vals[i].2 := by
  have k := fun (q : Nat) (u : Value) (hq : q < 8) (hu : (runC rs[i] vals[i].1 vals[i].2).toList[q]? = some u) => runs_cell h hn hi1 hi2 hq hu
  refine ⟨k 0 _ (by omega) rfl, ?_, ?_, ?_, ?_, ?_, ?_, ?_⟩
  · rw [Nat.add_assoc]; exact k 1 _ (by omega) rfl
  · rw [Nat.add_assoc]; exact k 2 _ (by omega) rfl
  · rw [Nat.add_assoc]; exact k 3 _ (by omega) rfl
  · rw [Nat.add_assoc]; exact k 4 _ (by omega) rfl
  · rw [Nat.add_assoc]; exact k 5 _ (by omega) rfl
  · rw [Nat.add_assoc]; exact k 6 _ (by omega) rfl
  · rw [Nat.add_assoc]; exact k 7 _ (by omega) rfl
theorem row_same {w w' : World} {B size n : Nat} {e : TypeId} {v : Value} {xs : List Value} (h : w.ownsRow B e size v n xs) (k : ∀ j, v.ownBlock = some j → w'.heap[j]? = w.heap[j]?) : w'.ownsRow B e size v n xs := by
  refine ⟨h.1, ?_⟩
  rcases h.2 with q | ⟨g, cap, cur, hv, hB, hg, r⟩
  · exact .inl q
  · exact .inr ⟨g, cap, cur, hv, hB, (k g (by rw [hv]; rfl)).trans hg, r⟩
theorem rows_types {w : World} {B B' e e' size size' n n' : Nat} {v v' : Value} {xs xs' : List Value} (h : ownsPc w B e size v n xs) (h' : ownsPc w B' e' size' v' n' xs') (he : e ≠ e') : ∀ j, v.ownBlock = some j → v'.ownBlock ≠ some j := fun j hj e1 => by
  rcases pcs_types h h' he with k | k
  · rw [k] at hj; cases hj
  · exact k (hj.trans e1.symm)
/-- One of the runs is written, in its own cells and its own rows. -/
theorem runs_put {w w' : World} {lo hi : Nat} {v : Value} {vals : List (Value × Value)} {rs : List RunL} {i : Nat} {r' : RunL} (h : RunsX w lo hi v vals rs) (hi1 : i < vals.length) (hi2 : i < rs.length)
    (ho : ownsPc w' lo 65 8 v rs.length (runsC (rs.set i r') vals)) (he : w'.ownsRow lo 111 2 vals[i].1 r'.plan.edges.length (edgesC r'.plan.edges)) (ht : w'.ownsRow lo 74 4 vals[i].2 r'.tasks.length (quadsC r'.tasks))
    (hk : ∀ j, j < w.heap.size → v.ownBlock ≠ some j → (vals[i].1).ownBlock ≠ some j → (vals[i].2).ownBlock ≠ some j → w'.heap[j]? = w.heap[j]?) : RunsX w' lo hi v vals (rs.set i r') := by
  have hx := h.ins i hi1 hi2
  refine ⟨by rw [List.length_set]; exact h.len, ⟨by rw [List.length_set]; exact ho, h.out.lt⟩, fun j hj hj' => ?_, h.apE, h.apT⟩
  by_cases e : j = i
  · subst e
    rw [List.getElem_set_self]
    exact ⟨⟨he, hx.ed.lt⟩, ⟨ht, hx.tk.lt⟩⟩
  · have hj2 : j < rs.length := by rw [List.length_set] at hj'; exact hj'
    rw [List.getElem_set_ne (fun x => e x.symm)]
    have y := h.ins j hj hj2
    have nE : ∀ k, (vals[j].1).ownBlock = some k → (vals[i].1).ownBlock ≠ some k := fun k h1 h3 => by
      rcases Nat.lt_or_gt_of_ne e with hl | hl
      · rcases h.apE j i hj hi1 hl with z | z
        · rw [z] at h1; cases h1
        · exact z (h1.trans h3.symm)
      · rcases h.apE i j hi1 hj hl with z | z
        · rw [z] at h3; cases h3
        · exact z (h3.trans h1.symm)
    have nT : ∀ k, (vals[j].2).ownBlock = some k → (vals[i].2).ownBlock ≠ some k := fun k h1 h3 => by
      rcases Nat.lt_or_gt_of_ne e with hl | hl
      · rcases h.apT j i hj hi1 hl with z | z
        · rw [z] at h1; cases h1
        · exact z (h1.trans h3.symm)
      · rcases h.apT i j hi1 hj hl with z | z
        · rw [z] at h3; cases h3
        · exact z (h3.trans h1.symm)
    refine ⟨⟨row_same y.ed.own (fun k hk1 => ?_), y.ed.lt⟩, ⟨row_same y.tk.own (fun k hk1 => ?_), y.tk.lt⟩⟩
    · exact hk k (y.ed.own.lt k hk1).2 (rows_types (pcOf y.ed.own) h.out.own (by decide) k hk1) (nE k hk1) (rows_types (pcOf y.ed.own) (pcOf hx.tk.own) (by decide) k hk1)
    · exact hk k (y.tk.own.lt k hk1).2 (rows_types (pcOf y.tk.own) h.out.own (by decide) k hk1) (rows_types (pcOf y.tk.own) (pcOf hx.ed.own) (by decide) k hk1) (nT k hk1)
set_option maxRecDepth 100000 in
set_option maxHeartbeats 3200000 in
theorem eqRuns_any (va vb : Value) (l1 h1 l2 h2 : Nat) (us vs : List (Value × Value)) (rs : List RunL) (w : World) (hA : RunsX w l1 h1 va us rs) (hB : RunsX w l2 h2 vb vs rs) (hl : rs.length ≤ 2000000) (hm : ∀ r ∈ rs, r.plan.edges.length ≤ 2000000 ∧ r.tasks.length ≤ 2000000) :
    Calls Try.prog 34 #[va, vb] w fun e w' => e = .returned (.bool true) ∧ Below w.heap.size w w' := by
  obtain ⟨aa, ca, rfl, sga⟩ := ownsPc_shape hA.out.own
  obtain ⟨ab, cb, rfl, sgb⟩ := ownsPc_shape hB.out.own
  have hne : ((rs.length : Int) != (rs.length : Int)) = false := by simp
  have HA := hide hA
  have HB := hide hB
  clear hA hB
  go_enter Try.func34, Try.ntmps34
  go_wp2
  go_loopw [5] (fun i wr => ∃ k : Nat, k ≤ rs.length ∧ i = .int .i64 k ∧ Below w.heap.size w wr)
    (fun i _ => rs.length - (intOf i).toNat)
  case atStart => exact ⟨0, Nat.zero_le _, rfl, Below.refl _ _⟩
  case round =>
    obtain ⟨k, hk, rfl, hb⟩ := hrel
    have hsz := hb.size
    by_cases hlt : k < rs.length
    · obtain ⟨ga, oa, rfl⟩ := sga (by omega)
      obtain ⟨gb, ob, rfl⟩ := sgb (by omega)
      have hk0 : (0 : Int) ≤ (k : Int) := Int.natCast_nonneg _
      have hk1 : (k : Int) < (rs.length : Int) := by omega
      have hua : k < us.length := by rw [(unhide HA).len]; exact hlt
      have hub : k < vs.length := by rw [(unhide HB).len]; exact hlt
      have sA := runsX_below (unhide HA) hb
      have sB := runsX_below (unhide HB) hb
      have hD : Below wr.heap.size wr wr.drew := Below.drew (Below.refl _ _)
      have r1 := runX_own (runX_below (sA.ins k hua hlt) hD)
      have r2 := runX_own (runX_below (sB.ins k hub hlt) hD)
      obtain ⟨c1, c2, c3, c4, c5, c6, c7, c8⟩ := runs_cells sA rfl hua hlt
      obtain ⟨d1, d2, d3, d4, d5, d6, d7, d8⟩ := runs_cells sB rfl hub hlt
      have hrl := hm _ (List.getElem_mem hlt)
      generalize us[k] = u at *
      generalize vs[k] = v at *
      generalize rs[k] = r at *
      obtain ⟨u1, u2⟩ := u
      obtain ⟨v1, v2⟩ := v
      dsimp only at r1 r2 c6 c8 d6 d8
      obtain ⟨q1, m1, rfl, -⟩ := ownsRow_shape r1.edges
      obtain ⟨q2, m2, rfl, -⟩ := ownsRow_shape r1.tasks
      obtain ⟨q3, m3, rfl, -⟩ := ownsRow_shape r2.edges
      obtain ⟨q4, m4, rfl, -⟩ := ownsRow_shape r2.tasks
      have EQ := hide (eqRun_any _ _ _ _ _ _ r _ r1 r2 hrl.1 hrl.2)
      unfold runV runC at EQ
      clear sga sgb sA sB r1 r2 hD
      go_wp2_with fail
      go_region_held3 (fun w' => w'.cell? ⟨ga, oa + k * 8, none⟩ = some (.int .i64 r.id) ∧ w'.cell? ⟨ga, oa + k * 8 + 1, none⟩ = some (.int .i64 r.plan.prio) ∧ w'.cell? ⟨ga, oa + k * 8 + 2, none⟩ = some (.int .i64 r.plan.most) ∧ w'.cell? ⟨ga, oa + k * 8 + 3, none⟩ = some (.int .i64 r.plan.wait) ∧ w'.cell? ⟨ga, oa + k * 8 + 4, none⟩ = some (.int .i64 r.plan.tasks) ∧ w'.cell? ⟨ga, oa + k * 8 + 5, none⟩ = some (.slice q1 r.plan.edges.length m1) ∧ w'.cell? ⟨ga, oa + k * 8 + 6, none⟩ = some (.int .i64 r.state) ∧ w'.cell? ⟨ga, oa + k * 8 + 7, none⟩ = some (.slice q2 r.tasks.length m2) ∧
          w'.cell? ⟨gb, ob + k * 8, none⟩ = some (.int .i64 r.id) ∧ w'.cell? ⟨gb, ob + k * 8 + 1, none⟩ = some (.int .i64 r.plan.prio) ∧ w'.cell? ⟨gb, ob + k * 8 + 2, none⟩ = some (.int .i64 r.plan.most) ∧ w'.cell? ⟨gb, ob + k * 8 + 3, none⟩ = some (.int .i64 r.plan.wait) ∧ w'.cell? ⟨gb, ob + k * 8 + 4, none⟩ = some (.int .i64 r.plan.tasks) ∧ w'.cell? ⟨gb, ob + k * 8 + 5, none⟩ = some (.slice q3 r.plan.edges.length m3) ∧ w'.cell? ⟨gb, ob + k * 8 + 6, none⟩ = some (.int .i64 r.state) ∧ w'.cell? ⟨gb, ob + k * 8 + 7, none⟩ = some (.slice q4 r.tasks.length m4))
        (first | go_keep | exact ⟨cell_later hb1 c1, cell_later hb1 c2, cell_later hb1 c3, cell_later hb1 c4, cell_later hb1 c5, cell_later hb1 c6, cell_later hb1 c7, cell_later hb1 c8, cell_later hb1 d1, cell_later hb1 d2, cell_later hb1 d3, cell_later hb1 d4, cell_later hb1 d5, cell_later hb1 d6, cell_later hb1 d7, cell_later hb1 d8⟩)
        ((go_at_call 62; refine (unhide EQ).mono ?_; rintro e w1 ⟨rfl, hb1⟩))
      all_goals
        have R : Below w.heap.size w w1 := (hb.drew).trans (hb1.mono hsz)
        clear hb1 hb c1 c2 c3 c4 c5 c6 c7 c8 d1 d2 d3 d4 d5 d6 d7 d8 EQ
        go_wp2
        go_roundw
        case rel => exact ⟨k + 1, by omega, by go_num, R⟩
        case measure => simp [intOf]; omega
    · clear sga sgb HA HB
      go_wp2
      go_ret
      exact ⟨rfl, hb⟩
end Go.Proofs.Ytodlnhmlhpadbaa
