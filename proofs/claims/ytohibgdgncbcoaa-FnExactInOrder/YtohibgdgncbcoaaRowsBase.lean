/- Rows of rows: a row of slices, each a row of ints of its own; nothing of it is shared. The laws' own helpers over them: alike, marks that are laid and held. -/
import Derived.Test.YtohibgdgncbcoaaRowBase
import Derived.Test.YtohibgdgncbcoaaIntsHelp
import Derived.Test.YtohibgdgncbcoaaSpecFrom
import Derived.Deep.QuietTactic
import Derived.BigQuiet
import Derived.Deep.RegionHeld3
namespace Go.Proofs.Ytohibgdgncbcoaa
open Go.RowKit
set_option linter.unusedVariables false
attribute [local go_sem ↓] Go.wp_at_zero Go.wp_at_succ

theorem infoInts : (Try.prog.info? 28).map (fun i => (i.zero, i.size, i.bytes)) = some (some (.slice none 0 0), 1, 24) := by kernel_rfl
/-- A row of rows: the slices are vals, the ints rs; each lies in memory from block B on. -/
structure SSAt (w : World) (B : Nat) (v : Value) (vals : List Value) (rs : List (List Int)) : Prop where
  len : vals.length = rs.length
  out : w.ownsRow B 28 1 v rs.length vals
  ins : ∀ (i : Nat) (h : i < vals.length) (h' : i < rs.length), w.ownsRow B 3 1 vals[i] (rs[i]).length (intC rs[i])
  ap : ∀ (i j : Nat) (hi : i < vals.length) (hj : j < vals.length), i < j → (vals[i]).ownBlock = none ∨ (vals[i]).ownBlock ≠ (vals[j]).ownBlock
/-- A row whose block is below B stays where nothing below B is written. -/
theorem row_under {w w' : World} {B b n size : Nat} {e : TypeId} {v : Value} {xs : List Value} (h : w.ownsRow b e size v n xs) (hlt : ∀ g, v.ownBlock = some g → g < B) (hb : Below B w w') : w'.ownsRow b e size v n xs := by
  refine ⟨h.1, ?_⟩
  rcases h.2 with h' | ⟨g, cap, cur, hv, hB, hg, r⟩
  · exact .inl h'
  · refine .inr ⟨g, cap, cur, hv, hB, ?_, r⟩
    rw [hb.block g (hlt g (by rw [hv]; rfl))]; exact hg
theorem ss_below {w w' : World} {B : Nat} {v : Value} {vals : List Value} {rs : List (List Int)} (h : SSAt w B v vals rs) (hb : Below w.heap.size w w') : SSAt w' B v vals rs :=
  ⟨h.len, ownsRow_below h.out hb, fun i hi hi' => ownsRow_below (h.ins i hi hi') hb, h.ap⟩
theorem ss_drew {w : World} {B : Nat} {v : Value} {vals : List Value} {rs : List (List Int)} (h : SSAt w B v vals rs) : SSAt w.drew B v vals rs := ss_below h ((Below.refl _ _).drew)
theorem ss_base {w : World} {B B' : Nat} {v : Value} {vals : List Value} {rs : List (List Int)} (h : SSAt w B v vals rs) (hB : B' ≤ B) : SSAt w B' v vals rs :=
  ⟨h.len, ownsRow_baseE h.out hB, fun i hi hi' => ownsRow_baseE (h.ins i hi hi') hB, h.ap⟩
/-- All of it stays where nothing below C is written, and all of it lies below C. -/
theorem ss_under {w w' : World} {B C : Nat} {v : Value} {vals : List Value} {rs : List (List Int)} (h : SSAt w B v vals rs) (ho : ∀ g, v.ownBlock = some g → g < C) (hv : ∀ u ∈ vals, ∀ g, u.ownBlock = some g → g < C) (hb : Below C w w') : SSAt w' B v vals rs :=
  ⟨h.len, row_under h.out ho hb, fun i hi hi' => row_under (h.ins i hi hi') (hv _ (List.getElem_mem hi)) hb, h.ap⟩
theorem ss_lt {w : World} {B : Nat} {v : Value} {vals : List Value} {rs : List (List Int)} (h : SSAt w B v vals rs) : (∀ g, v.ownBlock = some g → g < w.heap.size) ∧ ∀ u ∈ vals, ∀ g, u.ownBlock = some g → g < w.heap.size := by
  refine ⟨fun g hg => (h.out.lt g hg).2, fun u hu g hg => ?_⟩
  obtain ⟨i, hi, rfl⟩ := List.mem_iff_getElem.1 hu
  exact ((h.ins i hi (by rw [← h.len]; exact hi)).lt g hg).2
/-- A row that was written below B stays apart from it. -/
theorem ss_kept {w w' : World} {B : Nat} {v : Value} {vals : List Value} {rs : List (List Int)} {r : Option Nat} (h : SSAt w B v vals rs) (hg : w.grownBy w' r) (hr : ∀ x, r = some x → x < B) : SSAt w' B v vals rs := by
  have ap : ∀ {e : TypeId} {size n : Nat} {u : Value} {xs : List Value}, w.ownsRow B e size u n xs → u.ownBlock = none ∨ u.ownBlock ≠ r := fun {e size n u xs} ho => by
    cases hu : u.ownBlock with
    | none => exact .inl rfl
    | some j =>
      refine .inr (fun e1 => ?_)
      have h1 := (ho.lt j hu).1
      have h2 := hr j e1.symm
      omega
  exact ⟨h.len, h.out.kept hg (ap h.out), fun i hi hi' => (h.ins i hi hi').kept hg (ap (h.ins i hi hi')), h.ap⟩
/-- A row that was written above C stays apart from it where all of it lies below C. -/
theorem ss_kept_old {w w' : World} {B C : Nat} {v : Value} {vals : List Value} {rs : List (List Int)} {r : Option Nat} (h : SSAt w B v vals rs) (hg : w.grownBy w' r) (ho : (∀ g, v.ownBlock = some g → g < C) ∧ ∀ u ∈ vals, ∀ g, u.ownBlock = some g → g < C) (hr : ∀ x, r = some x → C ≤ x) : SSAt w' B v vals rs := by
  have ap : ∀ {u : Value}, (∀ g, u.ownBlock = some g → g < C) → u.ownBlock = none ∨ u.ownBlock ≠ r := fun {u} hu => by
    cases hb : u.ownBlock with
    | none => exact .inl rfl
    | some j =>
      refine .inr (fun e1 => ?_)
      have h1 := hu j hb
      have h2 := hr j e1.symm
      omega
  exact ⟨h.len, h.out.kept hg (ap ho.1), fun i hi hi' => (h.ins i hi hi').kept hg (ap (ho.2 _ (List.getElem_mem hi))), h.ap⟩
/-- The cell of the i-th slice. -/
theorem ss_cell {w : World} {B g n cap i : Nat} {vals : List Value} {rs : List (List Int)} (h : SSAt w B (.slice (some ⟨g, 0, none⟩) n cap) vals rs) (hn : n = rs.length) (hi : i < vals.length) : w.cell? ⟨g, i, none⟩ = some vals[i] := by
  subst hn
  rw [h.out.cellAt i (by rw [← h.len]; omega), List.getElem?_eq_getElem hi]
set_option maxRecDepth 100000 in
set_option maxHeartbeats 1600000 in
theorem eqSS_any (va vb : Value) (ba bb : Nat) (us vs : List Value) (rs : List (List Int)) (w : World) (hA : SSAt w ba va us rs) (hB : SSAt w bb vb vs rs) (hl : rs.length ≤ 2000000) (hm : ∀ r ∈ rs, r.length ≤ 2000000) :
    Calls Try.prog 28 #[va, vb] w fun e w' => e = .returned (.bool true) ∧ Below w.heap.size w w' := by
  obtain ⟨aa, ca, rfl, sga⟩ := ownsRow_shape hA.out
  obtain ⟨ab, cb, rfl, sgb⟩ := ownsRow_shape hB.out
  have hne : ((rs.length : Int) != (rs.length : Int)) = false := by simp
  have HA := hide hA
  have HB := hide hB
  clear hA hB
  go_enter Try.func28, Try.ntmps28
  go_wp2
  go_loopw [5] (fun i wr => ∃ k : Nat, k ≤ rs.length ∧ i = .int .i64 k ∧ Below w.heap.size w wr)
    (fun i _ => rs.length - (intOf i).toNat)
  case atStart => exact ⟨0, Nat.zero_le _, rfl, Below.refl _ _⟩
  case round =>
    obtain ⟨k, hk, rfl, hb⟩ := hrel
    have hsz := hb.size
    by_cases hlt : k < rs.length
    · obtain ⟨ga, rfl⟩ := sga (by omega)
      obtain ⟨gb, rfl⟩ := sgb (by omega)
      have hk0 : (0 : Int) ≤ (k : Int) := Int.natCast_nonneg _
      have hk1 : (k : Int) < (rs.length : Int) := by omega
      have hua : k < us.length := by rw [(unhide HA).len]; exact hlt
      have hub : k < vs.length := by rw [(unhide HB).len]; exact hlt
      have sA := ss_below (unhide HA) hb
      have sB := ss_below (unhide HB) hb
      have c1 := ss_cell sA rfl hua
      have c2 := ss_cell sB rfl hub
      have r1 := World.ownsRow.drew (sA.ins k hua hlt)
      have r2 := World.ownsRow.drew (sB.ins k hub hlt)
      have hrl := hm _ (List.getElem_mem hlt)
      generalize us[k] = u at c1 r1
      generalize vs[k] = v at c2 r2
      generalize rs[k] = r at r1 r2 hrl
      obtain ⟨au, cu, rfl, -⟩ := ownsRow_shape r1
      obtain ⟨av, cv, rfl, -⟩ := ownsRow_shape r2
      have EQ := hide (eqInts_any _ _ _ _ r _ r1 r2 hrl)
      clear sga sgb sA sB r1 r2
      go_wp2_with fail
      go_region_held3 (fun w' => w'.cell? ⟨ga, k, none⟩ = some (.slice au r.length cu) ∧ w'.cell? ⟨gb, k, none⟩ = some (.slice av r.length cv))
        (refine ⟨?_, ?_⟩ <;> first | go_keep | exact cell_later hb1 c1 | exact cell_later hb1 c2)
        ((go_at_call 22; refine (unhide EQ).mono ?_; rintro e w1 ⟨rfl, hb1⟩))
      all_goals
        have R : Below w.heap.size w w1 := (hb.drew).trans (hb1.mono hsz)
        clear hb1 hb c1 c2 EQ
        go_wp2
        go_roundw
        case rel => exact ⟨k + 1, by omega, by go_num, R⟩
        case measure => simp [intOf]; omega
    · clear sga sgb HA HB
      go_wp2
      go_ret
      exact ⟨rfl, hb⟩
/-- The ints that rows hold when they are marked from kk on. -/
def sumLen : List (List Int) → Nat
  | [] => 0
  | r :: t => r.length + sumLen t
def marksSS : Nat → List (List Int) → List (List Int)
  | _, [] => []
  | kk, r :: t => marksI kk r.length :: marksSS (kk + r.length) t
theorem sumLen_append (a b : List (List Int)) : sumLen (a ++ b) = sumLen a + sumLen b := by
  induction a with
  | nil => simp [sumLen]
  | cons x t ih => simp only [List.cons_append, sumLen, ih]; omega
theorem marksSS_len (kk : Nat) (rs : List (List Int)) : (marksSS kk rs).length = rs.length := by
  induction rs generalizing kk with
  | nil => rfl
  | cons r t ih => simp [marksSS, ih]
theorem marksSS_get (kk : Nat) (rs : List (List Int)) (i : Nat) (h : i < (marksSS kk rs).length) (h' : i < rs.length) : (marksSS kk rs)[i] = marksI (kk + sumLen (rs.take i)) (rs[i]).length := by
  induction rs generalizing kk i with
  | nil => simp at h'
  | cons r t ih =>
    cases i with
    | zero => simp [marksSS, sumLen]
    | succ i =>
      simp only [marksSS, List.getElem_cons_succ, List.take_succ_cons, sumLen]
      rw [ih (kk + r.length) i (by rw [marksSS_len]; simpa using h') (by simpa using h')]
      rw [Nat.add_assoc]
theorem sumLen_take_succ (rs : List (List Int)) (i : Nat) (h : i < rs.length) : sumLen (rs.take (i + 1)) = sumLen (rs.take i) + (rs[i]).length := by
  rw [List.take_succ_eq_append_getElem h, sumLen_append]; simp [sumLen]
theorem sumLen_take_le (rs : List (List Int)) (i : Nat) : sumLen (rs.take i) ≤ sumLen rs := by
  have h : rs = rs.take i ++ rs.drop i := (List.take_append_drop i rs).symm
  have := congrArg sumLen h
  rw [sumLen_append] at this
  omega
/-- Some rows are marked: the first i. -/
def marksTo (kk : Nat) (rs : List (List Int)) (i : Nat) : List (List Int) := (marksSS kk rs).take i ++ rs.drop i
theorem marksTo_len (kk : Nat) (rs : List (List Int)) (i : Nat) : (marksTo kk rs i).length = rs.length := by
  unfold marksTo; rw [List.length_append, List.length_take, List.length_drop, marksSS_len]; omega
theorem marksTo_at (kk : Nat) (rs : List (List Int)) (i : Nat) (h : i < rs.length) : (marksTo kk rs i)[i]'(by rw [marksTo_len]; exact h) = rs[i] := by
  unfold marksTo
  have hl : ((marksSS kk rs).take i).length = i := by rw [List.length_take, marksSS_len]; omega
  rw [List.getElem_append_right (by omega)]
  simp [hl]
theorem marksTo_next (kk : Nat) (rs : List (List Int)) (i : Nat) (h : i < rs.length) : marksTo kk rs (i + 1) = (marksTo kk rs i).set i (marksI (kk + sumLen (rs.take i)) (rs[i]).length) := by
  have hm : i < (marksSS kk rs).length := by rw [marksSS_len]; exact h
  have hl : ((marksSS kk rs).take i).length = i := by rw [List.length_take, marksSS_len]; omega
  unfold marksTo
  rw [List.take_succ_eq_append_getElem hm, marksSS_get kk rs i hm h, List.set_append_right _ _ (by omega), hl, Nat.sub_self, List.drop_eq_getElem_cons h, List.set_cons_zero, List.append_assoc]
  rfl
/-- One of the rows is written. -/
theorem ss_set {w w' : World} {B : Nat} {v : Value} {vals : List Value} {rs : List (List Int)} {i : Nat} {r : List Int} (h : SSAt w B v vals rs) (hi : i < vals.length) (hi' : i < rs.length) (hr : r.length = (rs[i]).length) (ho : w'.ownsRow B 3 1 vals[i] (rs[i]).length (intC r)) (hg : w.grownBy w' (vals[i]).ownBlock) : SSAt w' B v vals (rs.set i r) := by
  refine ⟨by rw [List.length_set]; exact h.len, ?_, fun j hj hj' => ?_, h.ap⟩
  · rw [List.length_set]
    refine h.out.kept hg ?_
    cases hv : v.ownBlock with
    | none => exact .inl rfl
    | some x =>
      refine .inr (fun e => ?_)
      obtain ⟨a1, c1, e1, -⟩ := ownsRow_shape h.out
      obtain ⟨a2, c2, e2, -⟩ := ownsRow_shape (h.ins i hi hi')
      rcases h.out.2 with ⟨k, _⟩ | ⟨g1, cap1, cur1, k1, _, hh1, _⟩
      · rw [k] at hv; simp [Value.ownBlock] at hv
      · rcases (h.ins i hi hi').2 with ⟨k, _⟩ | ⟨g2, cap2, cur2, k2, _, hh2, _⟩
        · rw [k] at e; simp [Value.ownBlock] at e
        · rw [k1] at hv; rw [k2] at e
          simp only [Value.ownBlock, Option.some.injEq] at hv e
          rw [hv, e, hh2] at hh1
          simp at hh1
  · by_cases e : j = i
    · subst e
      simp only [List.getElem_set_self]
      rw [hr]; exact ho
    · have hj2 : j < rs.length := by rw [List.length_set] at hj'; exact hj'
      rw [List.getElem_set_ne (fun x => e x.symm)]
      refine (h.ins j hj hj2).kept hg ?_
      rcases Nat.lt_or_gt_of_ne e with hl | hl
      · exact h.ap j i hj hi hl
      · have := h.ap i j hi hj hl
        exact apComm this
set_option maxRecDepth 100000 in
set_option maxHeartbeats 1600000 in
theorem markSS_any (va : Value) (ba kk : Nat) (us : List Value) (rs : List (List Int)) (w : World) (hA : SSAt w ba va us rs) (hl : rs.length ≤ 2000000) (hm : ∀ r ∈ rs, r.length ≤ 2000000) (hs : sumLen rs ≤ 10000000) (h1 : 1 ≤ kk) (h2 : kk ≤ 10000000) (hba : ba ≤ w.heap.size) :
    Calls Try.prog 29 #[va, .int .i64 (kk : Int)] w fun e w' => e = .returned (.int .i64 ((kk + sumLen rs : Nat) : Int)) ∧ SSAt w' ba va us (marksSS kk rs) ∧ Below ba w w' := by
  obtain ⟨aa, ca, rfl, sga⟩ := ownsRow_shape hA.out
  have HA := hide hA
  have hul := hA.len
  have HUL := hide hul
  clear hA hul
  go_enter Try.func29, Try.ntmps29
  go_wp2
  go_loopw [1, 5] (fun q i wr => ∃ k : Nat, k ≤ rs.length ∧ i = .int .i64 k ∧ q = .int .i64 ((kk + sumLen (rs.take k) : Nat) : Int) ∧ Hid (SSAt wr ba (.slice aa rs.length ca) us (marksTo kk rs k)) ∧ Below ba w wr)
    (fun _ i _ => rs.length - (intOf i).toNat)
  case atStart => exact ⟨0, Nat.zero_le _, rfl, rfl, by unfold marksTo; simpa using HA, Below.refl _ _⟩
  case round =>
    clear HA
    obtain ⟨k, hk, rfl, rfl, SS, hb⟩ := hrel
    by_cases hlt : k < rs.length
    · obtain ⟨ga, rfl⟩ := sga (by omega)
      have hk0 : (0 : Int) ≤ (k : Int) := Int.natCast_nonneg _
      have hk1 : (k : Int) < (rs.length : Int) := by omega
      have huk : k < us.length := by rw [unhide HUL]; exact hlt
      have hmk : k < (marksTo kk rs k).length := by rw [marksTo_len]; exact hlt
      have c1 := ss_cell (unhide SS) (by rw [marksTo_len]) huk
      have r1 := (unhide SS).ins k huk hmk
      rw [marksTo_at kk rs k hlt] at r1
      have hrl := hm _ (List.getElem_mem hlt)
      have NX := hide (marksTo_next kk rs k hlt)
      have SU := hide (sumLen_take_succ rs k hlt)
      have hsl := sumLen_take_le rs k
      have SET := fun (w' : World) (r : List Int) (hr : r.length = ((marksTo kk rs k)[k]).length) (ho : w'.ownsRow ba 3 1 us[k] ((marksTo kk rs k)[k]).length (intC r)) (hg : wr.grownBy w' (us[k]).ownBlock) => hide (ss_set (unhide SS) huk hmk hr ho hg)
      rw [marksTo_at kk rs k hlt] at SET
      have hub : ∀ g, (us[k]).ownBlock = some g → ba ≤ g := fun g hg => (r1.lt g hg).1
      generalize us[k] = u at c1 r1 SET hub
      generalize rs[k] = r at r1 hrl NX SU SET
      obtain ⟨m, hmm⟩ : ∃ m : Nat, m = kk + sumLen (rs.take k) := ⟨_, rfl⟩
      have MK := hide (markInts_any u ba m r wr r1 hrl (by omega) (by omega))
      rw [← hmm] at NX ⊢
      obtain ⟨au, cu, rfl, -⟩ := ownsRow_shape r1
      have HMM := hide hmm
      have hm1 : m ≤ 20000000 := by omega
      clear sga r1 hmm SS
      go_wp2_with fail
      refine (unhide MK).mono ?_
      rintro e w1 ⟨rfl, ho, hg⟩
      have S2 := SET w1 (marksI m r.length) (by rw [marksI_length]) ho hg
      rw [← unhide NX] at S2
      have hb2 : Below ba w w1 := hb.grown hg (Nat.le_trans hba hb.size) (fun j hj => hub j hj)
      clear ho hg MK SET c1 hub
      go_wp2
      go_roundw
      case rel => exact ⟨k + 1, by omega, by go_num, by rw [unhide SU, ← Nat.add_assoc, ← unhide HMM]; first | rfl | (rw [Int.natCast_add]), S2, hb2⟩
      case measure => simp [intOf]; omega
    · have hke : rs.take k = rs := List.take_of_length_le (by omega)
      have SE : Hid (SSAt wr ba (.slice aa rs.length ca) us (marksSS kk rs)) := by
        have e : marksTo kk rs k = marksSS kk rs := by
          unfold marksTo
          rw [List.take_of_length_le (by rw [marksSS_len]; omega), List.drop_of_length_le (by omega), List.append_nil]
        rw [← e]; exact SS
      rw [hke]
      clear sga SS hke
      go_wp2
      go_ret
      exact ⟨rfl, unhide SE, hb⟩
set_option maxRecDepth 100000 in
set_option maxHeartbeats 1600000 in
theorem heldSS_any (va : Value) (ba kk : Nat) (us : List Value) (rs : List (List Int)) (w : World) (hA : SSAt w ba va us (marksSS kk rs)) (hl : rs.length ≤ 2000000) (hm : ∀ r ∈ rs, r.length ≤ 2000000) (hs : sumLen rs ≤ 10000000) (h1 : 1 ≤ kk) (h2 : kk ≤ 10000000) :
    Calls Try.prog 30 #[va, .int .i64 (kk : Int)] w fun e w' => e = .returned (.int .i64 ((kk + sumLen rs : Nat) : Int)) ∧ Below w.heap.size w w' := by
  obtain ⟨aa, ca, rfl, sga⟩ := ownsRow_shape hA.out
  have HA := hide hA
  have hul := hA.len
  have HUL := hide hul
  clear hA hul
  rw [marksSS_len] at sga ⊢
  go_enter Try.func30, Try.ntmps30
  go_wp2
  go_loopw [1, 5] (fun q i wr => ∃ k : Nat, k ≤ rs.length ∧ i = .int .i64 k ∧ q = .int .i64 ((kk + sumLen (rs.take k) : Nat) : Int) ∧ Below w.heap.size w wr)
    (fun _ i _ => rs.length - (intOf i).toNat)
  case atStart => exact ⟨0, Nat.zero_le _, rfl, rfl, Below.refl _ _⟩
  case round =>
    obtain ⟨k, hk, rfl, rfl, hb⟩ := hrel
    by_cases hlt : k < rs.length
    · obtain ⟨ga, rfl⟩ := sga (by omega)
      have hk0 : (0 : Int) ≤ (k : Int) := Int.natCast_nonneg _
      have hk1 : (k : Int) < (rs.length : Int) := by omega
      have hmk : k < (marksSS kk rs).length := by rw [marksSS_len]; exact hlt
      have huk : k < us.length := by rw [unhide HUL]; exact hmk
      have S1 := ss_below (unhide HA) hb
      have c1 := ss_cell S1 rfl huk
      have r1 := S1.ins k huk hmk
      rw [marksSS_get kk rs k hmk hlt, marksI_length] at r1
      have hrl := hm _ (List.getElem_mem hlt)
      have SU := hide (sumLen_take_succ rs k hlt)
      have hsl := sumLen_take_le rs k
      generalize us[k] = u at c1 r1
      generalize rs[k] = r at r1 hrl SU
      obtain ⟨m, hmm⟩ : ∃ m : Nat, m = kk + sumLen (rs.take k) := ⟨_, rfl⟩
      rw [← hmm] at r1 ⊢
      have HD := hide (heldInts_any u ba m r.length wr r1 hrl (by omega) (by omega))
      obtain ⟨au, cu, rfl, -⟩ := ownsRow_shape r1
      have HMM := hide hmm
      have hm1 : m + r.length ≤ 22000000 := by omega
      have hneg : decide (((m + r.length : Nat) : Int) < 0) = false := by simp; omega
      clear sga r1 hmm S1
      obtain ⟨q, hq⟩ : ∃ q : Nat, q = m + r.length := ⟨_, rfl⟩
      rw [← hq] at HD hneg hm1
      have HQ := hide hq
      clear hq
      go_wp2_with fail
      refine (unhide HD).mono ?_
      rintro e w1 ⟨rfl, hb1⟩
      have R := hb.trans (hb1.mono hb.size)
      clear hb1 HD c1
      go_wp2
      go_roundw
      case rel => exact ⟨k + 1, by omega, by go_num, by rw [unhide SU, ← Nat.add_assoc, ← unhide HMM, ← unhide HQ], R⟩
      case measure => simp [intOf]; omega
    · have hke : rs.take k = rs := List.take_of_length_le (by omega)
      rw [hke]
      clear sga hke HA
      go_wp2
      go_ret
      exact ⟨rfl, hb⟩
end Go.Proofs.Ytohibgdgncbcoaa
