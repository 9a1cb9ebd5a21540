/- What is asked of pieces of rows of Entry: whether they are the same, marks laid and found again. -/
import Derived.Test.YtccafdoehjdbeaaInsBase
import Derived.Test.YtccafdoehjdbeaaEntryHelp
import Derived.Deep.RegionHeld3
namespace Go.Proofs.Ytccafdoehjdbeaa
open Go.RowKit
set_option linter.unusedVariables false
set_option linter.unusedSimpArgs false
attribute [local go_sem ↓] Go.wp_at_zero Go.wp_at_succ

set_option maxRecDepth 100000 in
set_option maxHeartbeats 3200000 in
theorem eqEntryS_pc (va vb : Value) (ba bb : Nat) (es : List QuadL) (w : World) (hA : ownsPc w ba 29 4 va es.length (quadsC es)) (hB : ownsPc w bb 29 4 vb es.length (quadsC es)) (hl : es.length ≤ 2000000) :
    Calls Try.prog 25 #[va, vb] w fun e w' => e = .returned (.bool true) ∧ Below w.heap.size w w' := by
  obtain ⟨aa, ca, rfl, sga⟩ := ownsPc_shape hA
  obtain ⟨ab, cb, rfl, sgb⟩ := ownsPc_shape hB
  have hne : ((es.length : Int) != (es.length : Int)) = false := by simp
  go_enter Try.func25, Try.ntmps25
  go_wp2
  go_loopw [5] (fun i wr => ∃ k : Nat, k ≤ es.length ∧ i = .int .i64 k ∧ Below w.heap.size w wr)
    (fun i _ => es.length - (intOf i).toNat)
  case atStart => exact ⟨0, Nat.zero_le _, rfl, Below.refl _ _⟩
  case round =>
    obtain ⟨k, hk, rfl, hb⟩ := hrel
    have hsz := hb.size
    by_cases hlt : k < es.length
    · obtain ⟨ga, oa, rfl⟩ := sga (by omega)
      obtain ⟨gb, ob, rfl⟩ := sgb (by omega)
      have hk0 : (0 : Int) ≤ (k : Int) := Int.natCast_nonneg _
      have hk1 : (k : Int) < (es.length : Int) := by omega
      obtain ⟨c1, c2, c3, c4⟩ := pcCell (ownsPc_below hA hb) hlt
      obtain ⟨d1, d2, d3, d4⟩ := pcCell (ownsPc_below hB hb) hlt
      generalize es[k] = p at c1 c2 c3 c4 d1 d2 d3 d4
      clear hA hB sga sgb
      go_wp2_with fail
      go_region_held3 (fun w' => w'.cell? ⟨ga, oa + k * 4, none⟩ = some (.int .i64 p.a) ∧ w'.cell? ⟨ga, oa + k * 4 + 1, none⟩ = some (.int .i64 p.b) ∧ w'.cell? ⟨ga, oa + k * 4 + 2, none⟩ = some (.int .i64 p.c) ∧ w'.cell? ⟨ga, oa + k * 4 + 3, none⟩ = some (.int .i64 p.d) ∧ w'.cell? ⟨gb, ob + k * 4, none⟩ = some (.int .i64 p.a) ∧ w'.cell? ⟨gb, ob + k * 4 + 1, none⟩ = some (.int .i64 p.b) ∧ w'.cell? ⟨gb, ob + k * 4 + 2, none⟩ = some (.int .i64 p.c) ∧ w'.cell? ⟨gb, ob + k * 4 + 3, none⟩ = some (.int .i64 p.d))
        (first | go_keep | exact ⟨cell_later hb1 (by assumption), cell_later hb1 (by assumption), cell_later hb1 (by assumption), cell_later hb1 (by assumption), cell_later hb1 (by assumption), cell_later hb1 (by assumption), cell_later hb1 (by assumption), cell_later hb1 (by assumption)⟩)
        ((go_at_call 30; refine (eqEntry_any p _).mono ?_; rintro e w1 ⟨rfl, hb1⟩))
      all_goals
        have R : Below w.heap.size w w1 := (hb.drew).trans (hb1.mono hsz)
        clear hb1 hb c1 c2 c3 c4 d1 d2 d3 d4
        go_wp2
        go_roundw
        case rel => exact ⟨k + 1, by omega, by go_num, R⟩
        case measure => simp [intOf]; omega
    · clear sga sgb hA hB
      go_wp2
      go_ret
      exact ⟨rfl, hb⟩
set_option maxRecDepth 100000 in
set_option maxHeartbeats 3200000 in
theorem markEntryS_pc (va : Value) (ba kk : Nat) (es : List QuadL) (w : World) (hA : ownsPc w ba 29 4 va es.length (quadsC es)) (hl : es.length ≤ 2000000) (h1 : 1 ≤ kk) (h2 : kk ≤ 20000000) :
    Calls Try.prog 27 #[va, .int .i64 (kk : Int)] w fun e w' => e = .returned (.int .i64 ((kk + es.length * 4 : Nat) : Int)) ∧ ownsPc w' ba 29 4 va es.length (quadsC (marksQ kk es.length)) ∧ w.grownBy w' va.ownBlock := by
  obtain ⟨aa, ca, rfl, sga⟩ := ownsPc_shape hA
  go_enter Try.func27, Try.ntmps27
  go_wp2
  go_loopw [1, 5] (fun q i wr => ∃ k : Nat, k ≤ es.length ∧ i = .int .i64 k ∧ q = .int .i64 ((kk + k * 4 : Nat) : Int) ∧ ownsPc wr ba 29 4 (.slice aa es.length ca) es.length (quadsC (marksQ kk k ++ es.drop k)) ∧ w.grownBy wr (Value.slice aa es.length ca).ownBlock)
    (fun _ i _ => es.length - (intOf i).toNat)
  case atStart => exact ⟨0, Nat.zero_le _, rfl, rfl, hA, grown_refl _ _⟩
  case round =>
    obtain ⟨k, hk, rfl, rfl, hown, hg⟩ := hrel
    by_cases hlt : k < es.length
    · obtain ⟨ga, oa, rfl⟩ := sga (by omega)
      have hk0 : (0 : Int) ≤ (k : Int) := Int.natCast_nonneg _
      have hk1 : (k : Int) < (es.length : Int) := by omega
      have hkp : k < (marksQ kk k ++ es.drop k).length := by rw [List.length_append, marksQ_length, List.length_drop]; omega
      obtain ⟨d1, d2, d3, d4⟩ := pcCell hown hkp
      have f1 := ownsPc.frozenAt hown (oa + k * 4)
      have f2 := ownsPc.frozenAt hown (oa + k * 4 + 1)
      have f3 := ownsPc.frozenAt hown (oa + k * 4 + 2)
      have f4 := ownsPc.frozenAt hown (oa + k * 4 + 3)
      have R := pcStored hown (markQ (kk + k * 4)) hkp
      rw [marksQ_set kk k es hlt] at R
      unfold markQ at R
      have R2 := grown_trans hg R.2
      have R1 := R.1
      generalize (marksQ kk k ++ es.drop k)[k] = q at d1 d2 d3 d4
      clear R hown hg hA sga hkp
      obtain ⟨m, hm⟩ : ∃ m : Nat, m = kk + k * 4 := ⟨_, rfl⟩
      rw [← hm] at R1 R2 ⊢
      simp only at R1 R2
      rw [show (((m + 1 : Nat)) : Int) = (m : Int) + 1 from by omega, show (((m + 2 : Nat)) : Int) = (m : Int) + 1 + 1 from by omega, show (((m + 3 : Nat)) : Int) = (m : Int) + 1 + 1 + 1 from by omega] at R1 R2
      have HM := hide hm
      have hm1 : m ≤ 28000000 := by omega
      clear hm
      go_wp2
      go_roundw
      case rel => exact ⟨k + 1, by omega, by go_num, by rw [show kk + (k + 1) * 4 = m + 4 from by have := unhide HM; omega]; go_num, R1, R2⟩
      case measure => simp [intOf]; omega
    · have hke : k = es.length := by omega
      have hown2 : ownsPc wr ba 29 4 (.slice aa es.length ca) es.length (quadsC (marksQ kk es.length)) := by
        rw [hke] at hown; simpa using hown
      have HK := hide hke
      clear sga hA hown hke
      go_wp2
      go_ret
      exact ⟨ret_int (by have := unhide HK; omega), hown2, hg⟩
set_option maxRecDepth 100000 in
set_option maxHeartbeats 3200000 in
theorem heldEntryS_pc (va : Value) (ba kk n : Nat) (w : World) (hA : ownsPc w ba 29 4 va n (quadsC (marksQ kk n))) (hl : n ≤ 2000000) (h1 : 1 ≤ kk) (h2 : kk ≤ 20000000) :
    Calls Try.prog 28 #[va, .int .i64 (kk : Int)] w fun e w' => e = .returned (.int .i64 ((kk + n * 4 : Nat) : Int)) ∧ Below w.heap.size w w' := by
  obtain ⟨aa, ca, rfl, sga⟩ := ownsPc_shape hA
  go_enter Try.func28, Try.ntmps28
  go_wp2
  go_loopw [1, 5] (fun q i wr => ∃ k : Nat, k ≤ n ∧ i = .int .i64 k ∧ q = .int .i64 ((kk + k * 4 : Nat) : Int) ∧ Below w.heap.size w wr)
    (fun _ i _ => n - (intOf i).toNat)
  case atStart => exact ⟨0, Nat.zero_le _, rfl, rfl, Below.refl _ _⟩
  case round =>
    obtain ⟨k, hk, rfl, rfl, hb⟩ := hrel
    by_cases hlt : k < n
    · obtain ⟨ga, oa, rfl⟩ := sga (by omega)
      have hk0 : (0 : Int) ≤ (k : Int) := Int.natCast_nonneg _
      have hk1 : (k : Int) < (n : Int) := by omega
      obtain ⟨c1, c2, c3, c4⟩ := pcCell (ownsPc_below hA hb) (k := k) (by rw [marksQ_length]; exact hlt)
      rw [marksQ_get] at c1 c2 c3 c4
      unfold markQ at c1 c2 c3 c4
      obtain ⟨m, hm⟩ : ∃ m : Nat, m = kk + k * 4 := ⟨_, rfl⟩
      rw [← hm] at c1 c2 c3 c4 ⊢
      simp only at c1 c2 c3 c4
      rw [show (((m + 1 : Nat)) : Int) = (m : Int) + 1 from by omega] at c2
      rw [show (((m + 2 : Nat)) : Int) = (m : Int) + 1 + 1 from by omega] at c3
      rw [show (((m + 3 : Nat)) : Int) = (m : Int) + 1 + 1 + 1 from by omega] at c4
      have HM := hide hm
      have hm1 : m ≤ 28000000 := by omega
      have e1 : ((m : Int) != (m : Int)) = false := by simp
      have e2 : ((m : Int) + 1 != (m : Int) + 1) = false := by simp
      have e3 : ((m : Int) + 1 + 1 != (m : Int) + 1 + 1) = false := by simp
      have e4 : ((m : Int) + 1 + 1 + 1 != (m : Int) + 1 + 1 + 1) = false := by simp
      clear hm sga hA
      go_wp2
      go_roundw
      case rel => exact ⟨k + 1, by omega, by go_num, by rw [show kk + (k + 1) * 4 = m + 4 from by have := unhide HM; omega]; go_num, hb⟩
      case measure => simp [intOf]; omega
    · have HK := hide (show k = n from by omega)
      clear sga hA
      go_wp2
      go_ret
      exact ⟨ret_int (by have := unhide HK; omega), hb⟩
end Go.Proofs.Ytccafdoehjdbeaa
