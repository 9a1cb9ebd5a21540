/- The walks of the law's own helpers over rows of strings: equal rows, marks that are laid and held. -/
import Derived.Test.YtoindecmckikcaaInfo
namespace Go.Proofs.Ytoindecmckikcaa
open Go.RowKit
attribute [local go_sem ↓] Go.wp_at_zero Go.wp_at_succ

set_option maxRecDepth 100000 in
set_option maxHeartbeats 1600000 in
theorem markText_any (n : Nat) (w : World) (h1 : 1 ≤ n) (h2 : n ≤ 1000000) :
    Calls Try.prog 43 #[.int .i64 (n : Int)] w fun e w' => e = .returned (.string ⟨(markL n).toArray⟩) ∧ Below w.heap.size w w' := by
  have hd : decide (n = 0) = false := by simp; omega
  go_enter Try.func43, Try.ntmps43
  go_wp2
  go_loopw [0, 3] (fun k v wr => ∃ (m : Nat) (out : List UInt8), k = .int .i64 m ∧ v = .string ⟨out.toArray⟩ ∧ m ≤ n ∧ Below w.heap.size w wr ∧ out.length ≤ n ∧ Hid (decL n = decL m ++ out))
    (fun k _ _ => (intOf k).toNat)
  case atStart => exact ⟨n, [], rfl, rfl, Nat.le_refl _, Below.refl _ _, Nat.zero_le _, hide (by simp)⟩
  case round =>
    obtain ⟨m, out, rfl, rfl, hm, hb, hlen, hdec⟩ := hrel
    have hsz := hb.size
    by_cases hpos : 0 < m
    · have hcv := conv_lit1 (P := Try.prog) (src := 22) (dst := 9) (e := 5) wr (48 + (m : Int) % 10) (by omega) (by omega) Try.underlying22 Try.underlying5 Try.underlying9
      rw [digB_of m] at hcv
      have hstep : Hid (decL n = decL (m / 10) ++ (digB m :: out)) := by
        have := unhide hdec; rw [decL_pos m hpos] at this; exact hide (by rw [this]; simp)
      have hl2 : out.length + 1 ≤ n := by
        have h3 := congrArg List.length (unhide hdec)
        have h4 := decL_length n n (Nat.le_refl _)
        rw [decL_pos m hpos] at h3
        simp at h3; omega
      clear hdec
      go_wp2
      go_roundw
      case rel => exact ⟨m / 10, digB m :: out, by go_num, congrArg Value.string (append_mk [_] out), by omega, hb.alloc hsz _, by simpa using hl2, hstep⟩
      case measure => simp [intOf]; omega
    · have hm0 : m = 0 := by omega
      have hfin : Hid (markL n = 109 :: out) := by
        have := unhide hdec; rw [hm0, decL_zero] at this; unfold markL; rw [if_neg (by omega), this]; exact hide rfl
      clear hm0 hdec
      go_wp2
      go_ret
      exact ⟨(congrArg (fun x => Ending.returned (Value.string x)) (append_mk [109] out)).trans (by rw [unhide hfin]; rfl), hb⟩
set_option maxRecDepth 100000 in
set_option maxHeartbeats 1600000 in
theorem eqStrs_any (va vb : Value) (ba bb : Nat) (ps : List (List UInt8)) (w : World) (hA : w.ownsRow ba 9 1 va ps.length (strs ps)) (hB : w.ownsRow bb 9 1 vb ps.length (strs ps)) (hl : ps.length ≤ 2000000) :
    Calls Try.prog 19 #[va, vb] w fun e w' => e = .returned (.bool true) ∧ Below w.heap.size w w' := by
  obtain ⟨aa, ca, rfl, sga⟩ := ownsRow_shape hA
  obtain ⟨ab, cb, rfl, sgb⟩ := ownsRow_shape hB
  have hne : ((ps.length : Int) != (ps.length : Int)) = false := by simp
  go_enter Try.func19, Try.ntmps19
  go_wp2
  go_loopw [5] (fun i wr => ∃ k : Nat, k ≤ ps.length ∧ i = .int .i64 k ∧ Below w.heap.size w wr)
    (fun i _ => ps.length - (intOf i).toNat)
  case atStart => exact ⟨0, Nat.zero_le _, rfl, Below.refl _ _⟩
  case round =>
    obtain ⟨k, hk, rfl, hb⟩ := hrel
    by_cases hlt : k < ps.length
    · obtain ⟨ga, rfl⟩ := sga (by omega)
      obtain ⟨gb, rfl⟩ := sgb (by omega)
      have hk0 : (0 : Int) ≤ (k : Int) := Int.natCast_nonneg _
      have hk1 : (k : Int) < (ps.length : Int) := by omega
      have c1 := ownsRow_cell (ownsRow_below hA hb) rfl hlt
      have c2 := ownsRow_cell (ownsRow_below hB hb) rfl hlt
      generalize ps[k] = p at c1 c2
      clear hA hB sga sgb
      go_wp2_with fail
      go_region_held3 (fun w' => w'.cell? ⟨ga, k, none⟩ = some (.string ⟨p.toArray⟩) ∧ w'.cell? ⟨gb, k, none⟩ = some (.string ⟨p.toArray⟩)) (go_keep) (fail)
      all_goals
        go_wp2
        go_roundw
        case rel => exact ⟨k + 1, by omega, by go_num, hb.drew⟩
        case measure => simp [intOf]; omega
    · clear sga sgb hA hB
      go_wp2
      go_ret
      exact ⟨rfl, hb⟩
set_option maxRecDepth 100000 in
set_option maxHeartbeats 1600000 in
theorem markStrs_any (va : Value) (ba kk : Nat) (ps : List (List UInt8)) (w : World) (hA : w.ownsRow ba 9 1 va ps.length (strs ps)) (hl : ps.length ≤ 100000) (h1 : 1 ≤ kk) (h2 : kk ≤ 100000) :
    Calls Try.prog 20 #[va, .int .i64 (kk : Int)] w fun e w' => e = .returned (.int .i64 ((kk + ps.length : Nat) : Int)) ∧ w'.ownsRow ba 9 1 va ps.length (strs (marks kk ps.length)) ∧ w.grownBy w' va.ownBlock := by
  obtain ⟨aa, ca, rfl, sga⟩ := ownsRow_shape hA
  go_enter Try.func20, Try.ntmps20
  go_wp2
  go_loopw [1, 5] (fun q i wr => ∃ k : Nat, k ≤ ps.length ∧ i = .int .i64 k ∧ q = .int .i64 ((kk + k : Nat) : Int) ∧ wr.ownsRow ba 9 1 (.slice aa ps.length ca) ps.length (strs (marks kk k ++ ps.drop k)) ∧ w.grownBy wr (Value.slice aa ps.length ca).ownBlock)
    (fun _ i _ => ps.length - (intOf i).toNat)
  case atStart => exact ⟨0, Nat.zero_le _, rfl, rfl, hA, grown_refl _ _⟩
  case round =>
    obtain ⟨k, hk, rfl, rfl, hown, hg⟩ := hrel
    by_cases hlt : k < ps.length
    · obtain ⟨ga, rfl⟩ := sga (by omega)
      have hk0 : (0 : Int) ≤ (k : Int) := Int.natCast_nonneg _
      have hk1 : (k : Int) < (ps.length : Int) := by omega
      clear hA sga
      go_wp2_with fail
      refine (markText_any (kk + k) _ (by omega) (by omega)).mono ?_
      rintro e w1 ⟨rfl, hb1⟩
      have hown1 := ownsRow_below hown hb1
      obtain ⟨old, c1⟩ : ∃ old, w1.cell? ⟨ga, k, none⟩ = some (.string old) := ⟨_, ownsRow_cell hown1 (by simp [marks_length]; omega) (k := k) (by simp [marks_length]; omega)⟩
      have f1 := hown1.frozenAt k
      have R := hown1.stored k (.string ⟨(markL (kk + k)).toArray⟩)
      have R1 : (w1.setCell ⟨ga, k, none⟩ (.string ⟨(markL (kk + k)).toArray⟩)).ownsRow ba 9 1 (.slice (some ⟨ga, 0, none⟩) ps.length ca) ps.length (strs (marks kk (k + 1) ++ ps.drop (k + 1))) := by rw [← marks_set kk k ps hlt]; exact R.1
      have R2 : w.grownBy _ (some ga) := grown_trans (grown_trans hg (grown_of_below hb1)) R.2
      clear R hown1 hg hown hb1
      go_wp2
      go_roundw
      case rel => exact ⟨k + 1, by omega, by go_num, by go_num, R1, R2⟩
      case measure => simp [intOf]; omega
    · have hke : k = ps.length := by omega
      have hown2 : wr.ownsRow ba 9 1 (.slice aa ps.length ca) ps.length (strs (marks kk ps.length)) := by
        rw [hke] at hown; simpa using hown
      have HK := hide hke
      clear sga hA hown hke
      go_wp2
      go_ret
      exact ⟨ret_int (by have := unhide HK; omega), hown2, hg⟩
set_option maxRecDepth 100000 in
set_option maxHeartbeats 1600000 in
theorem heldStrs_any (va : Value) (ba kk n : Nat) (w : World) (hA : w.ownsRow ba 9 1 va n (strs (marks kk n))) (hl : n ≤ 100000) (h1 : 1 ≤ kk) (h2 : kk ≤ 100000) :
    Calls Try.prog 21 #[va, .int .i64 (kk : Int)] w fun e w' => e = .returned (.int .i64 ((kk + n : Nat) : Int)) ∧ Below w.heap.size w w' := by
  obtain ⟨aa, ca, rfl, sga⟩ := ownsRow_shape hA
  go_enter Try.func21, Try.ntmps21
  go_wp2
  go_loopw [1, 5] (fun q i wr => ∃ k : Nat, k ≤ n ∧ i = .int .i64 k ∧ q = .int .i64 ((kk + k : Nat) : Int) ∧ Below w.heap.size w wr)
    (fun _ i _ => n - (intOf i).toNat)
  case atStart => exact ⟨0, Nat.zero_le _, rfl, rfl, Below.refl _ _⟩
  case round =>
    obtain ⟨k, hk, rfl, rfl, hb⟩ := hrel
    by_cases hlt : k < n
    · obtain ⟨ga, rfl⟩ := sga (by omega)
      have hk0 : (0 : Int) ≤ (k : Int) := Int.natCast_nonneg _
      have hk1 : (k : Int) < (n : Int) := by omega
      have c1 := ownsRow_cell (ownsRow_below hA hb) (by rw [marks_length]) (k := k) (by rw [marks_length]; exact hlt)
      rw [marks_get] at c1
      have hbs := hb.size
      clear hA sga
      go_wp2_with fail
      go_region_held3 (fun w' => w'.cell? ⟨ga, k, none⟩ = some (.string ⟨(markL (kk + k)).toArray⟩)) (first | go_keep | exact cell_later hb1 (by assumption))
        ((go_at_call 43; rw [show (kk : Int) + (k : Int) = ((kk + k : Nat) : Int) from by omega]; refine (markText_any (kk + k) _ ?_ ?_).mono ?_; omega; omega; rintro e w1 ⟨rfl, hb1⟩))
      all_goals
        have R : Below w.heap.size w w1 := (hb.drew).trans (hb1.mono hbs)
        clear hb1 hb
        go_wp2
        go_roundw
        case rel => exact ⟨k + 1, by omega, by go_num, by go_num, R⟩
        case measure => simp [intOf]; omega
    · have HK := hide (show k = n from by omega)
      clear sga hA
      go_wp2
      go_ret
      exact ⟨ret_int (by have := unhide HK; omega), hb⟩
end Go.Proofs.Ytoindecmckikcaa
