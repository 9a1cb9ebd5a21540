/- The walks of the laws' own helpers over lists of Entry: how much they hold, copies, whether two are alike, marks that are laid and held. -/
import Derived.Test.YtodlnhmlhpadbaaS4
import Derived.Test.YtodlnhmlhpadbaaS2
import Derived.Test.YtodlnhmlhpadbaaS13
import Derived.Deep.RegionHeld3
namespace Go.Proofs.Ytodlnhmlhpadbaa
open Go.RowKit
set_option linter.unusedVariables false
attribute [local go_sem ↓] Go.wp_at_zero Go.wp_at_succ

theorem infoEntry : (Try.prog.info? 42).map (fun i => (i.zero, i.size, i.bytes)) = some (some (.agg #[.int .i64 0, .int .i64 0, .int .i64 0, .int .i64 0]), 4, 32) := by kernel_rfl
set_option maxRecDepth 100000 in
set_option maxHeartbeats 1600000 in
theorem toEntry_any (x : QuadL) (w : World) :
    Calls Try.prog 22 #[quadV x] w fun e w' => e = .returned (quadV x) ∧ Below w.heap.size w w' := by
  obtain ⟨q1, q2, q3, q4⟩ := x
  unfold quadV
  go_enter Try.func22, Try.ntmps22
  go_wp2
  refine bodyPost_ret (v := .agg #[.int .i64 q1, .int .i64 q2, .int .i64 q3, .int .i64 q4]) (by simp [results, Try.results22, go_sem]) rfl ⟨rfl, (((Below.refl _ _).alloc (Nat.le_refl _) _).alloc (by simp) _).alloc (by simp; omega) _⟩
set_option maxRecDepth 100000 in
set_option maxHeartbeats 1600000 in
theorem eqEntry_any (x : QuadL) (w : World) :
    Calls Try.prog 61 #[quadV x, quadV x] w fun e w' => e = .returned (.bool true) ∧ Below w.heap.size w w' := by
  obtain ⟨q1, q2, q3, q4⟩ := x
  unfold quadV
  go_enter Try.func61, Try.ntmps61
  go_wp2
  go_ret
  exact ⟨rfl, ((Below.refl _ _).alloc (Nat.le_refl _) _).alloc (by simp) _⟩
set_option maxRecDepth 100000 in
set_option maxHeartbeats 1600000 in
theorem szEntryS_any (a : Option Addr) (cap : Nat) (es : List QuadL) (left : Int) (w : World) (h0 : 0 ≤ left) (h1 : left ≤ 1048576) (hn : es.length ≤ 9223372036854775807) :
    Calls Try.prog 68 #[.slice a es.length cap, .int .i64 left] w fun e w' => ∃ r : Int, e = .returned (.int .i64 r) ∧ r ≤ left ∧ (r = -1 ∨ (0 ≤ r ∧ es.length ≤ 1048576)) ∧ Below w.heap.size w w' := by
  by_cases hbig : left - (es.length : Int) < 0
  · go_enter Try.func68, Try.ntmps68
    go_wp2
    go_ret
    exact ⟨_, rfl, by omega, .inl rfl, Below.refl _ _⟩
  · have hbig1 : (0 : Int) ≤ left - (es.length : Int) := by omega
    go_enter Try.func68, Try.ntmps68
    go_wp2
    go_ret
    exact ⟨_, rfl, by omega, .inr ⟨hbig1, by omega⟩, Below.refl _ _⟩
set_option maxRecDepth 100000 in
set_option maxHeartbeats 1600000 in
theorem toEntryS_any (a : Option Addr) (cap : Nat) (es : List QuadL) (w : World) (hn : es.length ≤ 1048576) (hk : QuadsIn w w.heap.size a es) :
    Calls Try.prog 70 #[.slice a es.length cap] w fun e w' => ∃ g, e = .returned (.slice (some ⟨g, 0, none⟩) es.length es.length) ∧ w'.ownsRow w.heap.size 42 4 (.slice (some ⟨g, 0, none⟩) es.length es.length) es.length (quadsC es) ∧ Below w.heap.size w w' := by
  obtain ⟨i0, hi0, hz0, hz1, hz2⟩ := info_parts infoEntry
  have HK := hide hk
  clear hk
  go_enter Try.func70, Try.ntmps70
  go_wp2_with (at_make; refine wpList_make_full _ rfl _ _ 48 rfl w.heap.size 42 i0 _ 4 Try.underlying48 hi0 hz0 hz1 .i64 .i64 _ _ es.length rfl rfl rfl rfl (by rw [hz2]; omega) (by unfold maxLen; omega) (Nat.le_refl _) ?_)
  intro w0 hown0 hgrow0
  have hb0 : Below w.heap.size w w0 := (Below.refl _ _).grown hgrow0 (Nat.le_refl _) (fun k hk => by cases hk)
  have hown1 : w0.ownsRow w.heap.size 42 4 (.slice (some ⟨w.heap.size, 0, none⟩) es.length es.length) es.length (quadsC (partQ es 0)) := by
    rw [partQ_zero, ← made_quads]
    have e := made_many2 #[.int .i64 0, .int .i64 0, .int .i64 0, .int .i64 0] es.length
    rw [← show #[Value.int .i64 0, .int .i64 0, .int .i64 0, .int .i64 0].toList = [Value.int .i64 0, .int .i64 0, .int .i64 0, .int .i64 0] from rfl, ← e]
    exact hown0
  clear hown0 hgrow0
  go_wp2
  go_loopw [4] (fun i wr => ∃ k : Nat, k ≤ es.length ∧ i = .int .i64 k ∧ wr.ownsRow w.heap.size 42 4 (.slice (some ⟨w.heap.size, 0, none⟩) es.length es.length) es.length (quadsC (partQ es k)) ∧ Below w.heap.size w wr)
    (fun i _ => es.length - (intOf i).toNat)
  case atStart => exact ⟨0, Nat.zero_le _, rfl, hown1, hb0⟩
  case round =>
    obtain ⟨k, hk, rfl, hown, hb⟩ := hrel
    clear hown1 hb0
    have hsz := hb.size
    by_cases hlt : k < es.length
    · obtain ⟨b, off, rfl, hB, c1, c2, c3, c4⟩ := quadsIn_below (unhide HK) hb k hlt
      have hk0 : (0 : Int) ≤ (k : Int) := Int.natCast_nonneg _
      have hk1 : (k : Int) < (es.length : Int) := by omega
      have PS := hide (partQ_set es k hlt)
      generalize es[k] = p at c1 c2 c3 c4 PS
      go_wp2_with fail
      refine (toEntry_any p wr).mono ?_
      rintro e w1 ⟨rfl, hb1⟩
      have hown1 := ownsRow_below hown hb1
      have hb2 := hb.trans (hb1.mono hsz)
      have hkp : k < (partQ es k).length := by rw [partQ_length]; exact hlt
      obtain ⟨d1, d2, d3, d4⟩ := quadsC_cell hown1 hkp
      generalize (partQ es k)[k] = q at d1 d2 d3 d4
      have f1 := hown1.frozenAt (k * 4)
      have f2 := hown1.frozenAt (k * 4 + 1)
      have f3 := hown1.frozenAt (k * 4 + 2)
      have f4 := hown1.frozenAt (k * 4 + 3)
      have R := quadsC_stored hown1 p hkp
      rw [unhide PS] at R
      have R2 : Below w.heap.size w _ := hb2.grown R.2 hb2.size (fun k hk => by cases hk; exact Nat.le_refl _)
      have R1 := R.1
      clear R hown hb hb1 hown1 hb2 c1 c2 c3 c4 PS hkp
      unfold quadV
      go_wp2
      go_roundw
      case rel => exact ⟨k + 1, by omega, by go_num, R1, R2⟩
      case measure => simp [intOf]; omega
    · have HK2 := hide (partQ_all es k hlt)
      go_wp2
      go_ret
      exact ⟨_, rfl, by rw [unhide HK2] at hown; exact hown, hb⟩
set_option maxRecDepth 100000 in
set_option maxHeartbeats 3200000 in
theorem eqEntryS_any (va vb : Value) (ba bb : Nat) (es : List QuadL) (w : World) (hA : w.ownsRow ba 42 4 va es.length (quadsC es)) (hB : w.ownsRow bb 42 4 vb es.length (quadsC es)) (hl : es.length ≤ 2000000) :
    Calls Try.prog 30 #[va, vb] w fun e w' => e = .returned (.bool true) ∧ Below w.heap.size w w' := by
  obtain ⟨aa, ca, rfl, sga⟩ := ownsRow_shape hA
  obtain ⟨ab, cb, rfl, sgb⟩ := ownsRow_shape hB
  have hne : ((es.length : Int) != (es.length : Int)) = false := by simp
  go_enter Try.func30, Try.ntmps30
  go_wp2
  go_loopw [5] (fun i wr => ∃ k : Nat, k ≤ es.length ∧ i = .int .i64 k ∧ Below w.heap.size w wr)
    (fun i _ => es.length - (intOf i).toNat)
  case atStart => exact ⟨0, Nat.zero_le _, rfl, Below.refl _ _⟩
  case round =>
    obtain ⟨k, hk, rfl, hb⟩ := hrel
    have hsz := hb.size
    by_cases hlt : k < es.length
    · obtain ⟨ga, rfl⟩ := sga (by omega)
      obtain ⟨gb, rfl⟩ := sgb (by omega)
      have hk0 : (0 : Int) ≤ (k : Int) := Int.natCast_nonneg _
      have hk1 : (k : Int) < (es.length : Int) := by omega
      obtain ⟨c1, c2, c3, c4⟩ := quadsC_cell (ownsRow_below hA hb) hlt
      obtain ⟨d1, d2, d3, d4⟩ := quadsC_cell (ownsRow_below hB hb) hlt
      generalize es[k] = p at c1 c2 c3 c4 d1 d2 d3 d4
      clear hA hB sga sgb
      go_wp2_with fail
      go_region_held3 (fun w' => w'.cell? ⟨ga, k * 4, none⟩ = some (.int .i64 p.a) ∧ w'.cell? ⟨ga, k * 4 + 1, none⟩ = some (.int .i64 p.b) ∧ w'.cell? ⟨ga, k * 4 + 2, none⟩ = some (.int .i64 p.c) ∧ w'.cell? ⟨ga, k * 4 + 3, none⟩ = some (.int .i64 p.d) ∧ w'.cell? ⟨gb, k * 4, none⟩ = some (.int .i64 p.a) ∧ w'.cell? ⟨gb, k * 4 + 1, none⟩ = some (.int .i64 p.b) ∧ w'.cell? ⟨gb, k * 4 + 2, none⟩ = some (.int .i64 p.c) ∧ w'.cell? ⟨gb, k * 4 + 3, none⟩ = some (.int .i64 p.d))
        (first | go_keep | exact ⟨cell_later hb1 (by assumption), cell_later hb1 (by assumption), cell_later hb1 (by assumption), cell_later hb1 (by assumption), cell_later hb1 (by assumption), cell_later hb1 (by assumption), cell_later hb1 (by assumption), cell_later hb1 (by assumption)⟩)
        ((go_at_call 61; refine (eqEntry_any p _).mono ?_; rintro e w1 ⟨rfl, hb1⟩))
      all_goals
        have R : Below w.heap.size w w1 := (hb.drew).trans (hb1.mono hsz)
        clear hb1 hb c1 c2 c3 c4 d1 d2 d3 d4
        go_wp2
        go_roundw
        case rel => exact ⟨k + 1, by omega, by go_num, R⟩
        case measure => simp [intOf]; omega
    · clear sga sgb hA hB
      go_wp2
      go_ret
      exact ⟨rfl, hb⟩
set_option maxRecDepth 100000 in
set_option maxHeartbeats 3200000 in
theorem markEntryS_any (va : Value) (ba kk : Nat) (es : List QuadL) (w : World) (hA : w.ownsRow ba 42 4 va es.length (quadsC es)) (hl : es.length ≤ 2000000) (h1 : 1 ≤ kk) (h2 : kk ≤ 20000000) :
    Calls Try.prog 31 #[va, .int .i64 (kk : Int)] w fun e w' => e = .returned (.int .i64 ((kk + es.length * 4 : Nat) : Int)) ∧ w'.ownsRow ba 42 4 va es.length (quadsC (marksQ kk es.length)) ∧ w.grownBy w' va.ownBlock := by
  obtain ⟨aa, ca, rfl, sga⟩ := ownsRow_shape hA
  go_enter Try.func31, Try.ntmps31
  go_wp2
  go_loopw [1, 5] (fun q i wr => ∃ k : Nat, k ≤ es.length ∧ i = .int .i64 k ∧ q = .int .i64 ((kk + k * 4 : Nat) : Int) ∧ wr.ownsRow ba 42 4 (.slice aa es.length ca) es.length (quadsC (marksQ kk k ++ es.drop k)) ∧ w.grownBy wr (Value.slice aa es.length ca).ownBlock)
    (fun _ i _ => es.length - (intOf i).toNat)
  case atStart => exact ⟨0, Nat.zero_le _, rfl, rfl, hA, grown_refl _ _⟩
  case round =>
    obtain ⟨k, hk, rfl, rfl, hown, hg⟩ := hrel
    by_cases hlt : k < es.length
    · obtain ⟨ga, rfl⟩ := sga (by omega)
      have hk0 : (0 : Int) ≤ (k : Int) := Int.natCast_nonneg _
      have hk1 : (k : Int) < (es.length : Int) := by omega
      have hkp : k < (marksQ kk k ++ es.drop k).length := by rw [List.length_append, marksQ_length, List.length_drop]; omega
      obtain ⟨d1, d2, d3, d4⟩ := quadsC_cell hown hkp
      have f1 := hown.frozenAt (k * 4)
      have f2 := hown.frozenAt (k * 4 + 1)
      have f3 := hown.frozenAt (k * 4 + 2)
      have f4 := hown.frozenAt (k * 4 + 3)
      have R := quadsC_stored hown (markQ (kk + k * 4)) hkp
      rw [marksQ_set kk k es hlt] at R
      unfold markQ at R
      have R2 := grown_trans hg R.2
      have R1 := R.1
      generalize (marksQ kk k ++ es.drop k)[k] = q at d1 d2 d3 d4
      clear R hown hg hA sga hkp
      obtain ⟨m, hm⟩ : ∃ m : Nat, m = kk + k * 4 := ⟨_, rfl⟩
      rw [← hm] at R1 R2 ⊢
      simp only at R1 R2
      rw [show (((m + 1 : Nat)) : Int) = (m : Int) + 1 from by omega, show (((m + 2 : Nat)) : Int) = (m : Int) + 1 + 1 from by omega, show (((m + 3 : Nat)) : Int) = (m : Int) + 1 + 1 + 1 from by omega] at R1 R2
      have HM := hide hm
      have hm1 : m ≤ 28000000 := by omega
      clear hm
      go_wp2
      go_roundw
      case rel => exact ⟨k + 1, by omega, by go_num, by rw [show kk + (k + 1) * 4 = m + 4 from by have := unhide HM; omega]; go_num, R1, R2⟩
      case measure => simp [intOf]; omega
    · have hke : k = es.length := by omega
      have hown2 : wr.ownsRow ba 42 4 (.slice aa es.length ca) es.length (quadsC (marksQ kk es.length)) := by
        rw [hke] at hown; simpa using hown
      have HK := hide hke
      clear sga hA hown hke
      go_wp2
      go_ret
      exact ⟨ret_int (by have := unhide HK; omega), hown2, hg⟩
set_option maxRecDepth 100000 in
set_option maxHeartbeats 3200000 in
theorem heldEntryS_any (va : Value) (ba kk n : Nat) (w : World) (hA : w.ownsRow ba 42 4 va n (quadsC (marksQ kk n))) (hl : n ≤ 2000000) (h1 : 1 ≤ kk) (h2 : kk ≤ 20000000) :
    Calls Try.prog 32 #[va, .int .i64 (kk : Int)] w fun e w' => e = .returned (.int .i64 ((kk + n * 4 : Nat) : Int)) ∧ Below w.heap.size w w' := by
  obtain ⟨aa, ca, rfl, sga⟩ := ownsRow_shape hA
  go_enter Try.func32, Try.ntmps32
  go_wp2
  go_loopw [1, 5] (fun q i wr => ∃ k : Nat, k ≤ n ∧ i = .int .i64 k ∧ q = .int .i64 ((kk + k * 4 : Nat) : Int) ∧ Below w.heap.size w wr)
    (fun _ i _ => n - (intOf i).toNat)
  case atStart => exact ⟨0, Nat.zero_le _, rfl, rfl, Below.refl _ _⟩
  case round =>
    obtain ⟨k, hk, rfl, rfl, hb⟩ := hrel
    by_cases hlt : k < n
    · obtain ⟨ga, rfl⟩ := sga (by omega)
      have hk0 : (0 : Int) ≤ (k : Int) := Int.natCast_nonneg _
      have hk1 : (k : Int) < (n : Int) := by omega
      obtain ⟨c1, c2, c3, c4⟩ := quadsC_cell (ownsRow_below hA hb) (k := k) (by rw [marksQ_length]; exact hlt)
      rw [marksQ_get] at c1 c2 c3 c4
      unfold markQ at c1 c2 c3 c4
      obtain ⟨m, hm⟩ : ∃ m : Nat, m = kk + k * 4 := ⟨_, rfl⟩
      rw [← hm] at c1 c2 c3 c4 ⊢
      simp only at c1 c2 c3 c4
      rw [show (((m + 1 : Nat)) : Int) = (m : Int) + 1 from by omega] at c2
      rw [show (((m + 2 : Nat)) : Int) = (m : Int) + 1 + 1 from by omega] at c3
      rw [show (((m + 3 : Nat)) : Int) = (m : Int) + 1 + 1 + 1 from by omega] at c4
      have HM := hide hm
      have hm1 : m ≤ 28000000 := by omega
      have e1 : ((m : Int) != (m : Int)) = false := by simp
      have e2 : ((m : Int) + 1 != (m : Int) + 1) = false := by simp
      have e3 : ((m : Int) + 1 + 1 != (m : Int) + 1 + 1) = false := by simp
      have e4 : ((m : Int) + 1 + 1 + 1 != (m : Int) + 1 + 1 + 1) = false := by simp
      clear hm sga hA
      go_wp2
      go_roundw
      case rel => exact ⟨k + 1, by omega, by go_num, by rw [show kk + (k + 1) * 4 = m + 4 from by have := unhide HM; omega]; go_num, hb⟩
      case measure => simp [intOf]; omega
    · have HK := hide (show k = n from by omega)
      clear sga hA
      go_wp2
      go_ret
      exact ⟨ret_int (by have := unhide HK; omega), hb⟩
end Go.Proofs.Ytodlnhmlhpadbaa

/- What is asked of pieces of rows of Entry: whether they are the same, marks laid and found again. -/
namespace Go.Proofs.Ytodlnhmlhpadbaa
open Go.RowKit
set_option linter.unusedVariables false
set_option linter.unusedSimpArgs false
attribute [local go_sem ↓] Go.wp_at_zero Go.wp_at_succ

set_option maxRecDepth 100000 in
set_option maxHeartbeats 3200000 in
theorem eqEntryS_pc (va vb : Value) (ba bb : Nat) (es : List QuadL) (w : World) (hA : ownsPc w ba 42 4 va es.length (quadsC es)) (hB : ownsPc w bb 42 4 vb es.length (quadsC es)) (hl : es.length ≤ 2000000) :
    Calls Try.prog 30 #[va, vb] w fun e w' => e = .returned (.bool true) ∧ Below w.heap.size w w' := by
  obtain ⟨aa, ca, rfl, sga⟩ := ownsPc_shape hA
  obtain ⟨ab, cb, rfl, sgb⟩ := ownsPc_shape hB
  have hne : ((es.length : Int) != (es.length : Int)) = false := by simp
  go_enter Try.func30, Try.ntmps30
  go_wp2
  go_loopw [5] (fun i wr => ∃ k : Nat, k ≤ es.length ∧ i = .int .i64 k ∧ Below w.heap.size w wr)
    (fun i _ => es.length - (intOf i).toNat)
  case atStart => exact ⟨0, Nat.zero_le _, rfl, Below.refl _ _⟩
  case round =>
    obtain ⟨k, hk, rfl, hb⟩ := hrel
    have hsz := hb.size
    by_cases hlt : k < es.length
    · obtain ⟨ga, oa, rfl⟩ := sga (by omega)
      obtain ⟨gb, ob, rfl⟩ := sgb (by omega)
      have hk0 : (0 : Int) ≤ (k : Int) := Int.natCast_nonneg _
      have hk1 : (k : Int) < (es.length : Int) := by omega
      obtain ⟨c1, c2, c3, c4⟩ := pcCell (ownsPc_below hA hb) hlt
      obtain ⟨d1, d2, d3, d4⟩ := pcCell (ownsPc_below hB hb) hlt
      generalize es[k] = p at c1 c2 c3 c4 d1 d2 d3 d4
      clear hA hB sga sgb
      go_wp2_with fail
      go_region_held3 (fun w' => w'.cell? ⟨ga, oa + k * 4, none⟩ = some (.int .i64 p.a) ∧ w'.cell? ⟨ga, oa + k * 4 + 1, none⟩ = some (.int .i64 p.b) ∧ w'.cell? ⟨ga, oa + k * 4 + 2, none⟩ = some (.int .i64 p.c) ∧ w'.cell? ⟨ga, oa + k * 4 + 3, none⟩ = some (.int .i64 p.d) ∧ w'.cell? ⟨gb, ob + k * 4, none⟩ = some (.int .i64 p.a) ∧ w'.cell? ⟨gb, ob + k * 4 + 1, none⟩ = some (.int .i64 p.b) ∧ w'.cell? ⟨gb, ob + k * 4 + 2, none⟩ = some (.int .i64 p.c) ∧ w'.cell? ⟨gb, ob + k * 4 + 3, none⟩ = some (.int .i64 p.d))
        (first | go_keep | exact ⟨cell_later hb1 (by assumption), cell_later hb1 (by assumption), cell_later hb1 (by assumption), cell_later hb1 (by assumption), cell_later hb1 (by assumption), cell_later hb1 (by assumption), cell_later hb1 (by assumption), cell_later hb1 (by assumption)⟩)
        ((go_at_call 61; refine (eqEntry_any p _).mono ?_; rintro e w1 ⟨rfl, hb1⟩))
      all_goals
        have R : Below w.heap.size w w1 := (hb.drew).trans (hb1.mono hsz)
        clear hb1 hb c1 c2 c3 c4 d1 d2 d3 d4
        go_wp2
        go_roundw
        case rel => exact ⟨k + 1, by omega, by go_num, R⟩
        case measure => simp [intOf]; omega
    · clear sga sgb hA hB
      go_wp2
      go_ret
      exact ⟨rfl, hb⟩
set_option maxRecDepth 100000 in
set_option maxHeartbeats 3200000 in
theorem markEntryS_pc (va : Value) (ba kk : Nat) (es : List QuadL) (w : World) (hA : ownsPc w ba 42 4 va es.length (quadsC es)) (hl : es.length ≤ 2000000) (h1 : 1 ≤ kk) (h2 : kk ≤ 20000000) :
    Calls Try.prog 31 #[va, .int .i64 (kk : Int)] w fun e w' => e = .returned (.int .i64 ((kk + es.length * 4 : Nat) : Int)) ∧ ownsPc w' ba 42 4 va es.length (quadsC (marksQ kk es.length)) ∧ w.grownBy w' va.ownBlock := by
  obtain ⟨aa, ca, rfl, sga⟩ := ownsPc_shape hA
  go_enter Try.func31, Try.ntmps31
  go_wp2
  go_loopw [1, 5] (fun q i wr => ∃ k : Nat, k ≤ es.length ∧ i = .int .i64 k ∧ q = .int .i64 ((kk + k * 4 : Nat) : Int) ∧ ownsPc wr ba 42 4 (.slice aa es.length ca) es.length (quadsC (marksQ kk k ++ es.drop k)) ∧ w.grownBy wr (Value.slice aa es.length ca).ownBlock)
    (fun _ i _ => es.length - (intOf i).toNat)
  case atStart => exact ⟨0, Nat.zero_le _, rfl, rfl, hA, grown_refl _ _⟩
  case round =>
    obtain ⟨k, hk, rfl, rfl, hown, hg⟩ := hrel
    by_cases hlt : k < es.length
    · obtain ⟨ga, oa, rfl⟩ := sga (by omega)
      have hk0 : (0 : Int) ≤ (k : Int) := Int.natCast_nonneg _
      have hk1 : (k : Int) < (es.length : Int) := by omega
      have hkp : k < (marksQ kk k ++ es.drop k).length := by rw [List.length_append, marksQ_length, List.length_drop]; omega
      obtain ⟨d1, d2, d3, d4⟩ := pcCell hown hkp
      have f1 := ownsPc.frozenAt hown (oa + k * 4)
      have f2 := ownsPc.frozenAt hown (oa + k * 4 + 1)
      have f3 := ownsPc.frozenAt hown (oa + k * 4 + 2)
      have f4 := ownsPc.frozenAt hown (oa + k * 4 + 3)
      have R := pcStored hown (markQ (kk + k * 4)) hkp
      rw [marksQ_set kk k es hlt] at R
      unfold markQ at R
      have R2 := grown_trans hg R.2
      have R1 := R.1
      generalize (marksQ kk k ++ es.drop k)[k] = q at d1 d2 d3 d4
      clear R hown hg hA sga hkp
      obtain ⟨m, hm⟩ : ∃ m : Nat, m = kk + k * 4 := ⟨_, rfl⟩
      rw [← hm] at R1 R2 ⊢
      simp only at R1 R2
      rw [show (((m + 1 : Nat)) : Int) = (m : Int) + 1 from by omega, show (((m + 2 : Nat)) : Int) = (m : Int) + 1 + 1 from by omega, show (((m + 3 : Nat)) : Int) = (m : Int) + 1 + 1 + 1 from by omega] at R1 R2
      have HM := hide hm
      have hm1 : m ≤ 28000000 := by omega
      clear hm
      go_wp2
      go_roundw
      case rel => exact ⟨k + 1, by omega, by go_num, by rw [show kk + (k + 1) * 4 = m + 4 from by have := unhide HM; omega]; go_num, R1, R2⟩
      case measure => simp [intOf]; omega
    · have hke : k = es.length := by omega
      have hown2 : ownsPc wr ba 42 4 (.slice aa es.length ca) es.length (quadsC (marksQ kk es.length)) := by
        rw [hke] at hown; simpa using hown
      have HK := hide hke
      clear sga hA hown hke
      go_wp2
      go_ret
      exact ⟨ret_int (by have := unhide HK; omega), hown2, hg⟩
set_option maxRecDepth 100000 in
set_option maxHeartbeats 3200000 in
theorem heldEntryS_pc (va : Value) (ba kk n : Nat) (w : World) (hA : ownsPc w ba 42 4 va n (quadsC (marksQ kk n))) (hl : n ≤ 2000000) (h1 : 1 ≤ kk) (h2 : kk ≤ 20000000) :
    Calls Try.prog 32 #[va, .int .i64 (kk : Int)] w fun e w' => e = .returned (.int .i64 ((kk + n * 4 : Nat) : Int)) ∧ Below w.heap.size w w' := by
  obtain ⟨aa, ca, rfl, sga⟩ := ownsPc_shape hA
  go_enter Try.func32, Try.ntmps32
  go_wp2
  go_loopw [1, 5] (fun q i wr => ∃ k : Nat, k ≤ n ∧ i = .int .i64 k ∧ q = .int .i64 ((kk + k * 4 : Nat) : Int) ∧ Below w.heap.size w wr)
    (fun _ i _ => n - (intOf i).toNat)
  case atStart => exact ⟨0, Nat.zero_le _, rfl, rfl, Below.refl _ _⟩
  case round =>
    obtain ⟨k, hk, rfl, rfl, hb⟩ := hrel
    by_cases hlt : k < n
    · obtain ⟨ga, oa, rfl⟩ := sga (by omega)
      have hk0 : (0 : Int) ≤ (k : Int) := Int.natCast_nonneg _
      have hk1 : (k : Int) < (n : Int) := by omega
      obtain ⟨c1, c2, c3, c4⟩ := pcCell (ownsPc_below hA hb) (k := k) (by rw [marksQ_length]; exact hlt)
      rw [marksQ_get] at c1 c2 c3 c4
      unfold markQ at c1 c2 c3 c4
      obtain ⟨m, hm⟩ : ∃ m : Nat, m = kk + k * 4 := ⟨_, rfl⟩
      rw [← hm] at c1 c2 c3 c4 ⊢
      simp only at c1 c2 c3 c4
      rw [show (((m + 1 : Nat)) : Int) = (m : Int) + 1 from by omega] at c2
      rw [show (((m + 2 : Nat)) : Int) = (m : Int) + 1 + 1 from by omega] at c3
      rw [show (((m + 3 : Nat)) : Int) = (m : Int) + 1 + 1 + 1 from by omega] at c4
      have HM := hide hm
      have hm1 : m ≤ 28000000 := by omega
      have e1 : ((m : Int) != (m : Int)) = false := by simp
      have e2 : ((m : Int) + 1 != (m : Int) + 1) = false := by simp
      have e3 : ((m : Int) + 1 + 1 != (m : Int) + 1 + 1) = false := by simp
      have e4 : ((m : Int) + 1 + 1 + 1 != (m : Int) + 1 + 1 + 1) = false := by simp
      clear hm sga hA
      go_wp2
      go_roundw
      case rel => exact ⟨k + 1, by omega, by go_num, by rw [show kk + (k + 1) * 4 = m + 4 from by have := unhide HM; omega]; go_num, hb⟩
      case measure => simp [intOf]; omega
    · have HK := hide (show k = n from by omega)
      clear sga hA
      go_wp2
      go_ret
      exact ⟨ret_int (by have := unhide HK; omega), hb⟩
end Go.Proofs.Ytodlnhmlhpadbaa
