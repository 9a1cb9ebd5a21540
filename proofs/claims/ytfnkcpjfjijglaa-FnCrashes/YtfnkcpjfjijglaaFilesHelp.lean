/- The walks of the laws' own helpers over rows of files: equal rows, marks that are laid and held. -/
import Derived.Test.YtfnkcpjfjijglaaFilesIn
import Derived.Test.YtfnkcpjfjijglaaMarkText
namespace Go.Proofs.Ytfnkcpjfjijglaa
open Go.RowKit
set_option linter.unusedVariables false
attribute [local go_sem ↓] Go.wp_at_zero Go.wp_at_succ

theorem ownsRow_shape3 {w : World} {base size n : Nat} {e : TypeId} {v : Value} {xs : List Value} (h : w.ownsRow base e size v n xs) : ∃ a cap, v = .slice a n cap ∧ (0 < n → ∃ g, a = some ⟨g, 0, none⟩) := ownsRow_shape h
set_option maxRecDepth 100000 in
set_option maxHeartbeats 1600000 in
theorem eqFiles_any (va vb : Value) (ba bb : Nat) (fs : List FileL) (w : World) (hA : w.ownsRow ba 34 3 va fs.length (filesC fs)) (hB : w.ownsRow bb 34 3 vb fs.length (filesC fs)) (hl : fs.length ≤ 2000000) :
    Calls Try.prog 39 #[va, vb] w fun e w' => e = .returned (.bool true) ∧ Below w.heap.size w w' := by
  obtain ⟨aa, ca, rfl, sga⟩ := ownsRow_shape hA
  obtain ⟨ab, cb, rfl, sgb⟩ := ownsRow_shape hB
  have hne : ((fs.length : Int) != (fs.length : Int)) = false := by simp
  go_enter Try.func39, Try.ntmps39
  go_wp2
  go_loopw [5] (fun i wr => ∃ k : Nat, k ≤ fs.length ∧ i = .int .i64 k ∧ Below w.heap.size w wr)
    (fun i _ => fs.length - (intOf i).toNat)
  case atStart => exact ⟨0, Nat.zero_le _, rfl, Below.refl _ _⟩
  case round =>
    obtain ⟨k, hk, rfl, hb⟩ := hrel
    have hsz := hb.size
    by_cases hlt : k < fs.length
    · obtain ⟨ga, rfl⟩ := sga (by omega)
      obtain ⟨gb, rfl⟩ := sgb (by omega)
      have hk0 : (0 : Int) ≤ (k : Int) := Int.natCast_nonneg _
      have hk1 : (k : Int) < (fs.length : Int) := by omega
      obtain ⟨c1, c2, c3⟩ := filesC_cell (ownsRow_below hA hb) hlt
      obtain ⟨d1, d2, d3⟩ := filesC_cell (ownsRow_below hB hb) hlt
      generalize fs[k] = p at c1 c2 c3 d1 d2 d3
      clear hA hB sga sgb
      go_wp2_with fail
      go_region_held3 (fun w' => w'.cell? ⟨ga, k * 3, none⟩ = some (.string ⟨p.name.toArray⟩) ∧ w'.cell? ⟨ga, k * 3 + 1, none⟩ = some (.string ⟨p.data.toArray⟩) ∧ w'.cell? ⟨ga, k * 3 + 2, none⟩ = some (.int .i64 p.safe) ∧ w'.cell? ⟨gb, k * 3, none⟩ = some (.string ⟨p.name.toArray⟩) ∧ w'.cell? ⟨gb, k * 3 + 1, none⟩ = some (.string ⟨p.data.toArray⟩) ∧ w'.cell? ⟨gb, k * 3 + 2, none⟩ = some (.int .i64 p.safe))
        (first | go_keep | exact ⟨cell_later hb1 (by assumption), cell_later hb1 (by assumption), cell_later hb1 (by assumption), cell_later hb1 (by assumption), cell_later hb1 (by assumption), cell_later hb1 (by assumption)⟩)
        ((go_at_call 57; refine (eqFile_any p _).mono ?_; rintro e w1 ⟨rfl, hb1⟩))
      all_goals
        have R : Below w.heap.size w w1 := (hb.drew).trans (hb1.mono hsz)
        clear hb1 hb c1 c2 c3 d1 d2 d3
        go_wp2
        go_roundw
        case rel => exact ⟨k + 1, by omega, by go_num, R⟩
        case measure => simp [intOf]; omega
    · clear sga sgb hA hB
      go_wp2
      go_ret
      exact ⟨rfl, hb⟩
/-- The files that a row holds when it is marked from kk on. -/
def markF (kk : Nat) : FileL := ⟨markL kk, markL (kk + 1), ((kk + 2 : Nat) : Int)⟩
def marksF (kk n : Nat) : List FileL := (List.range n).map fun t => markF (kk + t * 3)
theorem marksF_length (kk n : Nat) : (marksF kk n).length = n := by simp [marksF]
theorem marksF_get (kk n k : Nat) (h : k < (marksF kk n).length) : (marksF kk n)[k] = markF (kk + k * 3) := by simp [marksF]
theorem marksF_succ (kk n : Nat) : marksF kk (n + 1) = marksF kk n ++ [markF (kk + n * 3)] := by simp [marksF, List.range_succ]
theorem marksF_set (kk j : Nat) (fs : List FileL) (hj : j < fs.length) : (marksF kk j ++ fs.drop j).set j (markF (kk + j * 3)) = marksF kk (j + 1) ++ fs.drop (j + 1) := by
  rw [List.set_append_right _ _ (by rw [marksF_length]; exact Nat.le_refl _), marksF_length, Nat.sub_self, List.drop_eq_getElem_cons hj, List.set_cons_zero, marksF_succ, List.append_assoc]
  rfl
set_option maxRecDepth 100000 in
set_option maxHeartbeats 1600000 in
theorem markFiles_any (va : Value) (ba kk : Nat) (fs : List FileL) (w : World) (hA : w.ownsRow ba 34 3 va fs.length (filesC fs)) (hl : fs.length ≤ 2000000) (h1 : 1 ≤ kk) (h2 : kk ≤ 100000) :
    Calls Try.prog 40 #[va, .int .i64 (kk : Int)] w fun e w' => e = .returned (.int .i64 ((kk + fs.length * 3 : Nat) : Int)) ∧ w'.ownsRow ba 34 3 va fs.length (filesC (marksF kk fs.length)) ∧ w.grownBy w' va.ownBlock := by
  obtain ⟨aa, ca, rfl, sga⟩ := ownsRow_shape hA
  go_enter Try.func40, Try.ntmps40
  go_wp2
  go_loopw [1, 5] (fun q i wr => ∃ k : Nat, k ≤ fs.length ∧ i = .int .i64 k ∧ q = .int .i64 ((kk + k * 3 : Nat) : Int) ∧ wr.ownsRow ba 34 3 (.slice aa fs.length ca) fs.length (filesC (marksF kk k ++ fs.drop k)) ∧ w.grownBy wr (Value.slice aa fs.length ca).ownBlock)
    (fun _ i _ => fs.length - (intOf i).toNat)
  case atStart => exact ⟨0, Nat.zero_le _, rfl, rfl, hA, grown_refl _ _⟩
  case round =>
    obtain ⟨k, hk, rfl, rfl, hown, hg⟩ := hrel
    by_cases hlt : k < fs.length
    · obtain ⟨ga, rfl⟩ := sga (by omega)
      have hk0 : (0 : Int) ≤ (k : Int) := Int.natCast_nonneg _
      have hk1 : (k : Int) < (fs.length : Int) := by omega
      have hkp : k < (marksF kk k ++ fs.drop k).length := by rw [List.length_append, marksF_length, List.length_drop]; omega
      have PS := hide (marksF_set kk k fs hlt)
      obtain ⟨m, hm⟩ : ∃ m, m = kk + k * 3 := ⟨_, rfl⟩
      rw [← hm] at PS ⊢
      have HM := hide hm
      have hm1 : 1 ≤ m := by omega
      have hm2 : m ≤ 7000000 := by omega
      clear hm
      have C1 := fun W => hide (markText_any m W (by omega) (by omega))
      have C2 := fun W => hide (markText_any (m + 1) W (by omega) (by omega))
      rw [show (((m + 1 : Nat)) : Int) = (m : Int) + 1 from by omega] at C2
      have hsz0 := hg.size
      clear hA sga
      go_wp2_with fail
      refine (unhide (C1 _)).mono ?_
      rintro e w1 ⟨rfl, hb1⟩
      have hown1 := ownsRow_below hown hb1
      have hg1 := grown_trans hg (grown_of_below hb1)
      obtain ⟨L, hL⟩ : ∃ L, L = marksF kk k ++ fs.drop k := ⟨_, rfl⟩
      rw [← hL] at hown1 hkp PS
      clear hL hown hg hb1
      obtain ⟨d1, -, -⟩ := filesC_cell hown1 hkp
      have f1 := hown1.frozenAt (k * 3)
      have S1 := hown1.stored (k * 3) (.string ⟨(markL m).toArray⟩)
      rw [set_name L k (markL m) hkp] at S1
      have hg2 := grown_trans hg1 S1.2
      have hown2 := S1.1
      generalize L[k] = q at d1 S1 hown2
      clear hown1 hg1 S1
      go_wp2_with fail
      refine (unhide (C2 _)).mono ?_
      rintro e w2 ⟨rfl, hb2⟩
      have hown3 := ownsRow_below hown2 hb2
      have hg3 := grown_trans hg2 (grown_of_below hb2)
      have hk2 : k < (L.set k ⟨markL m, q.data, q.safe⟩).length := by simpa using hkp
      obtain ⟨-, d2, d3⟩ := filesC_cell hown3 hk2
      have f2 := hown3.frozenAt (k * 3 + 1)
      have f3 := hown3.frozenAt (k * 3 + 2)
      have S2 := hown3.stored (k * 3 + 1) (.string ⟨(markL (m + 1)).toArray⟩)
      rw [set_data _ k (markL (m + 1)) hk2] at S2
      have hk3 := hk2
      rw [← List.length_set (i := k) (a := (⟨((L.set k ⟨markL m, q.data, q.safe⟩)[k]).name, markL (m + 1), ((L.set k ⟨markL m, q.data, q.safe⟩)[k]).safe⟩ : FileL))] at hk3
      have S3 := S2.1.stored (k * 3 + 2) (.int .i64 ((m + 2 : Nat) : Int))
      rw [set_safe _ k _ hk3] at S3
      have hg4 := grown_trans (grown_trans hg3 S2.2) S3.2
      have hown4 := S3.1
      simp only [List.getElem_set_self, List.set_set] at hown4 d2 d3
      have hown5 := hown4
      rw [show L.set k ⟨markL m, markL (m + 1), ((m + 2 : Nat) : Int)⟩ = marksF kk (k + 1) ++ fs.drop (k + 1) from unhide PS] at hown5
      clear hown2 hg2 hb2 hown3 hg3 S2 S3 hown4 hk2 hk3
      rw [show (((m + 2 : Nat)) : Int) = (m : Int) + 1 + 1 from by omega] at hown5 hg4
      go_wp2
      go_roundw
      case rel => exact ⟨k + 1, by omega, by go_num, by rw [show kk + (k + 1) * 3 = m + 3 from by have := unhide HM; omega]; go_num, hown5, hg4⟩
      case measure => simp [intOf]; omega
    · have hke : k = fs.length := by omega
      have hown2 : wr.ownsRow ba 34 3 (.slice aa fs.length ca) fs.length (filesC (marksF kk fs.length)) := by
        rw [hke] at hown; simpa using hown
      have HK := hide hke
      clear sga hA hown hke
      go_wp2
      go_ret
      exact ⟨ret_int (by have := unhide HK; omega), hown2, hg⟩
set_option maxRecDepth 100000 in
set_option maxHeartbeats 1600000 in
theorem heldFiles_any (va : Value) (ba kk n : Nat) (w : World) (hA : w.ownsRow ba 34 3 va n (filesC (marksF kk n))) (hl : n ≤ 2000000) (h1 : 1 ≤ kk) (h2 : kk ≤ 100000) :
    Calls Try.prog 41 #[va, .int .i64 (kk : Int)] w fun e w' => e = .returned (.int .i64 ((kk + n * 3 : Nat) : Int)) ∧ Below w.heap.size w w' := by
  obtain ⟨aa, ca, rfl, sga⟩ := ownsRow_shape hA
  go_enter Try.func41, Try.ntmps41
  go_wp2
  go_loopw [1, 5] (fun q i wr => ∃ k : Nat, k ≤ n ∧ i = .int .i64 k ∧ q = .int .i64 ((kk + k * 3 : Nat) : Int) ∧ Below w.heap.size w wr)
    (fun _ i _ => n - (intOf i).toNat)
  case atStart => exact ⟨0, Nat.zero_le _, rfl, rfl, Below.refl _ _⟩
  case round =>
    obtain ⟨k, hk, rfl, rfl, hb⟩ := hrel
    by_cases hlt : k < n
    · obtain ⟨ga, rfl⟩ := sga (by omega)
      have hk0 : (0 : Int) ≤ (k : Int) := Int.natCast_nonneg _
      have hk1 : (k : Int) < (n : Int) := by omega
      obtain ⟨c1, c2, c3⟩ := filesC_cell (ownsRow_below hA hb) (k := k) (by rw [marksF_length]; exact hlt)
      rw [marksF_get] at c1 c2 c3
      obtain ⟨m, hm⟩ : ∃ m, m = kk + k * 3 := ⟨_, rfl⟩
      rw [← hm] at c1 c2 c3 ⊢
      unfold markF at c1 c2 c3
      simp only at c1 c2 c3
      have HM := hide hm
      have hm1 : 1 ≤ m := by omega
      have hm2 : m ≤ 7000000 := by omega
      clear hm
      have C1 := fun W => hide (markText_any m W (by omega) (by omega))
      have C2 := fun W => hide (markText_any (m + 1) W (by omega) (by omega))
      rw [show (((m + 1 : Nat)) : Int) = (m : Int) + 1 from by omega] at C2
      rw [show (((m + 2 : Nat)) : Int) = (m : Int) + 1 + 1 from by omega] at c3
      have hbs := hb.size
      clear hA sga
      go_wp2_with fail
      go_region_held3 (fun w' => w'.cell? ⟨ga, k * 3, none⟩ = some (.string ⟨(markL m).toArray⟩)) (first | go_keep | exact cell_later hb1 (by assumption))
        ((go_at_call 58; refine (unhide (C1 _)).mono ?_; rintro e w1 ⟨rfl, hb1⟩))
      all_goals
        have R1 : Below w.heap.size w w1 := (hb.drew).trans (hb1.mono hbs)
        have d2 : w1.cell? ⟨ga, k * 3 + 1, none⟩ = some (.string ⟨(markL (m + 1)).toArray⟩) := cell_later hb1 c2
        have d3 : w1.cell? ⟨ga, k * 3 + 2, none⟩ = some (.int .i64 ((m : Int) + 1 + 1)) := cell_later hb1 c3
        have hbs1 := R1.size
        clear hb1 hb c1 c2 c3
        go_wp2_with fail
        go_region_held3 (fun w' => w'.cell? ⟨ga, k * 3 + 1, none⟩ = some (.string ⟨(markL (m + 1)).toArray⟩)) (first | go_keep | exact cell_later hb2 (by assumption))
          ((go_at_call 58; refine (unhide (C2 _)).mono ?_; rintro e w2 ⟨rfl, hb2⟩))
        all_goals
          have R2 : Below w.heap.size w w2 := (R1.drew).trans (hb2.mono hbs1)
          have e3 : w2.cell? ⟨ga, k * 3 + 2, none⟩ = some (.int .i64 ((m : Int) + 1 + 1)) := cell_later hb2 d3
          clear hb2 R1 d2 d3
          go_wp2
          go_roundw
          case rel => exact ⟨k + 1, by omega, by go_num, by rw [show kk + (k + 1) * 3 = m + 3 from by have := unhide HM; omega]; go_num, R2⟩
          case measure => simp [intOf]; omega
    · have HK := hide (show k = n from by omega)
      clear sga hA
      go_wp2
      go_ret
      exact ⟨ret_int (by have := unhide HK; omega), hb⟩
end Go.Proofs.Ytfnkcpjfjijglaa
