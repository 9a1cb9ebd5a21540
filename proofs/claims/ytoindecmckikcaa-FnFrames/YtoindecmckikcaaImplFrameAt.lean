/- The walk of FrameAt, the program's own, at every text and every place: it answers as the specification's does. -/
import Derived.Test.YtoindecmckikcaaSpecFrameAt
import Derived.Test.YtoindecmckikcaaImplVarAt
import Derived.Test.YtoindecmckikcaaShelf
namespace Go.Proofs.Ytoindecmckikcaa
open Go.RowKit
set_option linter.unusedVariables false

theorem fourR_neg (l : List UInt8) : fourR l (-1) = (0, false) := by unfold fourR; rw [if_neg (by omega)]
set_option maxRecDepth 100000 in
set_option maxHeartbeats 1600000 in
theorem implClone_any (s : ByteArray) (w : World) (h : s.size ≤ 1048576) :
    Calls Try.prog 37 #[.string s] w fun e w' => e = .returned (.string s) ∧ Below w.heap.size w w' := by
  go_enter Try.func37, Try.ntmps37
  go_wp2_with fail
  refine (stringslite_Clone s _ (by omega)).mono ?_
  rintro e w1 ⟨rfl, hb1⟩
  go_wp2
  go_ret
  exact ⟨rfl, hb1⟩
set_option maxRecDepth 100000 in
set_option maxHeartbeats 1600000 in
theorem implFrameAt_any (s : ByteArray) (k : Int) (w : World) (hs : s.size ≤ 1048576) :
    Calls Try.prog 15 #[.string s, .int .i64 k] w fun e w' => e = .returned (frameV s.data.toList k) ∧ Below w.heap.size w w' := by
  have C1 := fun W => hide (implVarAt_any s k W hs)
  unfold varV at C1
  have hsl := size_list s
  rcases varR_cases s.data.toList k with hv | ⟨n, nx, hv, h1, h2, h3, h4⟩
  · have R := hide (frameR_var s.data.toList k (.inl (by rw [hv]; decide)))
    rw [hv] at C1
    have C2 := fun W => hide (implFourAt_any s (-1) W hs)
    unfold fourV at C2
    rw [fourR_neg] at C2
    go_enter Try.func15, Try.ntmps15
    go_wp2_with fail
    refine (unhide (C1 _)).mono ?_
    rintro e w1 ⟨rfl, hb1⟩
    go_wp2_with fail
    refine (unhide (C2 _)).mono ?_
    rintro e w2 ⟨rfl, hb2⟩
    go_wp2
    go_ret2
    exact ⟨by unfold frameV; rw [unhide R] <;> rfl, hb1.trans (hb2.mono hb1.size)⟩
  · rw [hv] at C1
    have hx0 : (0 : Int) ≤ (nx : Int) := Int.natCast_nonneg _
    have C2 := fun W => hide (implFourAt_any s nx W hs)
    unfold fourV at C2
    by_cases h5 : nx + 4 ≤ s.size
    · obtain ⟨x, hf, hx⟩ := fourR_nat s.data.toList nx (by omega)
      rw [hf] at C2
      by_cases hn : 1 ≤ n ∧ n ≤ 400
      · have hn0 : ((n : Int) == 0) = false := by simp; omega
        have hn2 : (n : Int) ≤ 400 := by omega
        by_cases hl : nx + 4 + n ≤ s.size
        · have C3 := fun W => hide (implSumOf_any (s.extract (nx + 4) (nx + 4 + n)) W (by rw [ByteArray.size_extract]; omega))
          rw [frame_body] at C3
          have C4 := fun W => hide (implClone_any (s.extract (nx + 4) (nx + 4 + n)) W (by rw [ByteArray.size_extract]; omega))
          have hl1 : (n : Int) ≤ (s.size : Int) - ((nx : Int) + 4) := by omega
          go_enter Try.func15, Try.ntmps15
          go_wp2_with fail
          refine (unhide (C1 _)).mono ?_
          rintro e w1 ⟨rfl, hb1⟩
          go_wp2_with fail
          refine (unhide (C2 _)).mono ?_
          rintro e w2 ⟨rfl, hb2⟩
          go_wp2_with fail
          refine (unhide (C3 _)).mono ?_
          rintro e w3 ⟨rfl, hb3⟩
          have HB := hide ((hb1.trans (hb2.mono hb1.size)).trans (hb3.mono (Nat.le_trans hb1.size hb2.size)))
          have HE := hide (frame_body s nx n)
          have RG := hide (frameR_good s.data.toList k hv hn.1 hn.2 hf (by omega))
          have RS := hide (frameR_sum s.data.toList k hv hf)
          generalize crc ((s.data.toList.drop (nx + 4)).take n) = y at RG RS
          by_cases hc : y = x
          · have R := hide (unhide RG hc)
            have hc1 : ((y : Int) != (x : Int)) = false := by simp; omega
            clear RG RS C1 C2 C3 hv hf hb1 hb2 hb3
            go_wp2_with fail
            refine (unhide (C4 _)).mono ?_
            rintro e w4 ⟨rfl, hb4⟩
            go_wp2
            go_ret2
            exact ⟨by unfold frameV; rw [unhide R]; exact ret_si (by rw [← unhide HE]) (by omega), (unhide HB).trans (hb4.mono (unhide HB).size)⟩
          · have R := hide (unhide RS hc)
            have hc1 : ((y : Int) != (x : Int)) = true := by simp; omega
            clear RG RS C1 C2 C3 C4 hv hf hb1 hb2 hb3
            go_wp2
            go_ret2
            exact ⟨by unfold frameV; rw [unhide R] <;> rfl, unhide HB⟩
        · have R := hide (frameR_four s.data.toList k hv (by omega))
          have hl1 : (s.size : Int) - ((nx : Int) + 4) < (n : Int) := by omega
          go_enter Try.func15, Try.ntmps15
          go_wp2_with fail
          refine (unhide (C1 _)).mono ?_
          rintro e w1 ⟨rfl, hb1⟩
          go_wp2_with fail
          refine (unhide (C2 _)).mono ?_
          rintro e w2 ⟨rfl, hb2⟩
          go_wp2
          go_ret2
          exact ⟨by unfold frameV; rw [unhide R] <;> rfl, hb1.trans (hb2.mono hb1.size)⟩
      · have R := hide (frameR_var s.data.toList k (by rw [hv]; simp only; omega))
        by_cases hn1 : n = 0
        · have hn0 : ((n : Int) == 0) = true := by simp; omega
          go_enter Try.func15, Try.ntmps15
          go_wp2_with fail
          refine (unhide (C1 _)).mono ?_
          rintro e w1 ⟨rfl, hb1⟩
          go_wp2_with fail
          refine (unhide (C2 _)).mono ?_
          rintro e w2 ⟨rfl, hb2⟩
          go_wp2
          go_ret2
          exact ⟨by unfold frameV; rw [unhide R] <;> rfl, hb1.trans (hb2.mono hb1.size)⟩
        · have hn0 : ((n : Int) == 0) = false := by simp; omega
          have hn3 : (400 : Int) < (n : Int) := by omega
          go_enter Try.func15, Try.ntmps15
          go_wp2_with fail
          refine (unhide (C1 _)).mono ?_
          rintro e w1 ⟨rfl, hb1⟩
          go_wp2_with fail
          refine (unhide (C2 _)).mono ?_
          rintro e w2 ⟨rfl, hb2⟩
          go_wp2
          go_ret2
          exact ⟨by unfold frameV; rw [unhide R] <;> rfl, hb1.trans (hb2.mono hb1.size)⟩
    · have R : Hid (frameR s.data.toList k = ([], -1)) := hide (frameR_four s.data.toList k hv (by omega))
      rw [fourR_short s.data.toList nx (by omega)] at C2
      go_enter Try.func15, Try.ntmps15
      go_wp2_with fail
      refine (unhide (C1 _)).mono ?_
      rintro e w1 ⟨rfl, hb1⟩
      go_wp2_with fail
      refine (unhide (C2 _)).mono ?_
      rintro e w2 ⟨rfl, hb2⟩
      go_wp2
      go_ret2
      exact ⟨by unfold frameV; rw [unhide R] <;> rfl, hb1.trans (hb2.mono hb1.size)⟩
end Go.Proofs.Ytoindecmckikcaa
