/- The walk of FrameAt, the one of the specification, at every text and every place. -/
import Derived.Test.YtoindecmckikcaaFrame
import Derived.Test.YtoindecmckikcaaSpecVarAt
import Derived.Test.YtoindecmckikcaaFourAt
namespace Go.Proofs.Ytoindecmckikcaa
open Go.RowKit
set_option linter.unusedVariables false

theorem frame_body (s : ByteArray) (nx n : Nat) : (s.extract (nx + 4) (nx + 4 + n)).data.toList = (s.data.toList.drop (nx + 4)).take n := by
  rw [Lib.extract_data, show nx + 4 + n - (nx + 4) = n from by omega]
theorem ret_si {a : ByteArray} {b : List UInt8} {c d : Int} (h : a = ⟨b.toArray⟩) (h' : c = d) : Ending.returned (.tuple #[.string a, .int .i64 c]) = .returned (.tuple #[.string ⟨b.toArray⟩, .int .i64 d]) := by rw [h, h']
theorem fourR_short (l : List UInt8) (k : Nat) (h : l.length < k + 4) : fourR l (k : Int) = (0, false) := by
  unfold fourR; rw [if_neg (by omega)]
set_option maxRecDepth 100000 in
set_option maxHeartbeats 1600000 in
theorem specFrameAt_any (s : ByteArray) (k : Int) (w : World) (hs : s.size ≤ 1048576) :
    Calls Try.prog 17 #[.string s, .int .i64 k] w fun e w' => e = .returned (frameV s.data.toList k) ∧ Below w.heap.size w w' := by
  have C1 := fun W => hide (specVarAt_any s k W hs)
  unfold varV at C1
  have hsl := size_list s
  rcases varR_cases s.data.toList k with hv | ⟨n, nx, hv, h1, h2, h3, h4⟩
  · have R := hide (frameR_var s.data.toList k (.inl (by rw [hv]; decide)))
    rw [hv] at C1
    go_enter Try.func17, Try.ntmps17
    go_wp2_with fail
    refine (unhide (C1 _)).mono ?_
    rintro e w1 ⟨rfl, hb1⟩
    go_wp2
    go_ret2
    exact ⟨by unfold frameV; rw [unhide R] <;> rfl, hb1⟩
  · rw [hv] at C1
    have hx0 : (0 : Int) ≤ (nx : Int) := Int.natCast_nonneg _
    have hx1 : ((nx : Int) < 0) = False := by simp
    by_cases hn : 1 ≤ n ∧ n ≤ 400
    · have hn1 : (1 : Int) ≤ (n : Int) := by omega
      have hn2 : (n : Int) ≤ 400 := by omega
      have C2 := fun W => hide (specFourAt_any s nx W hs)
      unfold fourV at C2
      by_cases hl : nx + 4 + n ≤ s.size
      · obtain ⟨x, hf, hx⟩ := fourR_nat s.data.toList nx (by omega)
        rw [hf] at C2
        have C3 := fun W => hide (specSumOf_any (s.extract (nx + 4) (nx + 4 + n)) W (by rw [ByteArray.size_extract]; omega))
        rw [frame_body] at C3
        go_enter Try.func17, Try.ntmps17
        go_wp2_with fail
        refine (unhide (C1 _)).mono ?_
        rintro e w1 ⟨rfl, hb1⟩
        go_wp2_with fail
        refine (unhide (C2 _)).mono ?_
        rintro e w2 ⟨rfl, hb2⟩
        go_wp2_with fail
        refine (unhide (C3 _)).mono ?_
        rintro e w3 ⟨rfl, hb3⟩
        have HB := hide ((hb1.trans (hb2.mono hb1.size)).trans (hb3.mono (Nat.le_trans hb1.size hb2.size)))
        have HE := hide (frame_body s nx n)
        have RG := hide (frameR_good s.data.toList k hv hn.1 hn.2 hf (by omega))
        have RS := hide (frameR_sum s.data.toList k hv hf)
        generalize crc ((s.data.toList.drop (nx + 4)).take n) = y at RG RS
        by_cases hc : y = x
        · have R := hide (unhide RG hc)
          have hc1 : ((y : Int) != (x : Int)) = false := by simp; omega
          clear RG RS C1 C2 C3 hv hf hb1 hb2 hb3
          go_wp2
          go_ret2
          exact ⟨by unfold frameV; rw [unhide R]; exact ret_si (by rw [← unhide HE]) (by omega), unhide HB⟩
        · have R := hide (unhide RS hc)
          have hc1 : ((y : Int) != (x : Int)) = true := by simp; omega
          clear RG RS C1 C2 C3 hv hf hb1 hb2 hb3
          go_wp2
          go_ret2
          exact ⟨by unfold frameV; rw [unhide R] <;> rfl, unhide HB⟩
      · have R := hide (frameR_four s.data.toList k hv (by omega))
        have hl1 : (s.size : Int) - (nx : Int) - 4 < (n : Int) := by omega
        by_cases h4 : nx + 4 ≤ s.size
        · obtain ⟨x, hf, hx⟩ := fourR_nat s.data.toList nx (by omega)
          rw [hf] at C2
          go_enter Try.func17, Try.ntmps17
          go_wp2_with fail
          refine (unhide (C1 _)).mono ?_
          rintro e w1 ⟨rfl, hb1⟩
          go_wp2_with fail
          refine (unhide (C2 _)).mono ?_
          rintro e w2 ⟨rfl, hb2⟩
          go_wp2
          go_ret2
          exact ⟨by unfold frameV; rw [unhide R] <;> rfl, hb1.trans (hb2.mono hb1.size)⟩
        · have hf := fourR_short s.data.toList nx (by omega)
          rw [hf] at C2
          go_enter Try.func17, Try.ntmps17
          go_wp2_with fail
          refine (unhide (C1 _)).mono ?_
          rintro e w1 ⟨rfl, hb1⟩
          go_wp2_with fail
          refine (unhide (C2 _)).mono ?_
          rintro e w2 ⟨rfl, hb2⟩
          go_wp2
          go_ret2
          exact ⟨by unfold frameV; rw [unhide R] <;> rfl, hb1.trans (hb2.mono hb1.size)⟩
    · have R := hide (frameR_var s.data.toList k (by rw [hv]; simp only; omega))
      by_cases hn1 : n < 1
      · have hn2 : (n : Int) < 1 := by omega
        go_enter Try.func17, Try.ntmps17
        go_wp2_with fail
        refine (unhide (C1 _)).mono ?_
        rintro e w1 ⟨rfl, hb1⟩
        go_wp2
        go_ret2
        exact ⟨by unfold frameV; rw [unhide R] <;> rfl, hb1⟩
      · have hn2 : (1 : Int) ≤ (n : Int) := by omega
        have hn3 : (400 : Int) < (n : Int) := by omega
        go_enter Try.func17, Try.ntmps17
        go_wp2_with fail
        refine (unhide (C1 _)).mono ?_
        rintro e w1 ⟨rfl, hb1⟩
        go_wp2
        go_ret2
        exact ⟨by unfold frameV; rw [unhide R] <;> rfl, hb1⟩
end Go.Proofs.Ytoindecmckikcaa
