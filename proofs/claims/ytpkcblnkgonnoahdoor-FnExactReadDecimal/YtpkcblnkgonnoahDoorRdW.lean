/- The walks of ReadDecimal: the specification's and the program's both answer the number whose numeral this is, or that there is none, at every text. -/
import Derived.Test.YtpkcblnkgonnoahDoorDecW
import Derived.Lib.SmallJoins
namespace Go.Proofs.YtpkcblnkgonnoahDoor
open Go.RowKit

theorem spell_lt : ∀ (l : List UInt8), (∀ c ∈ l, figB c) → spell 0 l < 10 ^ l.length := by
  intro l
  have key : ∀ (l : List UInt8) (a : Nat), (∀ c ∈ l, figB c) → spell a l < (a + 1) * 10 ^ l.length := by
    intro l
    induction l with
    | nil => intro a _; simp [spell]
    | cons c r ih =>
      intro a hf
      have hc := hf c (by simp)
      have h1 := ih (10 * a + (c.toNat - 48)) (fun d hd => hf d (by simp [hd]))
      have hc2 := hc.2
      have h2 : (10 * a + (c.toNat - 48) + 1) * 10 ^ r.length ≤ ((a + 1) * 10) * 10 ^ r.length := Nat.mul_le_mul_right _ (by omega)
      have h3 : ((a + 1) * 10) * 10 ^ r.length = (a + 1) * 10 ^ (c :: r).length := by rw [List.length_cons, Nat.pow_succ, Nat.mul_assoc, Nat.mul_comm 10]
      show spell (10 * a + (c.toNat - 48)) r < _
      omega
  intro h
  simpa using key l 0 h
/-- What holds at round k: the figures so far, and what they spell. -/
def RAt (s : ByteArray) (k m : Nat) : Prop := (∀ c ∈ s.data.toList.take k, figB c) ∧ spell 0 (s.data.toList.take k) = m
theorem rAt_zero (s : ByteArray) : RAt s 0 0 := ⟨by simp, rfl⟩
theorem rAt_step {s : ByteArray} {k m : Nat} (h : RAt s k m) (hk : k < s.size) (hc : figB s[k]) : RAt s (k + 1) (10 * m + (s[k].toNat - 48)) := by
  unfold RAt
  rw [take_snoc s k hk]
  refine ⟨fun c hm => ?_, by rw [spell_snoc, h.2]⟩
  rcases List.mem_append.1 hm with h' | h'
  · exact h.1 c h'
  · simp at h'; rw [h']; exact hc
theorem rAt_lt {s : ByteArray} {k m : Nat} (h : RAt s k m) (hk : k ≤ s.size) (h10 : s.size ≤ 10) : m ≤ 9999999999 := by
  have h1 := spell_lt _ h.1
  rw [h.2, take_len s k hk] at h1
  have h2 : 10 ^ k ≤ 10 ^ 10 := Nat.pow_le_pow_right (by omega) (by omega)
  omega
theorem rAt_end {s : ByteArray} {k m : Nat} (h : RAt s k m) (hk : ¬ k < s.size) : spell 0 s.data.toList = m := by
  have h2 := h.2
  rw [take_all s k hk] at h2; exact h2
theorem mem_at (s : ByteArray) (k : Nat) (hk : k < s.size) : s[k] ∈ s.data.toList := by show s.data[k] ∈ s.data.toList; simp

set_option maxRecDepth 100000 in
set_option maxHeartbeats 1600000 in
theorem specRd_long (s : ByteArray) (w : World) (hs : 10 < s.size) :
    Calls Tryd.prog 7 #[.string s] w fun e w' => e = .returned (rdRes s.data.toList) ∧ Below w.heap.size w w' := by
  have h20 : decide ((10 : Int) < (s.size : Int)) = true := by simp; omega
  have R := hide (rdRes_none _ (rd_long s.data.toList (by rw [Array.length_toList]; exact hs)))
  go_enter Tryd.func7, Tryd.ntmps7
  go_wp2
  go_ret2
  exact ⟨congrArg Ending.returned (unhide R).symm, Below.refl _ _⟩

set_option maxRecDepth 100000 in
set_option maxHeartbeats 1600000 in
theorem specRd_short (s : ByteArray) (w : World) (hs : s.size ≤ 10) :
    Calls Tryd.prog 7 #[.string s] w fun e w' => e = .returned (rdRes s.data.toList) ∧ Below w.heap.size w w' := by
  have h20 : decide ((10 : Int) < (s.size : Int)) = false := by simp; omega
  go_enter Tryd.func7, Tryd.ntmps7
  go_wp2
  go_loopw [4, 5] (fun n i wr => ∃ k m : Nat, k ≤ s.size ∧ i = .int .i64 k ∧ n = .int .i64 m ∧ Below w.heap.size w wr ∧ Hid (RAt s k m))
    (fun _ i _ => s.size - (intOf i).toNat)
  case atStart => exact ⟨0, 0, Nat.zero_le _, rfl, rfl, Below.refl _ _, hide (rAt_zero s)⟩
  case round =>
    obtain ⟨k, m, hk, rfl, rfl, hb, hat⟩ := hrel
    have hm := rAt_lt (unhide hat) hk hs
    by_cases hlt : k < s.size
    · by_cases hbad : s[k].toNat < 48 ∨ 57 < s[k].toNat
      · have R := hide (rdRes_none _ (rd_bad s.data.toList s[k] (mem_at s k hlt) (by unfold figB; omega)))
        clear hat
        rcases hbad with hc | hc
        all_goals
          go_wp2
          go_ret2
          exact ⟨congrArg Ending.returned (unhide R).symm, hb⟩
      · have hc1 : 48 ≤ s[k].toNat := by omega
        have hc2 : s[k].toNat ≤ 57 := by omega
        have R := hide (rAt_step (unhide hat) hlt ⟨hc1, hc2⟩)
        clear hbad hat
        go_wp2
        go_roundw
        case rel => exact ⟨k + 1, 10 * m + (s[k].toNat - 48), by omega, by go_num, by go_num, hb, R⟩
        case measure => simp [intOf]; omega
    · have hsp := hide (rAt_end (unhide hat) hlt)
      by_cases hbig : 1000000000 < m
      · have R := hide (rdRes_none _ (rd_none s.data.toList (by have := unhide hsp; omega)))
        clear hat
        go_wp2
        go_ret2
        exact ⟨congrArg Ending.returned (unhide R).symm, hb⟩
      · by_cases heq : Lib.decDigits m = s.data.toList
        · have R := hide (rdRes_some _ _ (rd_some s.data.toList (by have := unhide hsp; omega) (by rw [unhide hsp]; exact heq)))
          have HE := hide heq
          clear hat heq
          go_wp2_with fail
          refine (specDec_any _ _ (by omega) (by omega)).mono ?_
          rintro e w1 ⟨rfl, hb1⟩
          rw [Lib.itoa_nonneg m, unhide HE]
          go_wp2
          go_ret2
          rw [unhide hsp] at R
          exact ⟨congrArg Ending.returned (unhide R).symm, hb.trans (hb1.mono hb.size)⟩
        · have R := hide (rdRes_none _ (rd_none s.data.toList (by have := unhide hsp; rintro ⟨_, h⟩; rw [this] at h; exact heq h)))
          have hbq : (Lib.decDigits m == s.toList) = false := by rw [Lib.toList_data]; simpa using heq
          clear hat heq
          go_wp2_with fail
          refine (specDec_any _ _ (by omega) (by omega)).mono ?_
          rintro e w1 ⟨rfl, hb1⟩
          rw [Lib.itoa_nonneg m]
          go_wp2
          go_ret2
          exact ⟨congrArg Ending.returned (unhide R).symm, hb.trans (hb1.mono hb.size)⟩
theorem specRd_any (s : ByteArray) (w : World) : Calls Tryd.prog 7 #[.string s] w fun e w' => e = .returned (rdRes s.data.toList) ∧ Below w.heap.size w w' := by
  by_cases h : s.size ≤ 10
  · exact specRd_short s w h
  · exact specRd_long s w (by omega)

set_option maxRecDepth 100000 in
set_option maxHeartbeats 1600000 in
theorem implRd_fail (s : ByteArray) (w : World) (hN : rdRes s.data.toList = .tuple #[.int .i64 0, .bool false])
    (hc : Calls Tryd.prog 11 #[.string s] w fun e w' => ∃ (x : Int) (t N : Nat), e = .returned (.tuple #[.int .i64 x, .iface t (.pointer (some ⟨N, 0, none⟩))]) ∧ Below w.heap.size w w') :
    Calls Tryd.prog 8 #[.string s] w fun e w' => e = .returned (rdRes s.data.toList) ∧ Below w.heap.size w w' := by
  have C := hide hc
  have R := hide hN
  clear hc hN
  go_enter Tryd.func8, Tryd.ntmps8
  go_wp2_with fail
  refine (unhide C).mono ?_
  rintro e w2 ⟨x, t, N, rfl, hb⟩
  go_wp2
  go_ret2
  exact ⟨congrArg Ending.returned (unhide R).symm, hb⟩

set_option maxRecDepth 100000 in
set_option maxHeartbeats 1600000 in
theorem implRd_ok (s : ByteArray) (v : Int) (w : World) (h0 : -9223372036854775808 ≤ v) (h1 : v ≤ 9223372036854775807) (hv : Lib.atoiAll s.data.toList = .ok v) (hp : ∀ w', Below w.heap.size w w' → Pow w')
    (hc : Calls Tryd.prog 11 #[.string s] w fun e w' => e = .returned (.tuple #[.int .i64 v, .nilIface]) ∧ Below w.heap.size w w') :
    Calls Tryd.prog 8 #[.string s] w fun e w' => e = .returned (rdRes s.data.toList) ∧ Below w.heap.size w w' := by
  have C := hide hc
  have HP := hide hp
  clear hc hp
  by_cases hn : v < 0
  · have R := hide (rdRes_none _ (rd_of_bad s.data.toList (fun u hu => .inl (by rw [hv] at hu; injection hu with hu; omega))))
    clear hv
    go_enter Tryd.func8, Tryd.ntmps8
    go_wp2_with fail
    refine (unhide C).mono ?_
    rintro e w2 ⟨rfl, hb⟩
    go_wp2
    go_ret2
    exact ⟨congrArg Ending.returned (unhide R).symm, hb⟩
  · by_cases hbig : 1000000000 < v
    · have R := hide (rdRes_none _ (rd_of_bad s.data.toList (fun u hu => .inr (.inl (by rw [hv] at hu; injection hu with hu; omega)))))
      clear hv
      go_enter Tryd.func8, Tryd.ntmps8
      go_wp2_with fail
      refine (unhide C).mono ?_
      rintro e w2 ⟨rfl, hb⟩
      go_wp2
      go_ret2
      exact ⟨congrArg Ending.returned (unhide R).symm, hb⟩
    · by_cases heq : Lib.itoa v = s.data.toList
      · have R : Hid (rdRes s.data.toList = .tuple #[.int .i64 v, .bool true]) := by
          have := rdRes_some _ _ (rd_of_ok s.data.toList v (by omega) (by omega) heq)
          rw [show ((v.toNat : Nat) : Int) = v from by omega] at this
          exact hide this
        have HE := hide heq
        clear hv heq
        go_enter Tryd.func8, Tryd.ntmps8
        go_wp2_with fail
        refine (unhide C).mono ?_
        rintro e w2 ⟨rfl, hb⟩
        have ht2 := hide (unhide HP w2 hb)
        go_wp2_with fail
        refine (implDec_any v _ h0 h1 (unhide ht2)).mono ?_
        rintro e w3 ⟨rfl, hb3⟩
        rw [unhide HE]
        go_wp2
        go_ret2
        exact ⟨congrArg Ending.returned (unhide R).symm, hb.trans (hb3.mono hb.size)⟩
      · have R := hide (rdRes_none _ (rd_of_bad s.data.toList (fun u hu => .inr (.inr (by rw [hv] at hu; injection hu with hu; rw [← hu]; exact heq)))))
        have hbq : (Lib.itoa v == s.toList) = false := by rw [Lib.toList_data]; simpa using heq
        clear hv heq
        go_enter Tryd.func8, Tryd.ntmps8
        go_wp2_with fail
        refine (unhide C).mono ?_
        rintro e w2 ⟨rfl, hb⟩
        have ht2 := hide (unhide HP w2 hb)
        go_wp2_with fail
        refine (implDec_any v _ h0 h1 (unhide ht2)).mono ?_
        rintro e w3 ⟨rfl, hb3⟩
        go_wp2
        go_ret2
        exact ⟨congrArg Ending.returned (unhide R).symm, hb.trans (hb3.mono hb.size)⟩
theorem atoi_bd (l : List UInt8) (v : Int) (h : Lib.atoiAll l = .ok v) : -9223372036854775808 ≤ v ∧ v ≤ 9223372036854775807 := by
  unfold Lib.atoiAll at h
  split at h
  · cases h
  · simp only at h
    split at h
    · cases h
    · cases h
    · rename_i u hu
      split at h
      · cases h
      · split at h
        · cases h
        · injection h with h
          split at h <;> omega
/-- The program's ReadDecimal, where the library's table and its two errors lie as its text lays them. -/
theorem implRd_any (s : ByteArray) (w : World) (hs : s.size ≤ 1048576) (hp : ∀ w', Below w.heap.size w w' → Pow w') (ev0 ev1 : Value) (c0 : w.cell? ⟨0, 0, none⟩ = some ev0) (e0 : ev0 = .nilIface ∨ ∃ te pe, ev0 = .iface te pe)
    (c1 : w.cell? ⟨1, 0, none⟩ = some ev1) (e1 : ev1 = .nilIface ∨ ∃ te pe, ev1 = .iface te pe) :
    Calls Tryd.prog 8 #[.string s] w fun e w' => e = .returned (rdRes s.data.toList) ∧ Below w.heap.size w w' := by
  cases hx : Lib.atoiAll s.data.toList with
  | ok v =>
    have hbd := atoi_bd _ _ hx
    refine implRd_ok s v w hbd.1 hbd.2 hx hp ?_
    refine (Any.strconv_Atoi_ok laysC172 s (by omega) v hx w).mono ?_
    rintro e w' ⟨rfl, rfl | ⟨t, rfl⟩⟩
    · exact ⟨rfl, Below.refl _ _⟩
    · exact ⟨rfl, Go.Joins.below_bytesWorld _ _ _ _ (Nat.le_refl _)⟩
  | range =>
    refine implRd_fail s w (rdRes_none _ (rd_of_bad _ (fun u hu => by rw [hx] at hu; cases hu))) ?_
    refine (Any.strconv_Atoi_range laysC172 s (by omega) hx ev1 w c1 e1).mono ?_
    rintro e w' ⟨N, rfl, _, _, hb⟩
    exact ⟨_, _, N, rfl, hb⟩
  | _ =>
    refine implRd_fail s w (rdRes_none _ (rd_of_bad _ (fun u hu => by rw [hx] at hu; cases hu))) ?_
    refine (Any.strconv_Atoi_syntax laysC172 s (by omega) hx ev0 w c0 e0).mono ?_
    rintro e w' ⟨N, rfl, _, _, hb⟩
    exact ⟨_, _, N, rfl, hb⟩
end Go.Proofs.YtpkcblnkgonnoahDoor
