/- The walk of the program's own ReadDecimal: it answers the number whose numeral this is, or that there is none. -/
import Derived.Test.YtpkcblnkgonnoaaDoorImplDec
import Derived.Lib.SmallJoins
namespace Go.Proofs.YtpkcblnkgonnoaaDoor
open Go.RowKit

set_option maxRecDepth 100000 in
set_option maxHeartbeats 1600000 in
theorem implRd_fail (s : ByteArray) (w : World) (hN : rdRes s.data.toList = .tuple #[.int .i64 0, .bool false])
    (hc : Calls Tryd.prog 16 #[.string s] w fun e w' => ∃ (x : Int) (t N : Nat), e = .returned (.tuple #[.int .i64 x, .iface t (.pointer (some ⟨N, 0, none⟩))]) ∧ Below w.heap.size w w') :
    Calls Tryd.prog 9 #[.string s] w fun e w' => e = .returned (rdRes s.data.toList) ∧ Below w.heap.size w w' := by
  have C := hide hc
  have R := hide hN
  clear hc hN
  go_enter Tryd.func9, Tryd.ntmps9
  go_wp2_with fail
  refine (unhide C).mono ?_
  rintro e w2 ⟨x, t, N, rfl, hb⟩
  go_wp2
  go_ret2
  exact ⟨congrArg Ending.returned (unhide R).symm, hb⟩
set_option maxRecDepth 100000 in
set_option maxHeartbeats 1600000 in
theorem implRd_ok (s : ByteArray) (v : Int) (w : World) (h0 : -9223372036854775808 ≤ v) (h1 : v ≤ 9223372036854775807) (hv : Lib.atoiAll s.data.toList = .ok v) (hp : ∀ w', Below w.heap.size w w' → Pow w')
    (hc : Calls Tryd.prog 16 #[.string s] w fun e w' => e = .returned (.tuple #[.int .i64 v, .nilIface]) ∧ Below w.heap.size w w') :
    Calls Tryd.prog 9 #[.string s] w fun e w' => e = .returned (rdRes s.data.toList) ∧ Below w.heap.size w w' := by
  have C := hide hc
  have HP := hide hp
  clear hc hp
  by_cases hn : v < 0
  · have R := hide (rdRes_none _ (rd_of_bad s.data.toList (fun u hu => .inl (by rw [hv] at hu; injection hu with hu; omega))))
    clear hv
    go_enter Tryd.func9, Tryd.ntmps9
    go_wp2_with fail
    refine (unhide C).mono ?_
    rintro e w2 ⟨rfl, hb⟩
    go_wp2
    go_ret2
    exact ⟨congrArg Ending.returned (unhide R).symm, hb⟩
  · by_cases hbig : 1000000000 < v
    · have R := hide (rdRes_none _ (rd_of_bad s.data.toList (fun u hu => .inr (.inl (by rw [hv] at hu; injection hu with hu; omega)))))
      clear hv
      go_enter Tryd.func9, Tryd.ntmps9
      go_wp2_with fail
      refine (unhide C).mono ?_
      rintro e w2 ⟨rfl, hb⟩
      go_wp2
      go_ret2
      exact ⟨congrArg Ending.returned (unhide R).symm, hb⟩
    · by_cases heq : Lib.itoa v = s.data.toList
      · have R : Hid (rdRes s.data.toList = .tuple #[.int .i64 v, .bool true]) := by
          have := rdRes_some _ _ (rd_of_ok s.data.toList v (by omega) (by omega) heq)
          rw [show ((v.toNat : Nat) : Int) = v from by omega] at this
          exact hide this
        have HE := hide heq
        clear hv heq
        go_enter Tryd.func9, Tryd.ntmps9
        go_wp2_with fail
        refine (unhide C).mono ?_
        rintro e w2 ⟨rfl, hb⟩
        have ht2 := hide (unhide HP w2 hb)
        go_wp2_with fail
        refine (implDec_any v _ h0 h1 (unhide ht2)).mono ?_
        rintro e w3 ⟨rfl, hb3⟩
        rw [unhide HE]
        go_wp2
        go_ret2
        exact ⟨congrArg Ending.returned (unhide R).symm, hb.trans (hb3.mono hb.size)⟩
      · have R := hide (rdRes_none _ (rd_of_bad s.data.toList (fun u hu => .inr (.inr (by rw [hv] at hu; injection hu with hu; rw [← hu]; exact heq)))))
        have hbq : (Lib.itoa v == s.toList) = false := by rw [Lib.toList_data]; simpa using heq
        clear hv heq
        go_enter Tryd.func9, Tryd.ntmps9
        go_wp2_with fail
        refine (unhide C).mono ?_
        rintro e w2 ⟨rfl, hb⟩
        have ht2 := hide (unhide HP w2 hb)
        go_wp2_with fail
        refine (implDec_any v _ h0 h1 (unhide ht2)).mono ?_
        rintro e w3 ⟨rfl, hb3⟩
        go_wp2
        go_ret2
        exact ⟨congrArg Ending.returned (unhide R).symm, hb.trans (hb3.mono hb.size)⟩
theorem atoi_bd (l : List UInt8) (v : Int) (h : Lib.atoiAll l = .ok v) : -9223372036854775808 ≤ v ∧ v ≤ 9223372036854775807 := by
  unfold Lib.atoiAll at h
  split at h
  · cases h
  · simp only at h
    split at h
    · cases h
    · cases h
    · rename_i u hu
      split at h
      · cases h
      · split at h
        · cases h
        · injection h with h
          split at h <;> omega
/-- The program's ReadDecimal, where the library's table and its two errors lie as its text lays them. -/
theorem implRd_any (s : ByteArray) (w : World) (hs : s.size ≤ 1048576) (hp : ∀ w', Below w.heap.size w w' → Pow w') (ev0 ev1 : Value) (c0 : w.cell? ⟨1, 0, none⟩ = some ev0) (e0 : ev0 = .nilIface ∨ ∃ te pe, ev0 = .iface te pe)
    (c1 : w.cell? ⟨2, 0, none⟩ = some ev1) (e1 : ev1 = .nilIface ∨ ∃ te pe, ev1 = .iface te pe) :
    Calls Tryd.prog 9 #[.string s] w fun e w' => e = .returned (rdRes s.data.toList) ∧ Below w.heap.size w w' := by
  cases hx : Lib.atoiAll s.data.toList with
  | ok v =>
    have hbd := atoi_bd _ _ hx
    refine implRd_ok s v w hbd.1 hbd.2 hx hp ?_
    refine (Any.strconv_Atoi_ok laysC172 s (by omega) v hx w).mono ?_
    rintro e w' ⟨rfl, rfl | ⟨t, rfl⟩⟩
    · exact ⟨rfl, Below.refl _ _⟩
    · exact ⟨rfl, Go.Joins.below_bytesWorld _ _ _ _ (Nat.le_refl _)⟩
  | range =>
    refine implRd_fail s w (rdRes_none _ (rd_of_bad _ (fun u hu => by rw [hx] at hu; cases hu))) ?_
    refine (Any.strconv_Atoi_range laysC172 s (by omega) hx ev1 w c1 e1).mono ?_
    rintro e w' ⟨N, rfl, _, _, hb⟩
    exact ⟨_, _, N, rfl, hb⟩
  | _ =>
    refine implRd_fail s w (rdRes_none _ (rd_of_bad _ (fun u hu => by rw [hx] at hu; cases hu))) ?_
    refine (Any.strconv_Atoi_syntax laysC172 s (by omega) hx ev0 w c0 e0).mono ?_
    rintro e w' ⟨N, rfl, _, _, hb⟩
    exact ⟨_, _, N, rfl, hb⟩
end Go.Proofs.YtpkcblnkgonnoaaDoor
