/- A list of ints that came in, a copy of it in new memory; the laws' own helpers over rows of ints: equal rows, marks that are laid and held. -/
import Derived.Test.YtnpfboligmnhpaaInfo
namespace Go.Proofs.Ytnpfboligmnhpaa
open Go.RowKit
set_option linter.unusedVariables false
attribute [local go_sem ↓] Go.wp_at_zero Go.wp_at_succ

/-- Ints as the cells of a row. -/
def intC (zs : List Int) : List Value := zs.map (fun z => .int .i64 z)
theorem intC_length (zs : List Int) : (intC zs).length = zs.length := by simp [intC]
theorem intC_append (a b : List Int) : intC (a ++ b) = intC a ++ intC b := by simp [intC]
theorem intC_get (zs : List Int) (k : Nat) (h : k < zs.length) : (intC zs)[k]? = some (.int .i64 zs[k]) := by simp [intC, h]
theorem intC_set (zs : List Int) (k : Nat) (z : Int) : (intC zs).set k (.int .i64 z) = intC (zs.set k z) := by simp [intC, List.map_set]
theorem intC_cell {w : World} {base n g cap k : Nat} {zs : List Int} (h : w.ownsRow base 3 1 (.slice (some ⟨g, 0, none⟩) n cap) n (intC zs)) (hn : n = zs.length) (hk : k < zs.length) : w.cell? ⟨g, k, none⟩ = some (.int .i64 zs[k]) := by
  subst hn
  rw [h.cellAt k (by omega)]
  exact intC_get zs k hk
theorem info3 : (Try.prog.info? 3).map (fun i => (i.zero, i.size, i.bytes)) = some (some (.int .i64 0), 1, 8) := by kernel_rfl
/-- Ints that came in: each lies in memory below block B. -/
def IntsIn (w : World) (B : Nat) (a : Option Addr) (zs : List Int) : Prop :=
  ∀ (j : Nat) (hj : j < zs.length), ∃ (b off : Nat), a = some ⟨b, off, none⟩ ∧ b < B ∧ w.cell? ⟨b, off + j, none⟩ = some (.int .i64 zs[j])
theorem intsIn_below {w w' : World} {B : Nat} {a : Option Addr} {zs : List Int} (h : IntsIn w B a zs) (hb : Below B w w') : IntsIn w' B a zs :=
  fun j hj => by
    obtain ⟨b, off, ha, hB, hc⟩ := h j hj
    exact ⟨b, off, ha, hB, by rw [hb.cell (p := ⟨b, off + j, none⟩) hB]; exact hc⟩
theorem intsIn_on {w w1 : World} {a : Option Addr} {zs : List Int} (h : IntsIn w w.heap.size a zs) (hb : Below w.heap.size w w1) : IntsIn w1 w1.heap.size a zs := fun j hj => by
  obtain ⟨b, off, h1, h2, h3⟩ := intsIn_below h hb j hj
  exact ⟨b, off, h1, Nat.lt_of_lt_of_le h2 hb.size, h3⟩
/-- A copy of the first k ints, the other places 0. -/
def partI (zs : List Int) (k : Nat) : List Int := zs.take k ++ List.replicate (zs.length - k) 0
theorem partI_length (zs : List Int) (k : Nat) : (partI zs k).length = zs.length := by unfold partI; simp; omega
theorem partI_all (zs : List Int) (k : Nat) (h : ¬ k < zs.length) : partI zs k = zs := by
  unfold partI; rw [List.take_of_length_le (by omega), show zs.length - k = 0 from by omega]; simp
theorem partI_zero (zs : List Int) : intC (partI zs 0) = List.replicate zs.length (.int .i64 0) := by simp [partI, intC]
theorem partI_set (zs : List Int) (k : Nat) (h : k < zs.length) : (partI zs k).set k zs[k] = partI zs (k + 1) := by
  unfold partI
  obtain ⟨r, hr⟩ : ∃ r, zs.length - k = r + 1 := ⟨zs.length - k - 1, by omega⟩
  have hl : (zs.take k).length = k := by simp; omega
  rw [hr, show zs.length - (k + 1) = r from by omega, List.take_succ_eq_append_getElem h, List.replicate_succ, List.set_append_right _ _ (by omega), hl, Nat.sub_self, List.set_cons_zero, List.append_assoc]
  rfl
set_option maxRecDepth 100000 in
set_option maxHeartbeats 1600000 in
theorem eqInts_any (va vb : Value) (ba bb : Nat) (ps : List Int) (w : World) (hA : w.ownsRow ba 3 1 va ps.length (intC ps)) (hB : w.ownsRow bb 3 1 vb ps.length (intC ps)) (hl : ps.length ≤ 2000000) :
    Calls Try.prog 35 #[va, vb] w fun e w' => e = .returned (.bool true) ∧ Below w.heap.size w w' := by
  obtain ⟨aa, ca, rfl, sga⟩ := ownsRow_shape hA
  obtain ⟨ab, cb, rfl, sgb⟩ := ownsRow_shape hB
  have hne : ((ps.length : Int) != (ps.length : Int)) = false := by simp
  go_enter Try.func35, Try.ntmps35
  go_wp2
  go_loopw [5] (fun i wr => ∃ k : Nat, k ≤ ps.length ∧ i = .int .i64 k ∧ Below w.heap.size w wr)
    (fun i _ => ps.length - (intOf i).toNat)
  case atStart => exact ⟨0, Nat.zero_le _, rfl, Below.refl _ _⟩
  case round =>
    obtain ⟨k, hk, rfl, hb⟩ := hrel
    by_cases hlt : k < ps.length
    · obtain ⟨ga, rfl⟩ := sga (by omega)
      obtain ⟨gb, rfl⟩ := sgb (by omega)
      have hk0 : (0 : Int) ≤ (k : Int) := Int.natCast_nonneg _
      have hk1 : (k : Int) < (ps.length : Int) := by omega
      have c1 := intC_cell (ownsRow_below hA hb) rfl hlt
      have c2 := intC_cell (ownsRow_below hB hb) rfl hlt
      generalize ps[k] = p at c1 c2
      clear hA hB sga sgb
      go_wp2_with fail
      go_region_held3 (fun w' => w'.cell? ⟨ga, k, none⟩ = some (.int .i64 p) ∧ w'.cell? ⟨gb, k, none⟩ = some (.int .i64 p)) (go_keep) (fail)
      all_goals
        go_wp2
        go_roundw
        case rel => exact ⟨k + 1, by omega, by go_num, hb.drew⟩
        case measure => simp [intOf]; omega
    · clear sga sgb hA hB
      go_wp2
      go_ret
      exact ⟨rfl, hb⟩
/-- The ints that a row holds when it is marked from kk on. -/
def marksI (kk n : Nat) : List Int := (List.range n).map fun t => ((kk + t : Nat) : Int)
theorem marksI_length (kk n : Nat) : (marksI kk n).length = n := by simp [marksI]
theorem marksI_succ (kk n : Nat) : marksI kk (n + 1) = marksI kk n ++ [((kk + n : Nat) : Int)] := by simp [marksI, List.range_succ]
theorem marksI_get (kk n k : Nat) (h : k < (marksI kk n).length) : (marksI kk n)[k] = ((kk + k : Nat) : Int) := by simp [marksI]
theorem marksI_set (kk j : Nat) (ps : List Int) (hj : j < ps.length) : (marksI kk j ++ ps.drop j).set j ((kk + j : Nat) : Int) = marksI kk (j + 1) ++ ps.drop (j + 1) := by
  rw [List.set_append_right _ _ (by rw [marksI_length]; exact Nat.le_refl _), marksI_length, Nat.sub_self, List.drop_eq_getElem_cons hj, List.set_cons_zero, marksI_succ, List.append_assoc]
  rfl
set_option maxRecDepth 100000 in
set_option maxHeartbeats 1600000 in
theorem markInts_any (va : Value) (ba kk : Nat) (ps : List Int) (w : World) (hA : w.ownsRow ba 3 1 va ps.length (intC ps)) (hl : ps.length ≤ 2000000) (h1 : 1 ≤ kk) (h2 : kk ≤ 20000000) :
    Calls Try.prog 36 #[va, .int .i64 (kk : Int)] w fun e w' => e = .returned (.int .i64 ((kk + ps.length : Nat) : Int)) ∧ w'.ownsRow ba 3 1 va ps.length (intC (marksI kk ps.length)) ∧ w.grownBy w' va.ownBlock := by
  obtain ⟨aa, ca, rfl, sga⟩ := ownsRow_shape hA
  go_enter Try.func36, Try.ntmps36
  go_wp2
  go_loopw [1, 5] (fun q i wr => ∃ k : Nat, k ≤ ps.length ∧ i = .int .i64 k ∧ q = .int .i64 ((kk + k : Nat) : Int) ∧ wr.ownsRow ba 3 1 (.slice aa ps.length ca) ps.length (intC (marksI kk k ++ ps.drop k)) ∧ w.grownBy wr (Value.slice aa ps.length ca).ownBlock)
    (fun _ i _ => ps.length - (intOf i).toNat)
  case atStart => exact ⟨0, Nat.zero_le _, rfl, rfl, hA, grown_refl _ _⟩
  case round =>
    obtain ⟨k, hk, rfl, rfl, hown, hg⟩ := hrel
    by_cases hlt : k < ps.length
    · obtain ⟨ga, rfl⟩ := sga (by omega)
      have hk0 : (0 : Int) ≤ (k : Int) := Int.natCast_nonneg _
      have hk1 : (k : Int) < (ps.length : Int) := by omega
      have hkp : k < (marksI kk k ++ ps.drop k).length := by rw [List.length_append, marksI_length, List.length_drop]; omega
      have hlp : ps.length = (marksI kk k ++ ps.drop k).length := by rw [List.length_append, marksI_length, List.length_drop]; omega
      obtain ⟨old, c2⟩ : ∃ old, wr.cell? ⟨ga, k, none⟩ = some (.int .i64 old) := ⟨_, intC_cell hown hlp hkp⟩
      have f2 := hown.frozenAt k
      have R := hown.stored k (.int .i64 ((kk + k : Nat) : Int))
      rw [intC_set, marksI_set kk k ps hlt] at R
      have R2 := grown_trans hg R.2
      have R1 := R.1
      clear R hown hg hA sga hkp hlp
      obtain ⟨m, hm⟩ : ∃ m : Nat, m = kk + k := ⟨_, rfl⟩
      rw [← hm] at R1 R2 ⊢
      have HM := hide hm
      have hm1 : m ≤ 22000000 := by omega
      clear hm
      go_wp2
      go_roundw
      case rel => exact ⟨k + 1, by omega, by go_num, by rw [show kk + (k + 1) = m + 1 from by have := unhide HM; omega]; go_num, R1, R2⟩
      case measure => simp [intOf]; omega
    · have hke : k = ps.length := by omega
      have hown2 : wr.ownsRow ba 3 1 (.slice aa ps.length ca) ps.length (intC (marksI kk ps.length)) := by
        rw [hke] at hown; simpa using hown
      have HK := hide hke
      clear sga hA hown hke
      go_wp2
      go_ret
      exact ⟨ret_int (by have := unhide HK; omega), hown2, hg⟩
set_option maxRecDepth 100000 in
set_option maxHeartbeats 1600000 in
theorem heldInts_any (va : Value) (ba kk n : Nat) (w : World) (hA : w.ownsRow ba 3 1 va n (intC (marksI kk n))) (hl : n ≤ 2000000) (h1 : 1 ≤ kk) (h2 : kk ≤ 20000000) :
    Calls Try.prog 37 #[va, .int .i64 (kk : Int)] w fun e w' => e = .returned (.int .i64 ((kk + n : Nat) : Int)) ∧ Below w.heap.size w w' := by
  obtain ⟨aa, ca, rfl, sga⟩ := ownsRow_shape hA
  go_enter Try.func37, Try.ntmps37
  go_wp2
  go_loopw [1, 5] (fun q i wr => ∃ k : Nat, k ≤ n ∧ i = .int .i64 k ∧ q = .int .i64 ((kk + k : Nat) : Int) ∧ Below w.heap.size w wr)
    (fun _ i _ => n - (intOf i).toNat)
  case atStart => exact ⟨0, Nat.zero_le _, rfl, rfl, Below.refl _ _⟩
  case round =>
    obtain ⟨k, hk, rfl, rfl, hb⟩ := hrel
    by_cases hlt : k < n
    · obtain ⟨ga, rfl⟩ := sga (by omega)
      have hk0 : (0 : Int) ≤ (k : Int) := Int.natCast_nonneg _
      have hk1 : (k : Int) < (n : Int) := by omega
      have c1 := intC_cell (ownsRow_below hA hb) (by rw [marksI_length]) (k := k) (by rw [marksI_length]; exact hlt)
      rw [marksI_get] at c1
      obtain ⟨m, hm⟩ : ∃ m : Nat, m = kk + k := ⟨_, rfl⟩
      rw [← hm] at c1 ⊢
      have HM := hide hm
      have hm1 : m ≤ 22000000 := by omega
      have hmm : ((m : Int) != (m : Int)) = false := by simp
      clear hm sga hA
      go_wp2
      go_roundw
      case rel => exact ⟨k + 1, by omega, by go_num, by rw [show kk + (k + 1) = m + 1 from by have := unhide HM; omega]; go_num, hb⟩
      case measure => simp [intOf]; omega
    · have HK := hide (show k = n from by omega)
      clear sga hA
      go_wp2
      go_ret
      exact ⟨ret_int (by have := unhide HK; omega), hb⟩
end Go.Proofs.Ytnpfboligmnhpaa
