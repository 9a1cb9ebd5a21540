/- A list of texts that came in: how much it holds, and a copy of it in new memory. -/
import Derived.Test.YtoindecmckikcaaInfo
namespace Go.Proofs.Ytoindecmckikcaa
open Go.RowKit
set_option linter.unusedVariables false
attribute [local go_sem ↓] Go.wp_at_zero Go.wp_at_succ

/-- Texts that came in: each lies in memory below block B. -/
def StrsIn (w : World) (B : Nat) (a : Option Addr) (ls : List (List UInt8)) : Prop :=
  ∀ (j : Nat) (hj : j < ls.length), ∃ (b off : Nat), a = some ⟨b, off, none⟩ ∧ b < B ∧ w.cell? ⟨b, off + j, none⟩ = some (.string ⟨(ls[j]).toArray⟩)
theorem strsIn_below {w w' : World} {B : Nat} {a : Option Addr} {ls : List (List UInt8)} (h : StrsIn w B a ls) (hb : Below B w w') : StrsIn w' B a ls :=
  fun j hj => by
    obtain ⟨b, off, ha, hB, hc⟩ := h j hj
    exact ⟨b, off, ha, hB, by rw [hb.cell (p := ⟨b, off + j, none⟩) hB]; exact hc⟩
theorem strsIn_on {w w1 : World} {a : Option Addr} {ls : List (List UInt8)} (h : StrsIn w w.heap.size a ls) (hb : Below w.heap.size w w1) : StrsIn w1 w1.heap.size a ls := fun j hj => by
  obtain ⟨b, off, h1, h2, h3⟩ := strsIn_below h hb j hj
  exact ⟨b, off, h1, Nat.lt_of_lt_of_le h2 hb.size, h3⟩
set_option maxRecDepth 100000 in
set_option maxHeartbeats 1600000 in
theorem szStrs_any (a : Option Addr) (cap : Nat) (ls : List (List UInt8)) (left : Int) (w : World) (h0 : 0 ≤ left) (h1 : left ≤ 1048576) (hn : ls.length ≤ 9223372036854775807) (hl : ∀ l ∈ ls, l.length ≤ 9223372036854775807) (hk : StrsIn w w.heap.size a ls) :
    Calls Try.prog 22 #[.slice a ls.length cap, .int .i64 left] w fun e w' => ∃ r : Int, e = .returned (.int .i64 r) ∧ r ≤ left ∧ (r = -1 ∨ (0 ≤ r ∧ ls.length ≤ 1048576 ∧ ∀ l ∈ ls, l.length ≤ 1048576)) ∧ Below w.heap.size w w' := by
  by_cases hbig : left - (ls.length : Int) < 0
  · go_enter Try.func22, Try.ntmps22
    go_wp2
    go_ret
    exact ⟨_, rfl, by omega, .inl rfl, Below.refl _ _⟩
  · have hbig1 : (0 : Int) ≤ left - (ls.length : Int) := by omega
    have HK := hide hk
    have HL := hide hl
    clear hk hl
    go_enter Try.func22, Try.ntmps22
    go_wp2
    go_loopw [1, 5] (fun r i wr => ∃ (k : Nat) (x : Int), k ≤ ls.length ∧ i = .int .i64 k ∧ r = .int .i64 x ∧ 0 ≤ x ∧ x ≤ left ∧ Hid (∀ l ∈ ls.take k, l.length ≤ 1048576) ∧ Below w.heap.size w wr)
      (fun _ i _ => ls.length - (intOf i).toNat)
    case atStart => exact ⟨0, _, Nat.zero_le _, rfl, rfl, hbig1, by omega, hide (by simp), Below.refl _ _⟩
    case round =>
      obtain ⟨k, x, hk, rfl, rfl, hx0, hx1, hat, hb⟩ := hrel
      by_cases hlt : k < ls.length
      · obtain ⟨b, off, rfl, hB, c1⟩ := strsIn_below (unhide HK) hb k hlt
        have hp := (unhide HL) _ (List.getElem_mem hlt)
        have HT : Hid (ls[k].length ≤ 1048576 → ∀ l ∈ ls.take (k + 1), l.length ≤ 1048576) := hide (by
          intro h l hm
          rw [List.take_succ_eq_append_getElem hlt, List.mem_append] at hm
          rcases hm with hm | hm
          · exact unhide hat l hm
          · rw [List.mem_singleton] at hm; rw [hm]; exact h)
        have hk0 : (0 : Int) ≤ (k : Int) := Int.natCast_nonneg _
        have hk1 : (k : Int) < (ls.length : Int) := by omega
        generalize ls[k] = p at c1 hp HT
        clear hat
        by_cases hs : x - (p.length : Int) < 0
        · go_wp2
          go_ret
          exact ⟨_, rfl, by omega, .inl rfl, hb⟩
        · have hs1 : (0 : Int) ≤ x - (p.length : Int) := by omega
          have R := hide (unhide HT (by omega))
          go_wp2
          go_roundw
          case rel => exact ⟨k + 1, _, by omega, by go_num, rfl, hs1, by omega, R, hb⟩
          case measure => simp [intOf]; omega
      · have R : Hid (∀ l ∈ ls, l.length ≤ 1048576) := by
          have := unhide hat
          rw [List.take_of_length_le (by omega)] at this; exact hide this
        clear hat
        go_wp2
        go_ret
        exact ⟨_, rfl, hx1, .inr ⟨hx0, by omega, unhide R⟩, hb⟩
/-- A copy of the first k texts, the other places empty. -/
def part (ls : List (List UInt8)) (k : Nat) : List (List UInt8) := ls.take k ++ List.replicate (ls.length - k) []
theorem part_length (ls : List (List UInt8)) (k : Nat) : (part ls k).length = ls.length := by unfold part; simp; omega
theorem part_all (ls : List (List UInt8)) (k : Nat) (h : ¬ k < ls.length) : part ls k = ls := by
  unfold part; rw [List.take_of_length_le (by omega), show ls.length - k = 0 from by omega]; simp
theorem part_set (ls : List (List UInt8)) (k : Nat) (h : k < ls.length) : (strs (part ls k)).set k (.string ⟨(ls[k]).toArray⟩) = strs (part ls (k + 1)) := by
  unfold part
  obtain ⟨r, hr⟩ : ∃ r, ls.length - k = r + 1 := ⟨ls.length - k - 1, by omega⟩
  rw [hr, show ls.length - (k + 1) = r from by omega, List.take_succ_eq_append_getElem h, strs_append, strs_append, strs_append, List.replicate_succ]
  have hl : (strs (ls.take k)).length = k := by simp [strs]; omega
  rw [List.set_append_right _ _ (by omega), hl]
  simp [strs, sv]
theorem part_zero (ls : List (List UInt8)) : strs (part ls 0) = List.replicate ls.length (.string ⟨#[]⟩) := by simp [part, strs, sv]
set_option maxRecDepth 100000 in
set_option maxHeartbeats 1600000 in
theorem toStrs_any (a : Option Addr) (cap : Nat) (ls : List (List UInt8)) (w : World) (hn : ls.length ≤ 1048576) (hk : StrsIn w w.heap.size a ls) :
    Calls Try.prog 24 #[.slice a ls.length cap] w fun e w' => ∃ v, e = .returned v ∧ w'.ownsRow w.heap.size 9 1 v ls.length (strs ls) ∧ Below w.heap.size w w' := by
  obtain ⟨i0, hi0, hz0, hz1, hz2⟩ := info_parts info9
  have HK := hide hk
  clear hk
  go_enter Try.func24, Try.ntmps24
  go_wp2_with (at_make; refine wpList_make_full _ rfl _ _ 24 rfl w.heap.size 9 i0 _ 1 Try.underlying24 hi0 hz0 hz1 .i64 .i64 _ _ ls.length rfl rfl rfl rfl (by rw [hz2]; omega) (by unfold maxLen; omega) (Nat.le_refl _) ?_)
  intro w0 hown0 hgrow0
  have hb0 : Below w.heap.size w w0 := (Below.refl _ _).grown hgrow0 (Nat.le_refl _) (fun k hk => by cases hk)
  have hown1 : w0.ownsRow w.heap.size 9 1 (.slice (some ⟨w.heap.size, 0, none⟩) ls.length ls.length) ls.length (strs (part ls 0)) := by
    rw [part_zero]
    rw [toList_madeCells_one] at hown0
    exact hown0
  clear hown0 hgrow0
  go_wp2
  go_loopw [4] (fun i wr => ∃ k : Nat, k ≤ ls.length ∧ i = .int .i64 k ∧ wr.ownsRow w.heap.size 9 1 (.slice (some ⟨w.heap.size, 0, none⟩) ls.length ls.length) ls.length (strs (part ls k)) ∧ Below w.heap.size w wr)
    (fun i _ => ls.length - (intOf i).toNat)
  case atStart => exact ⟨0, Nat.zero_le _, rfl, hown1, hb0⟩
  case round =>
    obtain ⟨k, hk, rfl, hown, hb⟩ := hrel
    clear hown1 hb0
    by_cases hlt : k < ls.length
    · obtain ⟨b, off, rfl, hB, c1⟩ := strsIn_below (unhide HK) hb k hlt
      have hk0 : (0 : Int) ≤ (k : Int) := Int.natCast_nonneg _
      have hk1 : (k : Int) < (ls.length : Int) := by omega
      obtain ⟨old, c2⟩ : ∃ old, wr.cell? ⟨w.heap.size, k, none⟩ = some (.string old) := ⟨_, ownsRow_cell hown (by rw [part_length]) (k := k) (by rw [part_length]; exact hlt)⟩
      have f2 := hown.frozenAt k
      have R := hown.stored k (.string ⟨(ls[k]).toArray⟩)
      rw [part_set ls k hlt] at R
      have R2 : Below w.heap.size w _ := hb.grown R.2 hb.size (fun k hk => by cases hk; exact Nat.le_refl _)
      have R1 := R.1
      clear R
      generalize ls[k] = p at c1 R1 R2
      clear hown hb
      go_wp2
      go_roundw
      case rel => exact ⟨k + 1, by omega, by go_num, R1, R2⟩
      case measure => simp [intOf]; omega
    · have HK2 := hide (part_all ls k hlt)
      go_wp2
      go_ret
      exact ⟨_, rfl, by rw [unhide HK2] at hown; exact hown, hb⟩
end Go.Proofs.Ytoindecmckikcaa
