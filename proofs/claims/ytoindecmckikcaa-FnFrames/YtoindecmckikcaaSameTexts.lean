/- The walk of sameTexts: two lists of the same texts are the same. -/
import Derived.Test.YtoindecmckikcaaStrsIn
namespace Go.Proofs.Ytoindecmckikcaa
open Go.RowKit
set_option linter.unusedVariables false
attribute [local go_sem ↓] Go.wp_at_zero Go.wp_at_succ

theorem strsIn_row {w : World} {B cap : Nat} {a : Option Addr} {ls : List (List UInt8)} (h : w.ownsRow B 9 1 (.slice a ls.length cap) ls.length (strs ls)) : StrsIn w w.heap.size a ls := by
  intro j hj
  obtain ⟨a', c', e, hs⟩ := ownsRow_shape h
  simp only [Value.slice.injEq] at e
  obtain ⟨rfl, _, _⟩ := e
  obtain ⟨g, rfl⟩ := hs (by omega)
  have hc := ownsRow_cell h rfl hj
  exact ⟨g, 0, rfl, World.block_lt_of_cell? w _ hc, by rw [Nat.zero_add]; exact hc⟩
theorem strsIn_take {w : World} {B : Nat} {a : Option Addr} {ls : List (List UInt8)} (h : StrsIn w B a ls) (n : Nat) : StrsIn w B a (ls.take n) := by
  intro j hj
  have hj2 : j < ls.length := by simp at hj; omega
  obtain ⟨b, off, h1, h2, h3⟩ := h j hj2
  exact ⟨b, off, h1, h2, by rw [h3]; simp⟩
set_option maxRecDepth 100000 in
set_option maxHeartbeats 1600000 in
theorem same_any (a b : Option Addr) (ca cb n : Nat) (ls : List (List UInt8)) (w : World) (hn : ls.length = n) (hA : StrsIn w w.heap.size a ls) (hB : StrsIn w w.heap.size b ls) (hl : n ≤ 100000) :
    Calls Try.prog 13 #[.slice a n ca, .slice b n cb] w fun e w' => e = .returned (.bool true) ∧ Below w.heap.size w w' := by
  have hne : ((n : Int) != (n : Int)) = false := by simp
  have HA := hide hA
  have HB := hide hB
  have HN := hide hn
  clear hA hB hn
  go_enter Try.func13, Try.ntmps13
  go_wp2
  go_loopw [5] (fun i wr => ∃ k : Nat, k ≤ n ∧ i = .int .i64 k ∧ Below w.heap.size w wr)
    (fun i _ => n - (intOf i).toNat)
  case atStart => exact ⟨0, Nat.zero_le _, rfl, Below.refl _ _⟩
  case round =>
    obtain ⟨k, hk, rfl, hb⟩ := hrel
    by_cases hlt : k < n
    · have hkl : k < ls.length := by rw [unhide HN]; exact hlt
      obtain ⟨ga, oa, rfl, _, c1⟩ := strsIn_below (unhide HA) hb k hkl
      obtain ⟨gb, ob, rfl, _, c2⟩ := strsIn_below (unhide HB) hb k hkl
      have hk0 : (0 : Int) ≤ (k : Int) := Int.natCast_nonneg _
      have hk1 : (k : Int) < (n : Int) := by omega
      generalize ls[k] = p at c1 c2
      go_wp2_with fail
      go_region_held3 (fun w' => w'.cell? ⟨ga, oa + k, none⟩ = some (.string ⟨p.toArray⟩) ∧ w'.cell? ⟨gb, ob + k, none⟩ = some (.string ⟨p.toArray⟩)) (go_keep) (fail)
      all_goals
        go_wp2
        go_roundw
        case rel => exact ⟨k + 1, by omega, by go_num, hb.drew⟩
        case measure => simp [intOf]; omega
    · go_wp2
      go_ret
      exact ⟨rfl, hb⟩
end Go.Proofs.Ytoindecmckikcaa
