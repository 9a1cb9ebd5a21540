/- The walks of sameFiles and sameDisk: two disks of the same files are the same. -/
import Derived.Test.YtfnkcpjfjijglaaDiskHelp
namespace Go.Proofs.Ytfnkcpjfjijglaa
open Go.RowKit
set_option linter.unusedVariables false
attribute [local go_sem ↓] Go.wp_at_zero Go.wp_at_succ

set_option maxRecDepth 100000 in
set_option maxHeartbeats 1600000 in
theorem sameFiles_any (va vb : Value) (ba bb : Nat) (fs : List FileL) (w : World) (hA : w.ownsRow ba 34 3 va fs.length (filesC fs)) (hB : w.ownsRow bb 34 3 vb fs.length (filesC fs)) (hl : fs.length ≤ 2000000) :
    Calls Try.prog 30 #[va, vb] w fun e w' => e = .returned (.bool true) ∧ Below w.heap.size w w' := by
  obtain ⟨aa, ca, rfl, sga⟩ := ownsRow_shape hA
  obtain ⟨ab, cb, rfl, sgb⟩ := ownsRow_shape hB
  have hne : ((fs.length : Int) != (fs.length : Int)) = false := by simp
  go_enter Try.func30, Try.ntmps30
  go_wp2
  go_loopw [5] (fun i wr => ∃ k : Nat, k ≤ fs.length ∧ i = .int .i64 k ∧ Below w.heap.size w wr)
    (fun i _ => fs.length - (intOf i).toNat)
  case atStart => exact ⟨0, Nat.zero_le _, rfl, Below.refl _ _⟩
  case round =>
    obtain ⟨k, hk, rfl, hb⟩ := hrel
    have hsz := hb.size
    by_cases hlt : k < fs.length
    · obtain ⟨ga, rfl⟩ := sga (by omega)
      obtain ⟨gb, rfl⟩ := sgb (by omega)
      have hk0 : (0 : Int) ≤ (k : Int) := Int.natCast_nonneg _
      have hk1 : (k : Int) < (fs.length : Int) := by omega
      obtain ⟨c1, c2, c3⟩ := filesC_cell (ownsRow_below hA hb) hlt
      obtain ⟨d1, d2, d3⟩ := filesC_cell (ownsRow_below hB hb) hlt
      generalize fs[k] = p at c1 c2 c3 d1 d2 d3
      clear hA hB sga sgb
      go_wp2_with fail
      go_region_held3 (fun w' => w'.cell? ⟨ga, k * 3, none⟩ = some (.string ⟨p.name.toArray⟩) ∧ w'.cell? ⟨ga, k * 3 + 1, none⟩ = some (.string ⟨p.data.toArray⟩) ∧ w'.cell? ⟨ga, k * 3 + 2, none⟩ = some (.int .i64 p.safe) ∧ w'.cell? ⟨gb, k * 3, none⟩ = some (.string ⟨p.name.toArray⟩) ∧ w'.cell? ⟨gb, k * 3 + 1, none⟩ = some (.string ⟨p.data.toArray⟩) ∧ w'.cell? ⟨gb, k * 3 + 2, none⟩ = some (.int .i64 p.safe))
        (go_keep) (fail)
      have R : Below w.heap.size w wr.drew := hb.drew
      clear hb c1 c2 c3 d1 d2 d3
      go_wp2
      go_roundw
      case rel => exact ⟨k + 1, by omega, by go_num, R⟩
      case measure => simp [intOf]; omega
    · clear sga sgb hA hB
      go_wp2
      go_ret
      exact ⟨rfl, hb⟩

set_option maxRecDepth 100000 in
set_option maxHeartbeats 1600000 in
theorem sameDisk_any (va vb : Value) (ba bb : Nat) (fs : List FileL) (w : World) (hA : w.ownsRow ba 34 3 va fs.length (filesC fs)) (hB : w.ownsRow bb 34 3 vb fs.length (filesC fs)) (hl : fs.length ≤ 2000000) :
    Calls Try.prog 10 #[.agg #[va], .agg #[vb]] w fun e w' => e = .returned (.bool true) ∧ Below w.heap.size w w' := by
  obtain ⟨aa, ca, rfl, -⟩ := ownsRow_shape hA
  obtain ⟨ab, cb, rfl, -⟩ := ownsRow_shape hB
  have C := fun W hA hB => hide (sameFiles_any (.slice aa fs.length ca) (.slice ab fs.length cb) ba bb fs W hA hB hl)
  have HA := hide hA
  have HB := hide hB
  clear hA hB
  go_enter Try.func10, Try.ntmps10
  go_wp2_with fail
  refine (unhide (C _ (((unhide HA).alloc _).alloc _) (((unhide HB).alloc _).alloc _))).mono ?_
  rintro e w1 ⟨rfl, hb1⟩
  have R : Below w.heap.size w w1 := (((Below.refl _ _).alloc (Nat.le_refl _) _).alloc (by simp) _).trans (hb1.mono (by simp; omega))
  go_wp2
  go_ret
  exact ⟨rfl, R⟩
end Go.Proofs.Ytfnkcpjfjijglaa
