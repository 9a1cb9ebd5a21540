/- The walks of sameFiles and sameDisk at two disks that are not the same. -/
import Derived.Test.YtfnkcpjfjijglaaSameDisk
import Derived.Deep.QuietTactic
import Derived.BigQuiet
namespace Go.Proofs.Ytfnkcpjfjijglaa
open Go.RowKit
set_option linter.unusedVariables false
attribute [local go_sem ↓] Go.wp_at_zero Go.wp_at_succ

set_option maxRecDepth 100000 in
set_option maxHeartbeats 1600000 in
theorem sameFiles_not (va vb : Value) (ba bb : Nat) (fs ls : List FileL) (w : World) (hA : w.ownsRow ba 34 3 va fs.length (filesC fs)) (hB : w.ownsRow bb 34 3 vb ls.length (filesC ls)) (hl : fs.length ≤ 2000000) (hl2 : ls.length ≤ 2000000) (hne : ¬ fs = ls) :
    Calls Try.prog 30 #[va, vb] w fun e w' => e = .returned (.bool false) ∧ Below w.heap.size w w' := by
  obtain ⟨aa, ca, rfl, sga⟩ := ownsRow_shape hA
  obtain ⟨ab, cb, rfl, sgb⟩ := ownsRow_shape hB
  by_cases hn : fs.length = ls.length
  · have hn' : ((fs.length : Int) != (ls.length : Int)) = false := by simp [hn]
    have HN := hide hn
    have HNE := hide hne
    clear hn hne
    go_enter Try.func30, Try.ntmps30
    go_wp2
    go_loopw [5] (fun i wr => ∃ k : Nat, k ≤ fs.length ∧ i = .int .i64 k ∧ Below w.heap.size w wr ∧ Hid (∀ (j : Nat) (h : j < fs.length) (h' : j < ls.length), j < k → fs[j] = ls[j]))
      (fun i _ => fs.length - (intOf i).toNat)
    case atStart => exact ⟨0, Nat.zero_le _, rfl, Below.refl _ _, hide (fun j _ _ h => by omega)⟩
    case round =>
      obtain ⟨k, hk, rfl, hb, hat⟩ := hrel
      by_cases hlt : k < fs.length
      · have hlt2 : k < ls.length := by have := unhide HN; omega
        obtain ⟨ga, rfl⟩ := sga (by omega)
        obtain ⟨gb, rfl⟩ := sgb (by omega)
        have hk0 : (0 : Int) ≤ (k : Int) := Int.natCast_nonneg _
        have hk1 : (k : Int) < (fs.length : Int) := by omega
        have hk2 : (k : Int) < (ls.length : Int) := by omega
        obtain ⟨c1, c2, c3⟩ := filesC_cell (ownsRow_below hA hb) hlt
        obtain ⟨d1, d2, d3⟩ := filesC_cell (ownsRow_below hB hb) hlt2
        have HG : Hid (fs[k] = ls[k] → ∀ (j : Nat) (h : j < fs.length) (h' : j < ls.length), j < k + 1 → fs[j] = ls[j]) := hide (fun h j hj hj' hjk => by
          by_cases e : j = k
          · subst e; exact h
          · exact unhide hat j hj hj' (by omega))
        generalize fs[k] = p at c1 c2 c3 HG
        generalize ls[k] = q at d1 d2 d3 HG
        obtain ⟨pn, pd, ps⟩ := p
        obtain ⟨qn, qd, qs⟩ := q
        simp only at c1 c2 c3 d1 d2 d3
        clear hA hB sga sgb hat
        by_cases k1 : pn = qn
        · by_cases k2 : pd = qd
          · by_cases k3 : ps = qs
            · subst k1; subst k2; subst k3
              have R := hide (unhide HG rfl)
              clear HG
              go_wp2_with fail
              go_region_held3 (fun w' => w'.cell? ⟨ga, k * 3, none⟩ = some (.string ⟨pn.toArray⟩) ∧ w'.cell? ⟨ga, k * 3 + 1, none⟩ = some (.string ⟨pd.toArray⟩) ∧ w'.cell? ⟨ga, k * 3 + 2, none⟩ = some (.int .i64 ps) ∧ w'.cell? ⟨gb, k * 3, none⟩ = some (.string ⟨pn.toArray⟩) ∧ w'.cell? ⟨gb, k * 3 + 1, none⟩ = some (.string ⟨pd.toArray⟩) ∧ w'.cell? ⟨gb, k * 3 + 2, none⟩ = some (.int .i64 ps)) (go_keep) (fail)
              have R2 : Below w.heap.size w wr.drew := hb.drew
              clear hb c1 c2 c3 d1 d2 d3
              go_wp2
              go_roundw
              case rel => exact ⟨k + 1, by omega, by go_num, R2, R⟩
              case measure => simp [intOf]; omega
            · have k3' : (ps == qs) = false := by simp [k3]
              subst k1; subst k2
              have R2 : Below w.heap.size w wr.drew := hb.drew
              clear HG
              go_wp2_with fail
              go_region_held3 (fun w' => w'.cell? ⟨ga, k * 3, none⟩ = some (.string ⟨pn.toArray⟩) ∧ w'.cell? ⟨ga, k * 3 + 1, none⟩ = some (.string ⟨pd.toArray⟩) ∧ w'.cell? ⟨ga, k * 3 + 2, none⟩ = some (.int .i64 ps) ∧ w'.cell? ⟨gb, k * 3, none⟩ = some (.string ⟨pn.toArray⟩) ∧ w'.cell? ⟨gb, k * 3 + 1, none⟩ = some (.string ⟨pd.toArray⟩) ∧ w'.cell? ⟨gb, k * 3 + 2, none⟩ = some (.int .i64 qs)) (go_keep) (fail)
              go_wp2
              go_ret
              exact ⟨rfl, R2⟩
          · have k2' : (pd == qd) = false := by simp [k2]
            subst k1
            have R2 : Below w.heap.size w wr.drew := hb.drew
            clear HG
            go_wp2_with fail
            go_region_held3 (fun w' => w'.cell? ⟨ga, k * 3, none⟩ = some (.string ⟨pn.toArray⟩) ∧ w'.cell? ⟨ga, k * 3 + 1, none⟩ = some (.string ⟨pd.toArray⟩) ∧ w'.cell? ⟨ga, k * 3 + 2, none⟩ = some (.int .i64 ps) ∧ w'.cell? ⟨gb, k * 3, none⟩ = some (.string ⟨pn.toArray⟩) ∧ w'.cell? ⟨gb, k * 3 + 1, none⟩ = some (.string ⟨qd.toArray⟩) ∧ w'.cell? ⟨gb, k * 3 + 2, none⟩ = some (.int .i64 qs)) (go_keep) (fail)
            go_wp2
            go_ret
            exact ⟨rfl, R2⟩
        · have k1' : (pn == qn) = false := by simp [k1]
          have R2 : Below w.heap.size w wr.drew := hb.drew
          clear HG
          go_wp2_with fail
          go_region_held3 (fun w' => w'.cell? ⟨ga, k * 3, none⟩ = some (.string ⟨pn.toArray⟩) ∧ w'.cell? ⟨ga, k * 3 + 1, none⟩ = some (.string ⟨pd.toArray⟩) ∧ w'.cell? ⟨ga, k * 3 + 2, none⟩ = some (.int .i64 ps) ∧ w'.cell? ⟨gb, k * 3, none⟩ = some (.string ⟨qn.toArray⟩) ∧ w'.cell? ⟨gb, k * 3 + 1, none⟩ = some (.string ⟨qd.toArray⟩) ∧ w'.cell? ⟨gb, k * 3 + 2, none⟩ = some (.int .i64 qs)) (go_keep) (fail)
          go_wp2
          go_ret
          exact ⟨rfl, R2⟩
      · exact absurd (List.ext_getElem (unhide HN) (fun j h1 h2 => unhide hat j h1 h2 (by omega))) (unhide HNE)
  · have hn' : ((fs.length : Int) != (ls.length : Int)) = true := by simp; omega
    clear hA hB hne
    go_enter Try.func30, Try.ntmps30
    go_wp2
    go_ret
    exact ⟨rfl, Below.refl _ _⟩
set_option maxRecDepth 100000 in
set_option maxHeartbeats 1600000 in
theorem sameDisk_not (va vb : Value) (ba bb : Nat) (fs ls : List FileL) (w : World) (hA : w.ownsRow ba 34 3 va fs.length (filesC fs)) (hB : w.ownsRow bb 34 3 vb ls.length (filesC ls)) (hl : fs.length ≤ 2000000) (hl2 : ls.length ≤ 2000000) (hne : ¬ fs = ls) :
    Calls Try.prog 10 #[.agg #[va], .agg #[vb]] w fun e w' => e = .returned (.bool false) ∧ Below w.heap.size w w' := by
  obtain ⟨aa, ca, rfl, -⟩ := ownsRow_shape hA
  obtain ⟨ab, cb, rfl, -⟩ := ownsRow_shape hB
  have C := fun W hA hB => hide (sameFiles_not (.slice aa fs.length ca) (.slice ab ls.length cb) ba bb fs ls W hA hB hl hl2 hne)
  have HA := hide hA
  have HB := hide hB
  clear hA hB
  go_enter Try.func10, Try.ntmps10
  go_wp2_with fail
  refine (unhide (C _ (((unhide HA).alloc _).alloc _) (((unhide HB).alloc _).alloc _))).mono ?_
  rintro e w1 ⟨rfl, hb1⟩
  have R : Below w.heap.size w w1 := (((Below.refl _ _).alloc (Nat.le_refl _) _).alloc (by simp) _).trans (hb1.mono (by simp; omega))
  go_wp2
  go_ret
  exact ⟨rfl, R⟩
end Go.Proofs.Ytfnkcpjfjijglaa
