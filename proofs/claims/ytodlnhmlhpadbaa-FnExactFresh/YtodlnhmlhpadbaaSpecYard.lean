/- The walks of the specification's smaller functions over a yard: where a run stands. -/
import Derived.Test.YtodlnhmlhpadbaaS20
import Derived.Test.YtodlnhmlhpadbaaS7
import Derived.Deep.QuietTactic
import Derived.BigQuiet
import Derived.Deep.DeepCutAuto
namespace Go.Proofs.Ytodlnhmlhpadbaa
open Go.RowKit
set_option linter.unusedVariables false
set_option linter.unusedSimpArgs false
attribute [local go_sem ↓] Go.wp_at_zero Go.wp_at_succ

theorem specIn_true (n lo hi : Int) (h0 : lo ≤ n) (h1 : n ≤ hi) (w : World) : Calls Try.prog 49 #[.int .i64 n, .int .i64 lo, .int .i64 hi] w fun e w' => e = .returned (.bool true) ∧ Below w.heap.size w w' := (in_yes n lo hi w h0 h1).mono (fun e w' ⟨a, b⟩ => ⟨a, b ▸ Below.refl _ _⟩)
theorem specIn_false (n lo hi : Int) (h : ¬ (lo ≤ n ∧ n ≤ hi)) (w : World) : Calls Try.prog 49 #[.int .i64 n, .int .i64 lo, .int .i64 hi] w fun e w' => e = .returned (.bool false) ∧ Below w.heap.size w w' := by
  by_cases h0 : n < lo
  · exact (in_low n lo hi w h0).mono (fun e w' ⟨a, b⟩ => ⟨a, b ▸ Below.refl _ _⟩)
  · exact (in_high n lo hi w (by omega) (by omega)).mono (fun e w' ⟨a, b⟩ => ⟨a, b ▸ Below.refl _ _⟩)
/-- The place of the first run with this number. -/
def runAt (rs : List RunL) (id : Int) : Int :=
  if 8 < rs.length then -1 else if rs.findIdx (fun r => r.id == id) < rs.length then (rs.findIdx (fun r => r.id == id) : Int) else -1
theorem runAt_many {rs : List RunL} {id : Int} (h : 8 < rs.length) : runAt rs id = -1 := by unfold runAt; rw [if_pos h]
theorem runAt_some {rs : List RunL} {id : Int} {k : Nat} (h8 : rs.length ≤ 8) (hk : k < rs.length) (he : (rs[k]).id = id) (hn : ∀ (j : Nat) (h : j < rs.length), j < k → (rs[j]).id ≠ id) : runAt rs id = (k : Int) := by
  have e : rs.findIdx (fun r => r.id == id) = k := (List.findIdx_eq hk).2 ⟨by simp [he], fun j hj => by simpa using hn j (by omega) hj⟩
  unfold runAt
  rw [if_neg (by omega), e, if_pos hk]
theorem runAt_none {rs : List RunL} {id : Int} (hn : ∀ (j : Nat) (h : j < rs.length), (rs[j]).id ≠ id) : runAt rs id = -1 := by
  have e : rs.findIdx (fun r => r.id == id) = rs.length := List.findIdx_eq_length.2 (fun x hx => by
    obtain ⟨j, hj, rfl⟩ := List.mem_iff_getElem.1 hx
    simpa using hn j hj)
  unfold runAt
  split
  · rfl
  · rw [if_neg (by omega)]
theorem runAt_ge {rs : List RunL} {id : Int} : runAt rs id = -1 ∨ ∃ k : Nat, runAt rs id = (k : Int) ∧ ∃ h : k < rs.length, (rs[k]).id = id := by
  unfold runAt
  split
  · exact .inl rfl
  · split
    · rename_i h
      refine .inr ⟨_, rfl, h, ?_⟩
      have := List.findIdx_getElem (w := h)
      simpa using this
    · exact .inl rfl
set_option maxRecDepth 100000 in
set_option maxHeartbeats 3200000 in
theorem specRunAt_any (va vb : Value) (lo hi : Nat) (us : List Value) (ps : List (Value × Value)) (y : YardL) (id : Int) (w : World) (h : YardX w lo hi va vb us ps y) (hl : y.runs.length ≤ 2000000) :
    Calls Try.prog 18 #[yardV y va vb, .int .i64 id] w fun e w' => e = .returned (.int .i64 (runAt y.runs id)) ∧ Below w.heap.size w w' := by
  obtain ⟨a1, c1, rfl, -⟩ := ownsPc_shape h.sh.out.own
  obtain ⟨a2, c2, rfl, sg⟩ := ownsPc_shape h.rn.out.own
  have HR := hide h.rn
  have hpl := h.rn.len
  have HPL := hide hpl
  clear h hpl
  unfold yardV yardC
  go_enter Try.func18, Try.ntmps18
  go_upto_region 1 with fail
  obtain ⟨W, hW⟩ : ∃ W, W = w.alloc (Obj.cells #[.int .i64 y.now, .int .i64 y.seq, .slice a1 y.shelf.length c1, .slice a2 y.runs.length c2] 25) := ⟨_, rfl⟩
  have hx : W.heap[w.heap.size]? = some (.cells #[.int .i64 y.now, .int .i64 y.seq, .slice a1 y.shelf.length c1, .slice a2 y.runs.length c2] 25 (0, 0)) := by rw [hW]; exact heap_alloc_new _ _
  have hb0 : Below w.heap.size w W := by rw [hW]; exact (Below.refl _ _).alloc (Nat.le_refl _) _
  have HR2 := hide (runsX_below (unhide HR) hb0)
  rw [← hW]
  have x3 := cellIn (i := 3) hx rfl
  have HB := hide hb0
  clear hW hx hb0 HR
  generalize hrs : y.runs = rs at *
  generalize hqq : Value.slice a2 rs.length c2 = q at x3
  subst hqq
  by_cases h8 : 8 < rs.length
  · have H1 := hide (runAt_many (id := id) h8)
    have e8 : ¬ (rs.length : Int) ≤ 8 := by omega
    have e0 : (0 : Int) < (rs.length : Int) := by omega
    go_wp2
    go_loopw [5] (fun i wr => i = .int .i64 0 ∧ wr = W) (fun _ _ => 0)
    case atStart => exact ⟨rfl, rfl⟩
    case round =>
      obtain ⟨rfl, rfl⟩ := hrel
      go_wp2
      go_ret
      exact ⟨by (try rw [hrs]); rw [unhide H1] <;> rfl, unhide HB⟩
  · have e8 : (rs.length : Int) ≤ 8 := by omega
    go_wp2
    go_loopw [5] (fun i wr => ∃ k : Nat, k ≤ rs.length ∧ i = .int .i64 k ∧ Hid (∀ (j : Nat) (h : j < rs.length), j < k → (rs[j]).id ≠ id) ∧ wr = W)
      (fun i _ => rs.length - (intOf i).toNat)
    case atStart => exact ⟨0, Nat.zero_le _, rfl, hide (fun j _ h => by omega), rfl⟩
    case round =>
      obtain ⟨k, hk, rfl, HN, rfl⟩ := hrel
      by_cases hlt : k < rs.length
      · obtain ⟨g, off, rfl⟩ := sg (by omega)
        have hk0 : (0 : Int) ≤ (k : Int) := Int.natCast_nonneg _
        have hk1 : (k : Int) < (rs.length : Int) := by omega
        have hpk : k < ps.length := by rw [unhide HPL]; exact hlt
        obtain ⟨z0, -⟩ := runs_cells (unhide HR2) rfl hpk hlt
        by_cases he : (rs[k]).id = id
        · have H1 := hide (runAt_some (by omega) hlt he (unhide HN))
          rw [he] at z0
          have e1 : (id == id) = true := by simp
          clear he
          go_wp2
          go_ret
          exact ⟨by (try rw [hrs]); rw [unhide H1] <;> rfl, unhide HB⟩
        · have e1 : ((rs[k]).id == id) = false := by simpa using he
          have HN2 : Hid (∀ (j : Nat) (h : j < rs.length), j < k + 1 → (rs[j]).id ≠ id) := hide (fun j hj hj2 => by
            rcases Nat.lt_succ_iff_lt_or_eq.1 hj2 with q | q
            · exact unhide HN j hj q
            · subst q; exact he)
          clear he
          generalize (rs[k]).id = d at z0 e1
          go_wp2
          go_roundw
          case rel => exact ⟨k + 1, by omega, by go_num, HN2, by first | rfl | trivial⟩
          case measure => simp [intOf]; omega
      · have hk1 : ¬ (k : Int) < (rs.length : Int) := by omega
        have H1 := hide (runAt_none (rs := rs) (id := id) (fun j hj => unhide HN j hj (by omega)))
        go_wp2
        go_ret
        exact ⟨by (try rw [hrs]); rw [unhide H1] <;> rfl, unhide HB⟩
end Go.Proofs.Ytodlnhmlhpadbaa
