/- The walk of the laws' sameEntries: lists that are alike. -/
import Derived.Test.YtccafdoehjdbeaaEntryHelp
import Derived.Laws.StructEq
import Derived.Deep.RegionHeld3
namespace Go.Proofs.Ytccafdoehjdbeaa
open Go.RowKit
set_option linter.unusedVariables false
set_option linter.unusedSimpArgs false
attribute [local go_sem ↓] Go.wp_at_zero Go.wp_at_succ

theorem undEntry : Try.prog.underlying 29 = some (.struct (Try.prog.fieldsOf 29)) := by kernel_rfl
theorem stoodEntry : Try.prog.stoodInHeld 29 = false := by kernel_rfl
theorem guardEntry : Try.prog.eqGuardType Try.prog.depth 29 = false := by kernel_rfl
theorem undIntE : Try.prog.underlying 3 = some (.int .i64) := by kernel_rfl
theorem fldEntry : (Try.prog.fieldsOf 29).toList.map (fun f => (f.name, f.type, f.offset)) = [("Prio", 3, 0), ("Seq", 3, 1), ("Run", 3, 2), ("Task", 3, 3)] := by kernel_rfl
theorem partE_int (w : World) (cs : Array Value) (off : Nat) (v : Value) (h : cs[off]? = some v) : (part 3 cs off).run Try.prog w = .ok v w := by
  have : (isAgg 3).run Try.prog w = .ok false w := by
    unfold isAgg
    rw [Sem.run_bind, run_underlying undIntE w]
    rfl
  simp [part, Sem.run_bind, this, h]
theorem fldsE : ∃ f g h k : Field, (Try.prog.fieldsOf 29) = #[f, g, h, k] ∧ (f.name = "Prio" ∧ f.type = 3 ∧ f.offset = 0) ∧ (g.name = "Seq" ∧ g.type = 3 ∧ g.offset = 1) ∧ (h.name = "Run" ∧ h.type = 3 ∧ h.offset = 2) ∧ (k.name = "Task" ∧ k.type = 3 ∧ k.offset = 3) := by
  have e := fldEntry
  generalize Try.prog.fieldsOf 29 = A at e
  obtain ⟨l⟩ := A
  rcases l with _ | ⟨f, _ | ⟨g, _ | ⟨h, _ | ⟨k, _ | ⟨x, r⟩⟩⟩⟩⟩
  · simp at e
  · simp at e
  · simp at e
  · simp at e
  · simp at e
    exact ⟨f, g, h, k, rfl, e.1, e.2.1, e.2.2.1, e.2.2.2⟩
  · simp at e
theorem entry_self (x : QuadL) (w : World) : (Go.Op.equalIn 10000 29 (quadV x) (quadV x)).run Try.prog w = .ok true w := by
  obtain ⟨f, g, h, k, hA, ⟨f1, f2, f3⟩, ⟨g1, g2, g3⟩, ⟨h1, h2, h3⟩, ⟨k1, k2, k3⟩⟩ := fldsE
  show (Go.Op.equalIn (9999 + 1) 29 (quadV x) (quadV x)).run Try.prog w = _
  unfold quadV
  rw [run_equalIn_struct w 9999 _ _ _ undEntry stoodEntry, hA]
  have ei : ∀ a : Int, (Go.Op.equalIn 9999 3 (.int .i64 a) (.int .i64 a)).run Try.prog w = .ok true w := fun a => by
    have := run_equalIn_int (P := Try.prog) w 9998 3 .i64 .i64 a a undIntE
    simpa using this
  have p0 : (part 3 #[.int .i64 x.a, .int .i64 x.b, .int .i64 x.c, .int .i64 x.d] 0).run Try.prog w = .ok (.int .i64 x.a) w := partE_int w _ _ _ rfl
  have p1 : (part 3 #[.int .i64 x.a, .int .i64 x.b, .int .i64 x.c, .int .i64 x.d] 1).run Try.prog w = .ok (.int .i64 x.b) w := partE_int w _ _ _ rfl
  have p2 : (part 3 #[.int .i64 x.a, .int .i64 x.b, .int .i64 x.c, .int .i64 x.d] 2).run Try.prog w = .ok (.int .i64 x.c) w := partE_int w _ _ _ rfl
  have p3 : (part 3 #[.int .i64 x.a, .int .i64 x.b, .int .i64 x.c, .int .i64 x.d] 3).run Try.prog w = .ok (.int .i64 x.d) w := partE_int w _ _ _ rfl
  simp only [Go.Op.eqFields, f1, f2, f3, g1, g2, g3, h1, h2, h3, k1, k2, k3]
  simp [Sem.run_bind, p0, p1, p2, p3, ei]
set_option maxRecDepth 100000 in
set_option maxHeartbeats 3200000 in
theorem sameEntries_any (va vb : Value) (ba bb : Nat) (es : List QuadL) (w : World) (hA : w.ownsRow ba 29 4 va es.length (quadsC es)) (hB : w.ownsRow bb 29 4 vb es.length (quadsC es)) (hl : es.length ≤ 2000000) :
    Calls Try.prog 18 #[va, vb] w fun e w' => e = .returned (.bool true) ∧ Below w.heap.size w w' := by
  obtain ⟨aa, ca, rfl, sga⟩ := ownsRow_shape hA
  obtain ⟨ab, cb, rfl, sgb⟩ := ownsRow_shape hB
  have hne : ((es.length : Int) != (es.length : Int)) = false := by simp
  go_enter Try.func18, Try.ntmps18
  go_wp2
  go_loopw [5] (fun i wr => ∃ k : Nat, k ≤ es.length ∧ i = .int .i64 k ∧ Below w.heap.size w wr)
    (fun i _ => es.length - (intOf i).toNat)
  case atStart => exact ⟨0, Nat.zero_le _, rfl, Below.refl _ _⟩
  case round =>
    obtain ⟨k, hk, rfl, hb⟩ := hrel
    have hsz := hb.size
    by_cases hlt : k < es.length
    · obtain ⟨ga, rfl⟩ := sga (by omega)
      obtain ⟨gb, rfl⟩ := sgb (by omega)
      have hk0 : (0 : Int) ≤ (k : Int) := Int.natCast_nonneg _
      have hk1 : (k : Int) < (es.length : Int) := by omega
      obtain ⟨c1, c2, c3, c4⟩ := quadsC_cell (ownsRow_below hA hb) hlt
      obtain ⟨d1, d2, d3, d4⟩ := quadsC_cell (ownsRow_below hB hb) hlt
      generalize es[k] = p at c1 c2 c3 c4 d1 d2 d3 d4
      have hself := fun W => entry_self p W
      have hgd := guardEntry
      unfold quadV at hself
      clear hA hB sga sgb
      go_wp2_with fail
      go_region_held3 (fun w' => w'.cell? ⟨ga, k * 4, none⟩ = some (.int .i64 p.a) ∧ w'.cell? ⟨ga, k * 4 + 1, none⟩ = some (.int .i64 p.b) ∧ w'.cell? ⟨ga, k * 4 + 2, none⟩ = some (.int .i64 p.c) ∧ w'.cell? ⟨ga, k * 4 + 3, none⟩ = some (.int .i64 p.d) ∧ w'.cell? ⟨gb, k * 4, none⟩ = some (.int .i64 p.a) ∧ w'.cell? ⟨gb, k * 4 + 1, none⟩ = some (.int .i64 p.b) ∧ w'.cell? ⟨gb, k * 4 + 2, none⟩ = some (.int .i64 p.c) ∧ w'.cell? ⟨gb, k * 4 + 3, none⟩ = some (.int .i64 p.d)) (go_keep) (fail)
      all_goals
        have R : Below w.heap.size w wr.drew := hb.drew
        clear hb c1 c2 c3 c4 d1 d2 d3 d4 hself hgd
        go_wp2
        go_roundw
        case rel => exact ⟨k + 1, by omega, by go_num, R⟩
        case measure => simp [intOf]; omega
    · clear sga sgb hA hB
      go_wp2
      go_ret
      exact ⟨rfl, hb⟩
end Go.Proofs.Ytccafdoehjdbeaa
