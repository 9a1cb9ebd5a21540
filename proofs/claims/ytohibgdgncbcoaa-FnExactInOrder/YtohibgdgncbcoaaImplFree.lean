/- Which tasks are told, as an array of twelve truths; the walks of the program's isFree and leastFree. -/
import Derived.Test.YtohibgdgncbcoaaImplPlan
import Derived.Test.YtohibgdgncbcoaaSpecOrder
namespace Go.Proofs.Ytohibgdgncbcoaa
open Go.RowKit
open scoped Classical
set_option linter.unusedVariables false
set_option linter.unusedSimpArgs false
attribute [local go_sem ↓] Go.wp_at_zero Go.wp_at_succ

/-- The cells of the array. -/
def toldC (ls : List Int) : Array Value := Array.ofFn (n := 12) fun i => .bool (ls.contains (i.val : Int))
theorem toldC_size (ls : List Int) : (toldC ls).size = 12 := by simp [toldC]
theorem toldC_get (ls : List Int) (t : Nat) (h : t < 12) : (toldC ls)[t]? = some (.bool (ls.contains (t : Int))) := by
  rw [toldC, Array.getElem?_ofFn]
  simp [h]
theorem toldC_set (ls : List Int) (t : Nat) (h : t < 12) : (toldC ls).setIfInBounds t (.bool true) = toldC (ls ++ [(t : Int)]) := by
  apply Array.ext
  · simp [toldC]
  · intro i h1 h2
    have hi : i < 12 := by simpa [toldC] using h2
    rw [Array.getElem_setIfInBounds (by rw [toldC_size]; exact hi)]
    simp only [toldC, Array.getElem_ofFn]
    by_cases e : t = i
    · subst e
      rw [if_pos rfl]
      simp
    · rw [if_neg e]
      have : ¬ (i : Int) = (t : Int) := by omega
      simp [this]
theorem toldC_one (ls : List Int) : (toldC ls).all (·.oneCell') = true := by
  rw [Array.all_eq_true]
  intro i hi
  simp [toldC, Value.oneCell']
theorem infoTold : (Try.prog.info? 54).map (·.size) = some 12 := by kernel_rfl
theorem zeroTold (w : World) : (zeroValue 54).run Try.prog w = .ok (.agg (toldC [])) w := by kernel_rfl
/-- A task is free just if all for which it waits are told, and it is not. -/
theorem ready_yes {es : List EdgeL} {n : Nat} {ls : List Int} {t : Int} (hG : GoodP es n) (h : ∀ e ∈ es, e.dst = t → ls.contains e.fr = true) : ready es n ls t = !ls.contains t := by
  unfold ready
  have : (bef es n t).all (fun b => ls.contains b) = true := by
    rw [List.all_eq_true]
    intro b hb
    exact h _ ((bef_mem hG b t).1 hb) rfl
  rw [this, Bool.and_true]
theorem ready_no {es : List EdgeL} {n : Nat} {ls : List Int} {e : EdgeL} (hG : GoodP es n) (he : e ∈ es) (hf : ls.contains e.fr = false) : ready es n ls e.dst = false := by
  have hb : e.fr ∈ bef es n e.dst := (bef_mem hG e.fr e.dst).2 he
  cases hr : ready es n ls e.dst with
  | false => rfl
  | true =>
    have := ((ready_iff es n ls e.dst).1 hr).2 _ hb
    rw [List.contains_iff_mem.2 this] at hf
    cases hf
set_option maxRecDepth 100000 in
set_option maxHeartbeats 3200000 in
theorem implFree_any (va : Value) (ba n t : Nat) (p : PlanL) (ls : List Int) (w : World) (hA : w.ownsRow ba 69 2 va p.edges.length (edgesC p.edges)) (hl : p.edges.length ≤ 2000000) (hG : GoodP p.edges n) (h12 : n ≤ 12) (ht : t < n) :
    Calls Try.prog 43 #[planV p va, .agg (toldC ls), .int .i64 (t : Int)] w fun e w' => e = .returned (.bool (ready p.edges n ls (t : Int))) ∧ Below w.heap.size w w' := by
  obtain ⟨p1, p2, p3, p4, es⟩ := p
  unfold planV
  simp only at hA hl hG ⊢
  obtain ⟨aa, ca, rfl, sga⟩ := ownsRow_shape hA
  have HG := hide hG
  clear hG
  obtain ⟨rd, hrd⟩ : ∃ rd, rd = ready es n ls (t : Int) := ⟨_, rfl⟩
  have HY := hide (fun h => hrd.trans (ready_yes (ls := ls) (t := (t : Int)) (unhide HG) h))
  have HN := hide (fun (e : EdgeL) (he : e ∈ es) (hd : e.dst = (t : Int)) (hf : ls.contains e.fr = false) => hrd.trans (hd ▸ ready_no (unhide HG) he hf))
  rw [← hrd]
  clear hrd
  go_enter Try.func43, Try.ntmps43
  go_wp2
  obtain ⟨W, hW⟩ : ∃ W, W = (w.alloc (Obj.cells #[.int .i64 p1, .int .i64 p2, .int .i64 p3, .int .i64 p4, .slice aa es.length ca] 26)).alloc (Obj.cells (toldC ls) 54) := ⟨_, rfl⟩
  have hb0 : Below w.heap.size w W := by rw [hW]; exact ((Below.refl _ _).alloc (Nat.le_refl _) _).alloc (by simp) _
  have hT : W.heap[w.heap.size + 1]? = some (.cells (toldC ls) 54 (0, 0)) := by rw [hW]; exact alloc_atP _ _ _ (by simp)
  have hA2 := hide (ownsRow_below hA hb0)
  rw [← hW]
  clear hW hA
  go_loopw [12] (fun i wr => ∃ k : Nat, k ≤ es.length ∧ i = .int .i64 k ∧ Below W.heap.size W wr ∧ Hid (∀ e ∈ es.take k, e.dst = (t : Int) → ls.contains e.fr = true))
    (fun i _ => es.length - (intOf i).toNat)
  case atStart => exact ⟨0, Nat.zero_le _, rfl, Below.refl _ _, hide (by simp)⟩
  case round =>
    obtain ⟨k, hk, rfl, hb, HU⟩ := hrel
    have hT2 := heapLater hb hT
    have ht12 : (t : Int) < 12 := by omega
    have ht0 : (0 : Int) ≤ (t : Int) := Int.natCast_nonneg _
    have cT := cellIn hT2 (toldC_get ls t (by omega))
    by_cases hlt : k < es.length
    · obtain ⟨ga, rfl⟩ := sga (by omega)
      have hk0 : (0 : Int) ≤ (k : Int) := Int.natCast_nonneg _
      have hk1 : (k : Int) < (es.length : Int) := by omega
      obtain ⟨c1, c2⟩ := edgesC_cell (ownsRow_below (unhide hA2) hb) hlt
      have HS := hide (List.take_succ_eq_append_getElem hlt)
      have HN1 := hide (unhide HN es[k] (List.getElem_mem hlt))
      have hin := (unhide HG).ins es[k] (List.getElem_mem hlt)
      generalize es[k] = q at c1 c2 HS HN1 hin
      obtain ⟨qa, qb⟩ := q
      simp only at c1 c2 hin HN1
      obtain ⟨a, rfl⟩ : ∃ a : Nat, qa = (a : Int) := ⟨qa.toNat, by omega⟩
      have ha12 : (a : Int) < 12 := by omega
      have ha0 : (0 : Int) ≤ (a : Int) := Int.natCast_nonneg _
      have hne : w.heap.size + 1 ≠ wr.heap.size := by have := (Array.getElem?_eq_some_iff.1 hT2).1; omega
      have cA := cellIn hT2 (toldC_get ls a (by omega))
      have hb2 : Below W.heap.size W (wr.alloc (Obj.cells #[.int .i64 (a : Int), .int .i64 qb] 69)) := hb.alloc hb.size _
      have cA2 : (wr.alloc (Obj.cells #[.int .i64 (a : Int), .int .i64 qb] 69)).cell? ⟨w.heap.size + 1, a, none⟩ = some (.bool (ls.contains (a : Int))) := cellIn (heapLater hb2 hT) (toldC_get ls a (by omega))
      have HB2 := hide hb2
      have HB := hide (hb0.trans (hb2.mono hb0.size))
      have NX : Hid ((qb = (t : Int) → ls.contains (a : Int) = true) → ∀ e ∈ es.take (k + 1), e.dst = (t : Int) → ls.contains e.fr = true) := hide (fun h e he hd => by
        rw [unhide HS] at he
        rcases List.mem_append.1 he with he | he
        · exact unhide HU e he hd
        · rw [List.mem_singleton] at he
          subst he
          exact h hd)
      generalize ls.contains (a : Int) = ct at cA cA2 NX HN1
      clear HS HU hin cT hT2 hA2 hT hb hb2 hb0 HN HY HG sga
      by_cases hq : qb = (t : Int)
      · subst hq
        cases ct with
        | true =>
          have R := hide (unhide NX (fun _ => rfl))
          clear NX HN1 HB
          go_wp2
          go_roundw
          case rel => exact ⟨k + 1, by omega, by go_num, unhide HB2, R⟩
          case measure => simp [intOf]; omega
        | false =>
          have R := hide (unhide HN1 rfl rfl)
          clear NX HN1 HB2
          go_wp2
          go_ret
          exact ⟨by rw [unhide R]; rfl, unhide HB⟩
      · have hq1 : (qb == (t : Int)) = false := by simp [hq]
        have R := hide (unhide NX (fun h => absurd h hq))
        clear NX HN1 HB hq
        go_wp2
        go_roundw
        case rel => exact ⟨k + 1, by omega, by go_num, unhide HB2, R⟩
        case measure => simp [intOf]; omega
    · have hke : es.take k = es := List.take_of_length_le (by omega)
      rw [hke] at HU
      have R := hide (unhide HY (unhide HU))
      have HB := hide (hb0.trans (hb.mono hb0.size))
      generalize ls.contains (t : Int) = ct at cT R
      clear HU HY HN HG hke hA2 hb0 hT hb sga hT2
      go_wp2
      go_ret
      exact ⟨by rw [unhide R]; rfl, unhide HB⟩
/-- What leastFree answers: the least task that is free, or -1. -/
def LeastA (es : List EdgeL) (n : Nat) (ls : List Int) (r : Int) : Prop := ((0 ≤ r ∧ r < (n : Int)) ∧ ready es n ls r = true ∧ ∀ u : Int, 0 ≤ u → u < r → ready es n ls u = false) ∨ (r = -1 ∧ ∀ u : Int, 0 ≤ u → u < (n : Int) → ready es n ls u = false)
set_option maxRecDepth 100000 in
set_option maxHeartbeats 3200000 in
theorem implLeast_any (va : Value) (ba n : Nat) (p : PlanL) (ls : List Int) (w : World) (hA : w.ownsRow ba 69 2 va p.edges.length (edgesC p.edges)) (hl : p.edges.length ≤ 2000000) (hn : p.tasks = (n : Int)) (hG : GoodP p.edges n) (h12 : n ≤ 12) :
    Calls Try.prog 37 #[planV p va, .agg (toldC ls)] w fun e w' => ∃ r : Int, e = .returned (.int .i64 r) ∧ LeastA p.edges n ls r ∧ Below w.heap.size w w' := by
  have FR := fun (t : Nat) (W : World) (h : W.ownsRow ba 69 2 va p.edges.length (edgesC p.edges)) (ht : t < n) => hide (implFree_any va ba n t p ls W h hl hG h12 ht)
  clear hG
  obtain ⟨p1, p2, p3, p4, es⟩ := p
  unfold planV at FR ⊢
  simp only at hA hl hn FR ⊢
  subst hn
  obtain ⟨aa, ca, rfl, sga⟩ := ownsRow_shape hA
  clear sga
  have hI : (Try.prog.info? 54).map (·.size) = some (toldC ls).size := by rw [toldC_size]; exact infoTold
  go_enter Try.func37, Try.ntmps37
  go_wp2
  obtain ⟨W, hW⟩ : ∃ W, W = (w.alloc (Obj.cells #[.int .i64 p1, .int .i64 p2, .int .i64 p3, .int .i64 (n : Int), .slice aa es.length ca] 26)).alloc (Obj.cells (toldC ls) 54) := ⟨_, rfl⟩
  have hb0 : Below w.heap.size w W := by rw [hW]; exact ((Below.refl _ _).alloc (Nat.le_refl _) _).alloc (by simp) _
  have hP : W.heap[w.heap.size]? = some (.cells #[.int .i64 p1, .int .i64 p2, .int .i64 p3, .int .i64 (n : Int), .slice aa es.length ca] 26 (0, 0)) := by rw [hW, Below.heap_alloc _ _ _ (by simp)]; exact heap_alloc_new _ _
  have hT : W.heap[w.heap.size + 1]? = some (.cells (toldC ls) 54 (0, 0)) := by rw [hW]; exact alloc_atP _ _ _ (by simp)
  have HA := hide (ownsRow_below hA hb0)
  rw [← hW]
  clear hW hA
  go_loopw [8] (fun i wr => ∃ k : Nat, k ≤ n ∧ i = .int .i64 k ∧ Below W.heap.size W wr ∧ Hid (∀ u : Int, 0 ≤ u → u < (k : Int) → ready es n ls u = false))
    (fun i _ => n - (intOf i).toNat)
  case atStart => exact ⟨0, Nat.zero_le _, rfl, Below.refl _ _, hide (fun u h0 h1 => by omega)⟩
  case round =>
    obtain ⟨k, hk, rfl, hb, HU⟩ := hrel
    by_cases hlt : k < n
    · have hk0 : (0 : Int) ≤ (k : Int) := Int.natCast_nonneg _
      have hk1 : (k : Int) < (n : Int) := by omega
      have hT2 := heapLater hb hT
      obtain ⟨c0, c1, c2, c3, c4⟩ := box_cells hP hb
      have hRow := ownsRow_below (unhide HA) hb
      have FR1 := fun W' h => FR k W' h hlt
      obtain ⟨rd, hrd⟩ : ∃ rd, rd = ready es n ls (k : Int) := ⟨_, rfl⟩
      rw [← hrd] at FR1
      have HRD := hide hrd
      clear FR hrd
      go_wp2_with (refine wpList_load_row rfl 54 _ rfl (w.heap.size + 1) rfl 54 (toldC ls) (0, 0) _ hT2 Try.underlying54 rfl hI ?_)
      refine (unhide (FR1 _ hRow)).mono ?_
      rintro e w1 ⟨rfl, b1⟩
      have hb2 := hb.trans (b1.mono hb.size)
      have HB := hide (hb0.trans (hb2.mono hb0.size))
      clear FR1 hRow b1 hb c0 c1 c2 c3 c4 hT2
      cases rd with
      | true =>
        have R : Hid (LeastA es n ls (k : Int)) := hide (.inl ⟨⟨hk0, hk1⟩, (unhide HRD).symm, unhide HU⟩)
        clear HU HRD hb2
        go_wp2
        go_ret
        exact ⟨_, rfl, unhide R, unhide HB⟩
      | false =>
        have R : Hid (∀ u : Int, 0 ≤ u → u < ((k + 1 : Nat) : Int) → ready es n ls u = false) := hide (fun u h0 h1 => by
          by_cases e : u = (k : Int)
          · rw [e]; exact (unhide HRD).symm
          · exact unhide HU u h0 (by omega))
        clear HU HRD HB
        go_wp2
        go_roundw
        case rel => exact ⟨k + 1, by omega, by go_num, hb2, R⟩
        case measure => simp [intOf]; omega
    · have hk1 : ¬ (k : Int) < (n : Int) := by omega
      have R : Hid (LeastA es n ls (-1)) := hide (.inr ⟨rfl, fun u h0 h1 => unhide HU u h0 (by omega)⟩)
      have HB := hide (hb0.trans (hb.mono hb0.size))
      clear HU FR HA hb0 hP hT
      go_wp2
      go_ret
      exact ⟨_, rfl, unhide R, unhide HB⟩
end Go.Proofs.Ytohibgdgncbcoaa
