/- The walks of the specification's BeforeOf and BehindOf. -/
import Derived.Test.YtnpfboligmnhpaaSpecFault
namespace Go.Proofs.Ytnpfboligmnhpaa
open Go.RowKit
set_option linter.unusedVariables false
attribute [local go_sem ↓] Go.wp_at_zero Go.wp_at_succ

/-- Whether there is an edge from a to b. -/
def hasE (es : List EdgeL) (a b : Int) : Bool := es.any (fun e => e.fr == a && e.dst == b)
/-- The tasks below n for which f, rising. -/
def risen (f : Int → Bool) (n : Nat) : List Int := (List.range n).flatMap (fun t : Nat => if f (t : Int) then [(t : Int)] else [])
theorem risen_zero (f : Int → Bool) : risen f 0 = [] := rfl
theorem risen_succ (f : Int → Bool) (n : Nat) : risen f (n + 1) = risen f n ++ (if f (n : Int) then [(n : Int)] else []) := by simp [risen, List.range_succ]
theorem risen_len (f : Int → Bool) (n : Nat) : (risen f n).length ≤ n := by
  induction n with
  | zero => simp [risen_zero]
  | succ n ih => rw [risen_succ, List.length_append]; split <;> simp <;> omega
theorem hasE_zero (es : List EdgeL) (a b : Int) : hasE (es.take 0) a b = false := by simp [hasE]
theorem hasE_succ (es : List EdgeL) (i : Nat) (hi : i < es.length) (a b : Int) : hasE (es.take (i + 1)) a b = (hasE (es.take i) a b || ((es[i]).fr == a && (es[i]).dst == b)) := by
  unfold hasE
  rw [List.take_succ_eq_append_getElem hi, List.any_append]; simp
theorem hasE_all (es : List EdgeL) (i : Nat) (hi : ¬ i < es.length) (a b : Int) : hasE (es.take i) a b = hasE es a b := by rw [List.take_of_length_le (by omega)]
/-- An edge that is no second one stands nowhere ahead. -/
theorem hasE_once {es : List EdgeL} (hn : es.Nodup) (i : Nat) (hi : i < es.length) (a b : Int) (h : es[i] = ⟨a, b⟩) : hasE (es.take i) a b = false := by
  rw [Bool.eq_false_iff]
  intro ht
  unfold hasE at ht
  rw [List.any_eq_true] at ht
  obtain ⟨e, he, h2⟩ := ht
  rw [Bool.and_eq_true] at h2
  have e1 : e = ⟨a, b⟩ := by cases e; simp at h2; simp [h2.1, h2.2]
  obtain ⟨j, hj, hje⟩ := List.mem_iff_getElem.1 he
  have hj' : j < i := by rw [List.length_take] at hj; omega
  rw [List.getElem_take] at hje
  exact once_not hi (by omega) hj' (by rw [h, hje, e1]) hn
/-- The variables: the plan, and a list of its own. -/
structure LstSt (w W : World) (p : PlanL) (va : Value) (ba gl cl : Nat) (ls : List Int) : Prop where
  box : W.heap[w.heap.size]? = some (.cells #[.int .i64 p.prio, .int .i64 p.most, .int .i64 p.wait, .int .i64 p.tasks, va] 26 (0, 0))
  row : W.ownsRow ba 96 2 va p.edges.length (edgesC p.edges)
  lst : W.ownsRow (w.heap.size + 1) 3 1 (.slice (some ⟨gl, 0, none⟩) ls.length cl) ls.length (intC ls)
  below : Below w.heap.size w W
  old : ∀ x, va.ownBlock = some x → x < w.heap.size
theorem lst_app {w W W' : World} {p : PlanL} {va : Value} {ba gl cl gl' cl' : Nat} {ls : List Int} {x : Int} {o : Obj} (h : LstSt w W p va ba gl cl ls) (hg : (W.alloc o).grownBy W' (some gl))
    (ho : W'.ownsRow (w.heap.size + 1) 3 1 (.slice (some ⟨gl', 0, none⟩) (ls.length + 1) cl') (ls.length + 1) (intC ls ++ [.int .i64 x])) : LstSt w W' p va ba gl' cl' (ls ++ [x]) := by
  have hgl := (h.lst.lt gl rfl).1
  refine ⟨?_, World.ownsRow.kept (World.ownsRow.alloc h.row o) hg ?_, ?_, (h.below.alloc h.below.size o).grown hg (by have := h.below.size; simp; omega) (fun k hk => by cases hk; omega), h.old⟩
  · have hlt := (Array.getElem?_eq_some_iff.1 h.box).1
    rw [hg.block _ (by simp; omega) (by intro e; simp only [Option.some.injEq] at e; omega), Below.heap_alloc W _ _ hlt]; exact h.box
  · cases hv : va.ownBlock with
    | none => exact .inl rfl
    | some y => exact .inr (fun e => by cases e; have := h.old _ hv; omega)
  · rw [List.length_append, intC_append]; exact ho
theorem lst_cells {w W : World} {p : PlanL} {va : Value} {ba gl cl : Nat} {ls : List Int} (h : LstSt w W p va ba gl cl ls) : W.cell? ⟨w.heap.size, 3, none⟩ = some (.int .i64 p.tasks) ∧ W.cell? ⟨w.heap.size, 4, none⟩ = some va := by
  refine ⟨?_, ?_⟩
  · rw [cell_of_row W _ 3 _ _ _ h.box]; rfl
  · rw [cell_of_row W _ 4 _ _ _ h.box]; rfl
set_option maxRecDepth 100000 in
set_option maxHeartbeats 3200000 in
theorem specBef_any (va : Value) (ba n : Nat) (p : PlanL) (a : Int) (w : World) (hA : w.ownsRow ba 96 2 va p.edges.length (edgesC p.edges)) (ht : p.tasks = (n : Int)) (hn : n ≤ 12) (hel : p.edges.length ≤ 30) (hnd : p.edges.Nodup) :
    Calls Try.prog 64 #[planV p va, .int .i64 a] w fun e w' => ∃ (g cap : Nat), e = .returned (.slice (some ⟨g, 0, none⟩) (risen (fun t => hasE p.edges t a) n).length cap) ∧ w'.ownsRow w.heap.size 3 1 (.slice (some ⟨g, 0, none⟩) (risen (fun t => hasE p.edges t a) n).length cap) (risen (fun t => hasE p.edges t a) n).length (intC (risen (fun t => hasE p.edges t a) n)) ∧ Below w.heap.size w w' := by
  obtain ⟨j0, hj0, hy0, hy1, hy2⟩ := info_parts info3
  have old : ∀ x, va.ownBlock = some x → x < w.heap.size := fun x hx => (hA.lt x hx).2
  obtain ⟨p1, p2, p3, p4, es⟩ := p
  simp only at hA ht hel hnd ⊢
  subst ht
  obtain ⟨aa, ca, rfl, sga⟩ := ownsRow_shape hA
  have HA := hide hA
  have HND := hide hnd
  clear hA hnd
  unfold planV
  simp only
  go_enter Try.func64, Try.ntmps64
  go_wp2
  have ST0 : Hid (LstSt w ((w.alloc (Obj.cells #[.int .i64 p1, .int .i64 p2, .int .i64 p3, .int .i64 (n : Int), .slice aa es.length ca] 26)).alloc (Obj.cells #[] 3)) ⟨p1, p2, p3, (n : Int), es⟩ (.slice aa es.length ca) ba (w.heap.size + 1) 0 []) := hide
    ⟨by rw [Below.heap_alloc _ _ _ (by simp)]; exact heap_alloc_new w _, ((unhide HA).alloc _).alloc _, by
      have h := World.ownsRow_lit (base := w.heap.size + 1) (e := 3) (size := 1) (w.alloc (Obj.cells #[.int .i64 p1, .int .i64 p2, .int .i64 p3, .int .i64 (n : Int), .slice aa es.length ca] 26)) #[] 0 (by simp) (by decide) rfl
      rw [show (w.alloc (Obj.cells #[.int .i64 p1, .int .i64 p2, .int .i64 p3, .int .i64 (n : Int), .slice aa es.length ca] 26)).heap.size = w.heap.size + 1 from by simp] at h
      exact h, ((Below.refl _ _).alloc (Nat.le_refl _) _).alloc (by simp) _, old⟩
  clear HA
  go_loopw [5, 6] (fun l v wr => ∃ (t gl cl : Nat) (ls : List Int), t ≤ n ∧ v = .int .i64 t ∧ l = .slice (some ⟨gl, 0, none⟩) ls.length cl ∧ Hid (ls = risen (fun t => hasE es t a) t) ∧ Hid (LstSt w wr ⟨p1, p2, p3, (n : Int), es⟩ (.slice aa es.length ca) ba gl cl ls))
    (fun _ v _ => n - (intOf v).toNat)
  case atStart => exact ⟨0, w.heap.size + 1, 0, [], Nat.zero_le _, rfl, rfl, hide rfl, ST0⟩
  case round =>
    clear ST0
    obtain ⟨t, gl, cl, ls, htn, rfl, rfl, hls, ST⟩ := hrel
    obtain ⟨c3, c4⟩ := lst_cells (unhide ST)
    simp only at c3 c4
    by_cases hlt : t < n
    · have hlt1 : (t : Int) < (n : Int) := by omega
      go_wp2
      go_loopw [5, 7] (fun l v wr => ∃ (i gl cl : Nat) (ls : List Int), i ≤ es.length ∧ v = .int .i64 i ∧ l = .slice (some ⟨gl, 0, none⟩) ls.length cl ∧ Hid (ls = risen (fun t => hasE es t a) t ++ (if hasE (es.take i) (t : Int) a then [(t : Int)] else [])) ∧ Hid (LstSt w wr ⟨p1, p2, p3, (n : Int), es⟩ (.slice aa es.length ca) ba gl cl ls))
        (fun _ v _ => es.length - (intOf v).toNat)
      case atStart => exact ⟨0, gl, cl, ls, Nat.zero_le _, rfl, rfl, hide (by rw [hasE_zero, unhide hls]; simp), ST⟩
      case round =>
        clear c3 c4 hls ST
        obtain ⟨i, gl, cl, ls, hi, rfl, rfl, hls, ST⟩ := hrel
        obtain ⟨c3, c4⟩ := lst_cells (unhide ST)
        simp only at c3 c4
        by_cases hie : i < es.length
        · obtain ⟨ga, rfl⟩ := sga (by omega)
          have hi0 : (0 : Int) ≤ (i : Int) := Int.natCast_nonneg _
          have hi1 : (i : Int) < (es.length : Int) := by omega
          obtain ⟨e1, e2⟩ := edgesC_cell (unhide ST).row hie
          have SU := hide (hasE_succ es i hie)
          have ON := hide (hasE_once (unhide HND) i hie)
          have hrl := risen_len (fun t => hasE es t a) t
          have hll : ls.length ≤ 13 := by rw [unhide hls, List.length_append]; split <;> simp <;> omega
          generalize es[i] = q at e1 e2 SU ON
          obtain ⟨qf, qd⟩ := q
          simp only at e1 e2 SU ON
          clear sga
          by_cases k1 : qf = (t : Int)
          · have k1' : (qf == (t : Int)) = true := by simp [k1]
            by_cases k2 : qd = a
            · have k2' : (qd == a) = true := by simp [k2]
              have R : Hid (ls ++ [(t : Int)] = risen (fun t => hasE es t a) t ++ (if hasE (es.take (i + 1)) (t : Int) a then [(t : Int)] else [])) := hide (by
                have h1 := unhide SU (t : Int) a
                rw [k1', k2'] at h1
                have h2 := unhide ON (t : Int) a (by rw [k1, k2])
                rw [unhide hls, h1, h2]; simp)
              have HST := ST
              have hsz := ((unhide ST).lst.lt gl rfl)
              have K1' := hide k1
              have K2' := hide k2
              clear k1 k2 SU ON hls
              go_wp2_with (at_builtin; refine wpList_append_lies _ (by rfl) _ _ _ (by rfl) (w.heap.size + 1) 3 j0 _ 1 8 Try.underlying34 hj0 hy0 hy1 hy2 rfl (by omega) _ ls.length _ (by rfl) ((unhide ST).lst.alloc _) ⟨wr.heap.size, 0, none⟩ 1 1 [.int .i64 (t : Int)] (by rfl) (by rfl) (World.news_of_block (cs := #[.int .i64 (t : Int)]) (t := 3) (fr := (0, 0)) (heap_alloc_new wr _)) (by simp [Value.oneCell']) (by omega) (by unfold maxLen; omega) (by omega) (by simp; omega) (wr.heap.size + 1) (by simp) ?_)
              intro gl2 cl2 W4 ho4 hg4 hat4 hlt4
              have ST4 := hide (lst_app (unhide HST) hg4 ho4)
              clear ho4 hg4 hat4 hlt4 ST HST e1 e2 c3 c4 hsz
              go_wp2
              go_roundw
              case rel => exact ⟨i + 1, gl2, cl2, ls ++ [(t : Int)], by omega, by go_num, by simp, R, ST4⟩
              case measure => simp [intOf]; omega
            · have k2' : (qd == a) = false := by simp [k2]
              have R : Hid (ls = risen (fun t => hasE es t a) t ++ (if hasE (es.take (i + 1)) (t : Int) a then [(t : Int)] else [])) := hide (by
                have h1 := unhide SU (t : Int) a
                rw [k1', k2'] at h1
                rw [unhide hls, h1]; simp)
              have K1' := hide k1
              clear k1 k2 SU ON hls
              go_wp2
              go_roundw
              case rel => exact ⟨i + 1, gl, cl, ls, by omega, by go_num, rfl, R, ST⟩
              case measure => simp [intOf]; omega
          · have k1' : (qf == (t : Int)) = false := by simp [k1]
            have R : Hid (ls = risen (fun t => hasE es t a) t ++ (if hasE (es.take (i + 1)) (t : Int) a then [(t : Int)] else [])) := hide (by
              have h1 := unhide SU (t : Int) a
              rw [k1'] at h1
              rw [unhide hls, h1]; simp)
            clear k1 SU ON hls
            go_wp2
            go_roundw
            case rel => exact ⟨i + 1, gl, cl, ls, by omega, by go_num, rfl, R, ST⟩
            case measure => simp [intOf]; omega
        · have R : Hid (ls = risen (fun t => hasE es t a) (t + 1)) := hide (by rw [risen_succ, unhide hls, hasE_all es i hie])
          have hi1 : ¬ (i : Int) < (es.length : Int) := by omega
          clear sga hls
          go_wp2
          go_roundw
          case rel => exact ⟨t + 1, gl, cl, ls, by omega, by go_num, rfl, R, ST⟩
          case measure => simp [intOf]; omega
    · have htn' : t = n := by omega
      have HE := hide htn'
      clear htn'
      have hlt1 : ¬ (t : Int) < (n : Int) := by omega
      have ho := (unhide ST).lst
      have hb := (unhide ST).below
      clear sga ST
      go_wp2
      go_ret
      have e1 := unhide hls
      rw [unhide HE] at e1
      rw [e1] at ho ⊢
      exact ⟨_, _, rfl, ownsRow_baseE ho (by omega), hb⟩
set_option maxRecDepth 100000 in
set_option maxHeartbeats 3200000 in
theorem specBeh_any (va : Value) (ba n : Nat) (p : PlanL) (a : Int) (w : World) (hA : w.ownsRow ba 96 2 va p.edges.length (edgesC p.edges)) (ht : p.tasks = (n : Int)) (hn : n ≤ 12) (hel : p.edges.length ≤ 30) (hnd : p.edges.Nodup) :
    Calls Try.prog 56 #[planV p va, .int .i64 a] w fun e w' => ∃ (g cap : Nat), e = .returned (.slice (some ⟨g, 0, none⟩) (risen (fun t => hasE p.edges a t) n).length cap) ∧ w'.ownsRow w.heap.size 3 1 (.slice (some ⟨g, 0, none⟩) (risen (fun t => hasE p.edges a t) n).length cap) (risen (fun t => hasE p.edges a t) n).length (intC (risen (fun t => hasE p.edges a t) n)) ∧ Below w.heap.size w w' := by
  obtain ⟨j0, hj0, hy0, hy1, hy2⟩ := info_parts info3
  have old : ∀ x, va.ownBlock = some x → x < w.heap.size := fun x hx => (hA.lt x hx).2
  obtain ⟨p1, p2, p3, p4, es⟩ := p
  simp only at hA ht hel hnd ⊢
  subst ht
  obtain ⟨aa, ca, rfl, sga⟩ := ownsRow_shape hA
  have HA := hide hA
  have HND := hide hnd
  clear hA hnd
  unfold planV
  simp only
  go_enter Try.func56, Try.ntmps56
  go_wp2
  have ST0 : Hid (LstSt w ((w.alloc (Obj.cells #[.int .i64 p1, .int .i64 p2, .int .i64 p3, .int .i64 (n : Int), .slice aa es.length ca] 26)).alloc (Obj.cells #[] 3)) ⟨p1, p2, p3, (n : Int), es⟩ (.slice aa es.length ca) ba (w.heap.size + 1) 0 []) := hide
    ⟨by rw [Below.heap_alloc _ _ _ (by simp)]; exact heap_alloc_new w _, ((unhide HA).alloc _).alloc _, by
      have h := World.ownsRow_lit (base := w.heap.size + 1) (e := 3) (size := 1) (w.alloc (Obj.cells #[.int .i64 p1, .int .i64 p2, .int .i64 p3, .int .i64 (n : Int), .slice aa es.length ca] 26)) #[] 0 (by simp) (by decide) rfl
      rw [show (w.alloc (Obj.cells #[.int .i64 p1, .int .i64 p2, .int .i64 p3, .int .i64 (n : Int), .slice aa es.length ca] 26)).heap.size = w.heap.size + 1 from by simp] at h
      exact h, ((Below.refl _ _).alloc (Nat.le_refl _) _).alloc (by simp) _, old⟩
  clear HA
  go_loopw [5, 6] (fun l v wr => ∃ (t gl cl : Nat) (ls : List Int), t ≤ n ∧ v = .int .i64 t ∧ l = .slice (some ⟨gl, 0, none⟩) ls.length cl ∧ Hid (ls = risen (fun t => hasE es a t) t) ∧ Hid (LstSt w wr ⟨p1, p2, p3, (n : Int), es⟩ (.slice aa es.length ca) ba gl cl ls))
    (fun _ v _ => n - (intOf v).toNat)
  case atStart => exact ⟨0, w.heap.size + 1, 0, [], Nat.zero_le _, rfl, rfl, hide rfl, ST0⟩
  case round =>
    clear ST0
    obtain ⟨t, gl, cl, ls, htn, rfl, rfl, hls, ST⟩ := hrel
    obtain ⟨c3, c4⟩ := lst_cells (unhide ST)
    simp only at c3 c4
    by_cases hlt : t < n
    · have hlt1 : (t : Int) < (n : Int) := by omega
      go_wp2
      go_loopw [5, 7] (fun l v wr => ∃ (i gl cl : Nat) (ls : List Int), i ≤ es.length ∧ v = .int .i64 i ∧ l = .slice (some ⟨gl, 0, none⟩) ls.length cl ∧ Hid (ls = risen (fun t => hasE es a t) t ++ (if hasE (es.take i) a (t : Int) then [(t : Int)] else [])) ∧ Hid (LstSt w wr ⟨p1, p2, p3, (n : Int), es⟩ (.slice aa es.length ca) ba gl cl ls))
        (fun _ v _ => es.length - (intOf v).toNat)
      case atStart => exact ⟨0, gl, cl, ls, Nat.zero_le _, rfl, rfl, hide (by rw [hasE_zero, unhide hls]; simp), ST⟩
      case round =>
        clear c3 c4 hls ST
        obtain ⟨i, gl, cl, ls, hi, rfl, rfl, hls, ST⟩ := hrel
        obtain ⟨c3, c4⟩ := lst_cells (unhide ST)
        simp only at c3 c4
        by_cases hie : i < es.length
        · obtain ⟨ga, rfl⟩ := sga (by omega)
          have hi0 : (0 : Int) ≤ (i : Int) := Int.natCast_nonneg _
          have hi1 : (i : Int) < (es.length : Int) := by omega
          obtain ⟨e1, e2⟩ := edgesC_cell (unhide ST).row hie
          have SU := hide (hasE_succ es i hie)
          have ON := hide (hasE_once (unhide HND) i hie)
          have hrl := risen_len (fun t => hasE es a t) t
          have hll : ls.length ≤ 13 := by rw [unhide hls, List.length_append]; split <;> simp <;> omega
          generalize es[i] = q at e1 e2 SU ON
          obtain ⟨qf, qd⟩ := q
          simp only at e1 e2 SU ON
          clear sga
          by_cases k1 : qf = a
          · have k1' : (qf == a) = true := by simp [k1]
            by_cases k2 : qd = (t : Int)
            · have k2' : (qd == (t : Int)) = true := by simp [k2]
              have R : Hid (ls ++ [(t : Int)] = risen (fun t => hasE es a t) t ++ (if hasE (es.take (i + 1)) a (t : Int) then [(t : Int)] else [])) := hide (by
                have h1 := unhide SU a (t : Int)
                rw [k1', k2'] at h1
                have h2 := unhide ON a (t : Int) (by rw [k1, k2])
                rw [unhide hls, h1, h2]; simp)
              have HST := ST
              have hsz := ((unhide ST).lst.lt gl rfl)
              have K1' := hide k1
              have K2' := hide k2
              clear k1 k2 SU ON hls
              go_wp2_with (at_builtin; refine wpList_append_lies _ (by rfl) _ _ _ (by rfl) (w.heap.size + 1) 3 j0 _ 1 8 Try.underlying34 hj0 hy0 hy1 hy2 rfl (by omega) _ ls.length _ (by rfl) ((unhide ST).lst.alloc _) ⟨wr.heap.size, 0, none⟩ 1 1 [.int .i64 (t : Int)] (by rfl) (by rfl) (World.news_of_block (cs := #[.int .i64 (t : Int)]) (t := 3) (fr := (0, 0)) (heap_alloc_new wr _)) (by simp [Value.oneCell']) (by omega) (by unfold maxLen; omega) (by omega) (by simp; omega) (wr.heap.size + 1) (by simp) ?_)
              intro gl2 cl2 W4 ho4 hg4 hat4 hlt4
              have ST4 := hide (lst_app (unhide HST) hg4 ho4)
              clear ho4 hg4 hat4 hlt4 ST HST e1 e2 c3 c4 hsz
              go_wp2
              go_roundw
              case rel => exact ⟨i + 1, gl2, cl2, ls ++ [(t : Int)], by omega, by go_num, by simp, R, ST4⟩
              case measure => simp [intOf]; omega
            · have k2' : (qd == (t : Int)) = false := by simp [k2]
              have R : Hid (ls = risen (fun t => hasE es a t) t ++ (if hasE (es.take (i + 1)) a (t : Int) then [(t : Int)] else [])) := hide (by
                have h1 := unhide SU a (t : Int)
                rw [k1', k2'] at h1
                rw [unhide hls, h1]; simp)
              have K1' := hide k1
              clear k1 k2 SU ON hls
              go_wp2
              go_roundw
              case rel => exact ⟨i + 1, gl, cl, ls, by omega, by go_num, rfl, R, ST⟩
              case measure => simp [intOf]; omega
          · have k1' : (qf == a) = false := by simp [k1]
            have R : Hid (ls = risen (fun t => hasE es a t) t ++ (if hasE (es.take (i + 1)) a (t : Int) then [(t : Int)] else [])) := hide (by
              have h1 := unhide SU a (t : Int)
              rw [k1'] at h1
              rw [unhide hls, h1]; simp)
            clear k1 SU ON hls
            go_wp2
            go_roundw
            case rel => exact ⟨i + 1, gl, cl, ls, by omega, by go_num, rfl, R, ST⟩
            case measure => simp [intOf]; omega
        · have R : Hid (ls = risen (fun t => hasE es a t) (t + 1)) := hide (by rw [risen_succ, unhide hls, hasE_all es i hie])
          have hi1 : ¬ (i : Int) < (es.length : Int) := by omega
          clear sga hls
          go_wp2
          go_roundw
          case rel => exact ⟨t + 1, gl, cl, ls, by omega, by go_num, rfl, R, ST⟩
          case measure => simp [intOf]; omega
    · have htn' : t = n := by omega
      have HE := hide htn'
      clear htn'
      have hlt1 : ¬ (t : Int) < (n : Int) := by omega
      have ho := (unhide ST).lst
      have hb := (unhide ST).below
      clear sga ST
      go_wp2
      go_ret
      have e1 := unhide hls
      rw [unhide HE] at e1
      rw [e1] at ho ⊢
      exact ⟨_, _, rfl, ownsRow_baseE ho (by omega), hb⟩
end Go.Proofs.Ytnpfboligmnhpaa
