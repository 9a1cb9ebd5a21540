/- The walks of the specification's BeforeOf and BehindOf. -/
import Derived.Test.YtodlnhmlhpadbaaSpecFault
import Derived.Test.YtodlnhmlhpadbaaS4
import Derived.Laws.AppendOwnNone
import Derived.Maps.AppendAt
import Derived.Test.YtodlnhmlhpadbaaS5
namespace Go.Proofs.Ytodlnhmlhpadbaa
open Go.RowKit
set_option linter.unusedVariables false
attribute [local go_sem ↓] Go.wp_at_zero Go.wp_at_succ

/-- Whether there is an edge from a to b. -/
def hasE (es : List EdgeL) (a b : Int) : Bool := es.any (fun e => e.fr == a && e.dst == b)
/-- The tasks below n for which f, rising. -/
def risen (f : Int → Bool) (n : Nat) : List Int := (List.range n).flatMap (fun t : Nat => if f (t : Int) then [(t : Int)] else [])
theorem risen_zero (f : Int → Bool) : risen f 0 = [] := rfl
theorem risen_succ (f : Int → Bool) (n : Nat) : risen f (n + 1) = risen f n ++ (if f (n : Int) then [(n : Int)] else []) := by simp [risen, List.range_succ]
theorem risen_len (f : Int → Bool) (n : Nat) : (risen f n).length ≤ n := by
  induction n with
  | zero => simp [risen_zero]
  | succ n ih => rw [risen_succ, List.length_append]; split <;> simp <;> omega
theorem hasE_zero (es : List EdgeL) (a b : Int) : hasE (es.take 0) a b = false := by simp [hasE]
theorem hasE_succ (es : List EdgeL) (i : Nat) (hi : i < es.length) (a b : Int) : hasE (es.take (i + 1)) a b = (hasE (es.take i) a b || ((es[i]).fr == a && (es[i]).dst == b)) := by
  unfold hasE
  rw [List.take_succ_eq_append_getElem hi, List.any_append]; simp
theorem hasE_all (es : List EdgeL) (i : Nat) (hi : ¬ i < es.length) (a b : Int) : hasE (es.take i) a b = hasE es a b := by rw [List.take_of_length_le (by omega)]
/-- An edge that is no second one stands nowhere ahead. -/
theorem hasE_once {es : List EdgeL} (hn : es.Nodup) (i : Nat) (hi : i < es.length) (a b : Int) (h : es[i] = ⟨a, b⟩) : hasE (es.take i) a b = false := by
  rw [Bool.eq_false_iff]
  intro ht
  unfold hasE at ht
  rw [List.any_eq_true] at ht
  obtain ⟨e, he, h2⟩ := ht
  rw [Bool.and_eq_true] at h2
  have e1 : e = ⟨a, b⟩ := by cases e; simp at h2; simp [h2.1, h2.2]
  obtain ⟨j, hj, hje⟩ := List.mem_iff_getElem.1 he
  have hj' : j < i := by rw [List.length_take] at hj; omega
  rw [List.getElem_take] at hje
  exact once_not hi (by omega) hj' (by rw [h, hje, e1]) hn
/-- The variables: the plan, and a list of its own. -/
structure LstSt (w W : World) (p : PlanL) (va : Value) (ba gl cl : Nat) (ls : List Int) : Prop where
  box : W.heap[w.heap.size]? = some (.cells #[.int .i64 p.prio, .int .i64 p.most, .int .i64 p.wait, .int .i64 p.tasks, va] 62 (0, 0))
  row : W.ownsRow ba 111 2 va p.edges.length (edgesC p.edges)
  lst : W.ownsRow (w.heap.size + 1) 3 1 (.slice (some ⟨gl, 0, none⟩) ls.length cl) ls.length (intC ls)
  below : Below w.heap.size w W
  old : ∀ x, va.ownBlock = some x → x < w.heap.size
theorem lst_app {w W W' : World} {p : PlanL} {va : Value} {ba gl cl gl' cl' : Nat} {ls : List Int} {x : Int} {o : Obj} (h : LstSt w W p va ba gl cl ls) (hg : (W.alloc o).grownBy W' (some gl))
    (ho : W'.ownsRow (w.heap.size + 1) 3 1 (.slice (some ⟨gl', 0, none⟩) (ls.length + 1) cl') (ls.length + 1) (intC ls ++ [.int .i64 x])) : LstSt w W' p va ba gl' cl' (ls ++ [x]) := by
  have hgl := (h.lst.lt gl rfl).1
  refine ⟨?_, World.ownsRow.kept (World.ownsRow.alloc h.row o) hg ?_, ?_, (h.below.alloc h.below.size o).grown hg (by have := h.below.size; simp; omega) (fun k hk => by cases hk; omega), h.old⟩
  · have hlt := (Array.getElem?_eq_some_iff.1 h.box).1
    rw [hg.block _ (by simp; omega) (by intro e; simp only [Option.some.injEq] at e; omega), Below.heap_alloc W _ _ hlt]; exact h.box
  · cases hv : va.ownBlock with
    | none => exact .inl rfl
    | some y => exact .inr (fun e => by cases e; have := h.old _ hv; omega)
  · rw [List.length_append, intC_append]; exact ho
theorem lst_cells {w W : World} {p : PlanL} {va : Value} {ba gl cl : Nat} {ls : List Int} (h : LstSt w W p va ba gl cl ls) : W.cell? ⟨w.heap.size, 3, none⟩ = some (.int .i64 p.tasks) ∧ W.cell? ⟨w.heap.size, 4, none⟩ = some va := by
  refine ⟨?_, ?_⟩
  · rw [cell_of_row W _ 3 _ _ _ h.box]; rfl
  · rw [cell_of_row W _ 4 _ _ _ h.box]; rfl
set_option maxRecDepth 100000 in
set_option maxHeartbeats 3200000 in
theorem specBef_any (va : Value) (ba n : Nat) (p : PlanL) (a : Int) (w : World) (hA : w.ownsRow ba 111 2 va p.edges.length (edgesC p.edges)) (ht : p.tasks = (n : Int)) (hn : n ≤ 12) (hel : p.edges.length ≤ 30) (hnd : p.edges.Nodup) :
    Calls Try.prog 90 #[planV p va, .int .i64 a] w fun e w' => ∃ (g cap : Nat), e = .returned (.slice (some ⟨g, 0, none⟩) (risen (fun t => hasE p.edges t a) n).length cap) ∧ w'.ownsRow w.heap.size 3 1 (.slice (some ⟨g, 0, none⟩) (risen (fun t => hasE p.edges t a) n).length cap) (risen (fun t => hasE p.edges t a) n).length (intC (risen (fun t => hasE p.edges t a) n)) ∧ Below w.heap.size w w' := by
  obtain ⟨j0, hj0, hy0, hy1, hy2⟩ := info_parts info3
  have old : ∀ x, va.ownBlock = some x → x < w.heap.size := fun x hx => (hA.lt x hx).2
  obtain ⟨p1, p2, p3, p4, es⟩ := p
  simp only at hA ht hel hnd ⊢
  subst ht
  obtain ⟨aa, ca, rfl, sga⟩ := ownsRow_shape hA
  have HA := hide hA
  have HND := hide hnd
  clear hA hnd
  unfold planV
  simp only
  go_enter Try.func90, Try.ntmps90
  go_wp2
  have ST0 : Hid (LstSt w ((w.alloc (Obj.cells #[.int .i64 p1, .int .i64 p2, .int .i64 p3, .int .i64 (n : Int), .slice aa es.length ca] 62)).alloc (Obj.cells #[] 3)) ⟨p1, p2, p3, (n : Int), es⟩ (.slice aa es.length ca) ba (w.heap.size + 1) 0 []) := hide
    ⟨by rw [Below.heap_alloc _ _ _ (by simp)]; exact heap_alloc_new w _, ((unhide HA).alloc _).alloc _, by
      have h := World.ownsRow_lit (base := w.heap.size + 1) (e := 3) (size := 1) (w.alloc (Obj.cells #[.int .i64 p1, .int .i64 p2, .int .i64 p3, .int .i64 (n : Int), .slice aa es.length ca] 62)) #[] 0 (by simp) (by decide) rfl
      rw [show (w.alloc (Obj.cells #[.int .i64 p1, .int .i64 p2, .int .i64 p3, .int .i64 (n : Int), .slice aa es.length ca] 62)).heap.size = w.heap.size + 1 from by simp] at h
      exact h, ((Below.refl _ _).alloc (Nat.le_refl _) _).alloc (by simp) _, old⟩
  clear HA
  go_loopw [5, 6] (fun l v wr => ∃ (t gl cl : Nat) (ls : List Int), t ≤ n ∧ v = .int .i64 t ∧ l = .slice (some ⟨gl, 0, none⟩) ls.length cl ∧ Hid (ls = risen (fun t => hasE es t a) t) ∧ Hid (LstSt w wr ⟨p1, p2, p3, (n : Int), es⟩ (.slice aa es.length ca) ba gl cl ls))
    (fun _ v _ => n - (intOf v).toNat)
  case atStart => exact ⟨0, w.heap.size + 1, 0, [], Nat.zero_le _, rfl, rfl, hide rfl, ST0⟩
  case round =>
    clear ST0
    obtain ⟨t, gl, cl, ls, htn, rfl, rfl, hls, ST⟩ := hrel
    obtain ⟨c3, c4⟩ := lst_cells (unhide ST)
    simp only at c3 c4
    by_cases hlt : t < n
    · have hlt1 : (t : Int) < (n : Int) := by omega
      go_wp2
      go_loopw [5, 7] (fun l v wr => ∃ (i gl cl : Nat) (ls : List Int), i ≤ es.length ∧ v = .int .i64 i ∧ l = .slice (some ⟨gl, 0, none⟩) ls.length cl ∧ Hid (ls = risen (fun t => hasE es t a) t ++ (if hasE (es.take i) (t : Int) a then [(t : Int)] else [])) ∧ Hid (LstSt w wr ⟨p1, p2, p3, (n : Int), es⟩ (.slice aa es.length ca) ba gl cl ls))
        (fun _ v _ => es.length - (intOf v).toNat)
      case atStart => exact ⟨0, gl, cl, ls, Nat.zero_le _, rfl, rfl, hide (by rw [hasE_zero, unhide hls]; simp), ST⟩
      case round =>
        clear c3 c4 hls ST
        obtain ⟨i, gl, cl, ls, hi, rfl, rfl, hls, ST⟩ := hrel
        obtain ⟨c3, c4⟩ := lst_cells (unhide ST)
        simp only at c3 c4
        by_cases hie : i < es.length
        · obtain ⟨ga, rfl⟩ := sga (by omega)
          have hi0 : (0 : Int) ≤ (i : Int) := Int.natCast_nonneg _
          have hi1 : (i : Int) < (es.length : Int) := by omega
          obtain ⟨e1, e2⟩ := edgesC_cell (unhide ST).row hie
          have SU := hide (hasE_succ es i hie)
          have ON := hide (hasE_once (unhide HND) i hie)
          have hrl := risen_len (fun t => hasE es t a) t
          have hll : ls.length ≤ 13 := by rw [unhide hls, List.length_append]; split <;> simp <;> omega
          generalize es[i] = q at e1 e2 SU ON
          obtain ⟨qf, qd⟩ := q
          simp only at e1 e2 SU ON
          clear sga
          by_cases k1 : qf = (t : Int)
          · have k1' : (qf == (t : Int)) = true := by simp [k1]
            by_cases k2 : qd = a
            · have k2' : (qd == a) = true := by simp [k2]
              have R : Hid (ls ++ [(t : Int)] = risen (fun t => hasE es t a) t ++ (if hasE (es.take (i + 1)) (t : Int) a then [(t : Int)] else [])) := hide (by
                have h1 := unhide SU (t : Int) a
                rw [k1', k2'] at h1
                have h2 := unhide ON (t : Int) a (by rw [k1, k2])
                rw [unhide hls, h1, h2]; simp)
              have HST := ST
              have hsz := ((unhide ST).lst.lt gl rfl)
              have K1' := hide k1
              have K2' := hide k2
              clear k1 k2 SU ON hls
              go_wp2_with (at_builtin; refine wpList_append_lies _ (by rfl) _ _ _ (by rfl) (w.heap.size + 1) 3 j0 _ 1 8 Try.underlying119 hj0 hy0 hy1 hy2 rfl (by omega) _ ls.length _ (by rfl) ((unhide ST).lst.alloc _) ⟨wr.heap.size, 0, none⟩ 1 1 [.int .i64 (t : Int)] (by rfl) (by rfl) (World.news_of_block (cs := #[.int .i64 (t : Int)]) (t := 3) (fr := (0, 0)) (heap_alloc_new wr _)) (by simp [Value.oneCell']) (by omega) (by unfold maxLen; omega) (by omega) (by simp; omega) (wr.heap.size + 1) (by simp) ?_)
              intro gl2 cl2 W4 ho4 hg4 hat4 hlt4
              have ST4 := hide (lst_app (unhide HST) hg4 ho4)
              clear ho4 hg4 hat4 hlt4 ST HST e1 e2 c3 c4 hsz
              go_wp2
              go_roundw
              case rel => exact ⟨i + 1, gl2, cl2, ls ++ [(t : Int)], by omega, by go_num, by simp, R, ST4⟩
              case measure => simp [intOf]; omega
            · have k2' : (qd == a) = false := by simp [k2]
              have R : Hid (ls = risen (fun t => hasE es t a) t ++ (if hasE (es.take (i + 1)) (t : Int) a then [(t : Int)] else [])) := hide (by
                have h1 := unhide SU (t : Int) a
                rw [k1', k2'] at h1
                rw [unhide hls, h1]; simp)
              have K1' := hide k1
              clear k1 k2 SU ON hls
              go_wp2
              go_roundw
              case rel => exact ⟨i + 1, gl, cl, ls, by omega, by go_num, rfl, R, ST⟩
              case measure => simp [intOf]; omega
          · have k1' : (qf == (t : Int)) = false := by simp [k1]
            have R : Hid (ls = risen (fun t => hasE es t a) t ++ (if hasE (es.take (i + 1)) (t : Int) a then [(t : Int)] else [])) := hide (by
              have h1 := unhide SU (t : Int) a
              rw [k1'] at h1
              rw [unhide hls, h1]; simp)
            clear k1 SU ON hls
            go_wp2
            go_roundw
            case rel => exact ⟨i + 1, gl, cl, ls, by omega, by go_num, rfl, R, ST⟩
            case measure => simp [intOf]; omega
        · have R : Hid (ls = risen (fun t => hasE es t a) (t + 1)) := hide (by rw [risen_succ, unhide hls, hasE_all es i hie])
          have hi1 : ¬ (i : Int) < (es.length : Int) := by omega
          clear sga hls
          go_wp2
          go_roundw
          case rel => exact ⟨t + 1, gl, cl, ls, by omega, by go_num, rfl, R, ST⟩
          case measure => simp [intOf]; omega
    · have htn' : t = n := by omega
      have HE := hide htn'
      clear htn'
      have hlt1 : ¬ (t : Int) < (n : Int) := by omega
      have ho := (unhide ST).lst
      have hb := (unhide ST).below
      clear sga ST
      go_wp2
      go_ret
      have e1 := unhide hls
      rw [unhide HE] at e1
      rw [e1] at ho ⊢
      exact ⟨_, _, rfl, ownsRow_baseE ho (by omega), hb⟩
end Go.Proofs.Ytodlnhmlhpadbaa

/- The walks of the specification's BeforeOf, BehindOf and Reaches. -/
namespace Go.Proofs.Ytodlnhmlhpadbaa
open Go.RowKit
open scoped Classical
set_option linter.unusedVariables false
attribute [local go_sem ↓] Go.wp_at_zero Go.wp_at_succ

theorem fault_ex (p : PlanL) : ∃ r : Int, FaultIs p r ∧ 0 ≤ r ∧ r ≤ 4 := by
  by_cases h1 : manyOk p
  · by_cases h2 : edgesIn p
    · by_cases h3 : onceOk p
      · by_cases h4 : noCycle p
        · exact ⟨0, .inr (.inr (.inr (.inr ⟨rfl, h1, h2, h3, h4⟩))), by omega, by omega⟩
        · exact ⟨4, .inr (.inr (.inr (.inl ⟨rfl, h1, h2, h3, h4⟩))), by omega, by omega⟩
      · exact ⟨3, .inr (.inr (.inl ⟨rfl, h1, h2, h3⟩)), by omega, by omega⟩
    · exact ⟨2, .inr (.inl ⟨rfl, h1, h2⟩), by omega, by omega⟩
  · exact ⟨1, .inl ⟨rfl, h1⟩, by omega, by omega⟩
/-- A plan whose fault is 0. -/
theorem fault_none {p : PlanL} (h : FaultIs p 0) : manyOk p ∧ edgesIn p ∧ onceOk p ∧ noCycle p := by
  rcases h with ⟨h, _⟩ | ⟨h, _⟩ | ⟨h, _⟩ | ⟨h, _⟩ | ⟨_, h⟩
  · omega
  · omega
  · omega
  · omega
  · exact h
/-- What BeforeOf and BehindOf answer, r the fault of the plan. -/
def befA (p : PlanL) (r a : Int) : List Int := if r = 0 then risen (fun t => hasE p.edges t a) p.tasks.toNat else []
def behA (p : PlanL) (r a : Int) : List Int := if r = 0 then risen (fun t => hasE p.edges a t) p.tasks.toNat else []
theorem befA_len {p : PlanL} {r a : Int} (h : FaultIs p r) : (befA p r a).length ≤ 12 := by
  unfold befA; split
  · rename_i e; subst e
    have h1 := (fault_none h).1
    have := risen_len (fun t => hasE p.edges t a) p.tasks.toNat
    have := h1.2.1; omega
  · simp
theorem behA_len {p : PlanL} {r a : Int} (h : FaultIs p r) : (behA p r a).length ≤ 12 := by
  unfold behA; split
  · rename_i e; subst e
    have h1 := (fault_none h).1
    have := risen_len (fun t => hasE p.edges a t) p.tasks.toNat
    have := h1.2.1; omega
  · simp
/-- Whether Reaches answers true. -/
def reachA (p : PlanL) (r a b : Int) : Prop := r = 0 ∧ 0 ≤ a ∧ a < p.tasks ∧ 0 ≤ b ∧ b < p.tasks ∧ Reach p.edges a b
theorem specFault_is (va : Value) (ba : Nat) (p : PlanL) (r : Int) (w : World) (hA : w.ownsRow ba 111 2 va p.edges.length (edgesC p.edges)) (hl : p.edges.length ≤ 2000000) (hr : FaultIs p r) :
    Calls Try.prog 75 #[planV p va] w fun e w' => e = .returned (.int .i64 r) ∧ Below w.heap.size w w' :=
  (specFault_any va ba p w hA hl).mono fun e w' ⟨r', he, hf, hb⟩ => ⟨by rw [he, fault_one hf hr], hb⟩
end Go.Proofs.Ytodlnhmlhpadbaa

/- Appending what another slice holds, nil or not, to a row that the call owns: one law for both. Nothing here speaks of the program. -/
namespace Go.Proofs.Ytodlnhmlhpadbaa
open Go.RowKit
set_option linter.unusedVariables false

/-- A slice that is read: nil, or these cells from its address on. -/
def SrcAt (w : World) (vs : Value) (m size : Nat) (news : List Value) : Prop :=
  (vs = .slice none 0 0 ∧ m = 0 ∧ news = []) ∨ ∃ ad c, vs = .slice (some ad) m c ∧ news.length = m * size ∧ ∀ j u, news[j]? = some u → w.cell? (ad.add j) = some u
theorem srcAt_later {w w' : World} {vs : Value} {m size : Nat} {news : List Value} (h : SrcAt w vs m size news) (hb : Below w.heap.size w w') : SrcAt w' vs m size news := by
  rcases h with h | ⟨ad, c, h1, h2, h3⟩
  · exact .inl h
  · exact .inr ⟨ad, c, h1, h2, fun j u hj => by
      have := h3 j u hj
      rw [hb.cell (World.block_lt_of_cell? w _ this)]
      exact this⟩
theorem wp_append_src {P : Program} (w : World) {o : Oper} {a : Act} {K : Act → World → Prop} {Q : Exit → Act → World → Prop} (s x : Operand) (t : TypeId)
    (ho : o.op = .call { callee := .builtin .append, args := #[s, x], argTypes := #[t, t] })
    (base : Nat) (e : TypeId) (i : TypeInfo) (z : Value) (size bytes : Nat) (ht : P.underlying t = some (.slice e)) (hi : P.info? e = some i) (hz : i.zero = some z)
    (hsize : i.size = size) (hby : i.bytes = bytes) (hzs : z.cells.size = size) (hsz : 0 < size)
    (v : Value) (n : Nat) (xs : List Value) (hs : a.eval s = v) (hown : w.ownsRow base e size v n xs)
    (vs : Value) (m : Nat) (news : List Value) (hx : a.eval x = vs) (hsrc : SrcAt w vs m size news) (h1 : ∀ u ∈ news, u.oneCell' = true)
    (h63 : n + m ≤ maxLen) (hbytes : (n + m) * bytes ≤ 140737488355328) (hbase : base ≤ w.heap.size)
    (h : ∀ v' w', w'.ownsRow base e size v' (n + m) (xs ++ news) → w.grownBy w' v.ownBlock → (v' = .slice none 0 0 → v = .slice none 0 0) → K (a.put o.dst v') w') : o.wp P a w K Q := by
  rcases hsrc with ⟨rfl, rfl, rfl⟩ | ⟨ad, c, rfl, h2, h3⟩
  · have hrun := run_append_owned_none (P := P) (w := w) base t o.type e i size ht hi v n xs hown
    unfold Oper.wp
    simp [execOp, ho, resolve, invoke, builtin, hs, hx, hrun, Result.andThen]
    exact h v w (by simpa using hown) (grown_refl _ _) id
  · exact wp_append_own w s x t ho base e i z size bytes ht hi hz hsize hby hzs hsz v n xs hs hown ad m c news hx h2 h3 h1 h63 hbytes hbase fun v' w' a1 a2 a3 => h v' w' a1 a2 (fun e => (a3.1 e).1)
theorem wpList_append_src {P : Program} (w : World) {ops : Array Oper} {rest : List Oper} {o : Oper} {a : Act} {Q : Exit → Act → World → Prop} (hgd : o.guard = none) (s x : Operand) (t : TypeId)
    (ho : o.op = .call { callee := .builtin .append, args := #[s, x], argTypes := #[t, t] })
    (base : Nat) (e : TypeId) (i : TypeInfo) (z : Value) (size bytes : Nat) (ht : P.underlying t = some (.slice e)) (hi : P.info? e = some i) (hz : i.zero = some z)
    (hsize : i.size = size) (hby : i.bytes = bytes) (hzs : z.cells.size = size) (hsz : 0 < size)
    (v : Value) (n : Nat) (xs : List Value) (hs : a.eval s = v) (hown : w.ownsRow base e size v n xs)
    (vs : Value) (m : Nat) (news : List Value) (hx : a.eval x = vs) (hsrc : SrcAt w vs m size news) (h1 : ∀ u ∈ news, u.oneCell' = true)
    (h63 : n + m ≤ maxLen) (hbytes : (n + m) * bytes ≤ 140737488355328) (hbase : base ≤ w.heap.size)
    (h : ∀ v' w', w'.ownsRow base e size v' (n + m) (xs ++ news) → w.grownBy w' v.ownBlock → (v' = .slice none 0 0 → v = .slice none 0 0) → wpList P ops Q rest (a.put o.dst v') w') : wpList P ops Q (o :: rest) a w :=
  wpList_plain hgd fun _ hK => wp_append_src w s x t ho base e i z size bytes ht hi hz hsize hby hzs hsz v n xs hs hown vs m news hx hsrc h1 h63 hbytes hbase fun v' w' h2 h3 h4 => hK _ _ (h v' w' h2 h3 h4)
theorem step_append_src {P : Program} (w : World) {ops : Array Oper} {o : Oper} {a : Act} {K : Act → World → Prop} {Q : Exit → Act → World → Prop} {E : Prop} (hgd : o.guard = none) (s x : Operand) (t : TypeId)
    (ho : o.op = .call { callee := .builtin .append, args := #[s, x], argTypes := #[t, t] })
    (base : Nat) (e : TypeId) (i : TypeInfo) (z : Value) (size bytes : Nat) (ht : P.underlying t = some (.slice e)) (hi : P.info? e = some i) (hz : i.zero = some z)
    (hsize : i.size = size) (hby : i.bytes = bytes) (hzs : z.cells.size = size) (hsz : 0 < size)
    (v : Value) (n : Nat) (xs : List Value) (hs : a.eval s = v) (hown : w.ownsRow base e size v n xs)
    (vs : Value) (m : Nat) (news : List Value) (hx : a.eval x = vs) (hsrc : SrcAt w vs m size news) (h1 : ∀ u ∈ news, u.oneCell' = true)
    (h63 : n + m ≤ maxLen) (hbytes : (n + m) * bytes ≤ 140737488355328) (hbase : base ≤ w.heap.size)
    (h : ∀ v' w', w'.ownsRow base e size v' (n + m) (xs ++ news) → w.grownBy w' v.ownBlock → (v' = .slice none 0 0 → v = .slice none 0 0) → K (a.put o.dst v') w') :
    if Region.wanted o (yielded ops a.tmps) = true then Oper.wp P o a w K Q else E := by
  have hw : Region.wanted o (yielded ops a.tmps) = true := by simp [Region.wanted, hgd]
  rw [if_pos hw]
  exact wp_append_src w s x t ho base e i z size bytes ht hi hz hsize hby hzs hsz v n xs hs hown vs m news hx hsrc h1 h63 hbytes hbase h
/-- The same, and where the new row lies: in the old row's block, or in a new one. -/
theorem wp_append_at {P : Program} (w : World) {o : Oper} {a : Act} {K : Act → World → Prop} {Q : Exit → Act → World → Prop} (s x : Operand) (t : TypeId)
    (ho : o.op = .call { callee := .builtin .append, args := #[s, x], argTypes := #[t, t] })
    (base : Nat) (e : TypeId) (i : TypeInfo) (z : Value) (size bytes : Nat) (ht : P.underlying t = some (.slice e)) (hi : P.info? e = some i) (hz : i.zero = some z)
    (hsize : i.size = size) (hby : i.bytes = bytes) (hzs : z.cells.size = size) (hsz : 0 < size)
    (v : Value) (n : Nat) (xs : List Value) (hs : a.eval s = v) (hown : w.ownsRow base e size v n xs)
    (vs : Value) (m : Nat) (news : List Value) (hx : a.eval x = vs) (hsrc : SrcAt w vs m size news) (h1 : ∀ u ∈ news, u.oneCell' = true)
    (h63 : n + m ≤ maxLen) (hbytes : (n + m) * bytes ≤ 140737488355328) (hbase : base ≤ w.heap.size)
    (h : ∀ v' w', w'.ownsRow base e size v' (n + m) (xs ++ news) → w.grownBy w' v.ownBlock → (v' = .slice none 0 0 → v = .slice none 0 0) → (v'.ownBlock = v.ownBlock ∨ v'.ownBlock = some w.heap.size) → K (a.put o.dst v') w') : o.wp P a w K Q := by
  rcases hsrc with ⟨rfl, rfl, rfl⟩ | ⟨ad, c, rfl, h2, h3⟩
  · have hrun := run_append_owned_none (P := P) (w := w) base t o.type e i size ht hi v n xs hown
    unfold Oper.wp
    simp [execOp, ho, resolve, invoke, builtin, hs, hx, hrun, Result.andThen]
    exact h v w (by simpa using hown) (grown_refl _ _) id (.inl rfl)
  · obtain ⟨v', w', hr, a1, a2, a3, a4⟩ := run_append_own_at (P := P) w base t o.type e i z size bytes ht hi hz hsize hby hzs hsz v n xs hown ad m c news h2 h3 h1 h63 hbytes hbase
    unfold Oper.wp execOp
    simp only [ho, resolve, invoke, builtin, Sem.run_bind, Sem.run_pure, Result.andThen_ok, List.map_toArray, List.map_cons, List.map_nil, hs, hx, hr]
    exact h v' w' a1 a2 (fun e => (a3.1 e).1) a4
theorem step_append_at {P : Program} (w : World) {ops : Array Oper} {o : Oper} {a : Act} {K : Act → World → Prop} {Q : Exit → Act → World → Prop} {E : Prop} (hgd : o.guard = none) (s x : Operand) (t : TypeId)
    (ho : o.op = .call { callee := .builtin .append, args := #[s, x], argTypes := #[t, t] })
    (base : Nat) (e : TypeId) (i : TypeInfo) (z : Value) (size bytes : Nat) (ht : P.underlying t = some (.slice e)) (hi : P.info? e = some i) (hz : i.zero = some z)
    (hsize : i.size = size) (hby : i.bytes = bytes) (hzs : z.cells.size = size) (hsz : 0 < size)
    (v : Value) (n : Nat) (xs : List Value) (hs : a.eval s = v) (hown : w.ownsRow base e size v n xs)
    (vs : Value) (m : Nat) (news : List Value) (hx : a.eval x = vs) (hsrc : SrcAt w vs m size news) (h1 : ∀ u ∈ news, u.oneCell' = true)
    (h63 : n + m ≤ maxLen) (hbytes : (n + m) * bytes ≤ 140737488355328) (hbase : base ≤ w.heap.size)
    (h : ∀ v' w', w'.ownsRow base e size v' (n + m) (xs ++ news) → w.grownBy w' v.ownBlock → (v' = .slice none 0 0 → v = .slice none 0 0) → (v'.ownBlock = v.ownBlock ∨ v'.ownBlock = some w.heap.size) → K (a.put o.dst v') w') :
    if Region.wanted o (yielded ops a.tmps) = true then Oper.wp P o a w K Q else E := by
  have hw : Region.wanted o (yielded ops a.tmps) = true := by simp [Region.wanted, hgd]
  rw [if_pos hw]
  exact wp_append_at w s x t ho base e i z size bytes ht hi hz hsize hby hzs hsz v n xs hs hown vs m news hx hsrc h1 h63 hbytes hbase h
theorem quadsC_one (es : List QuadL) : ∀ u ∈ quadsC es, u.oneCell' = true := by
  intro u hu
  simp only [quadsC, List.mem_flatMap] at hu
  obtain ⟨f, _, hf⟩ := hu
  simp only [qcs, List.mem_cons, List.not_mem_nil, or_false] at hf
  rcases hf with rfl | rfl | rfl | rfl <;> rfl
theorem ownsRow_none (w : World) (B size : Nat) (e : TypeId) (n : Nat) (h : w.heap.size = n) (hB : B ≤ n) : (w.alloc (.cells #[] e)).ownsRow B e size (.slice (some ⟨n, 0, none⟩) 0 0) 0 [] := by
  subst h
  exact ⟨by simp, .inr ⟨w.heap.size, 0, #[], rfl, hB, heap_alloc_new w _, Nat.le_refl _, Nat.zero_le _, by simp, by simp⟩⟩
/-- All of a row, its first ones, and its others, as they are read. -/
theorem src_all {w : World} {B n size : Nat} {e : TypeId} {v : Value} {xs : List Value} (h : w.ownsRow B e size v n xs) : SrcAt w v n size xs := by
  rcases h.2 with ⟨rfl, rfl⟩ | ⟨g, cap, cur, rfl, _⟩
  · exact .inl ⟨rfl, rfl, List.eq_nil_of_length_eq_zero (by rw [h.1]; simp)⟩
  · exact .inr ⟨_, _, rfl, h.1, h.cells (g := g) rfl⟩
theorem src_take {w : World} {B n k : Nat} {e : TypeId} {a : Option Addr} {cap : Nat} {l : List QuadL} (h : w.ownsRow B e 4 (.slice a n cap) n (quadsC l)) (hn : l.length = n) (hk : k ≤ n) {b : Option Addr} {c : Nat} (hb : b = a) (hc : a = none → c = 0) : SrcAt w (.slice b k c) k 4 (quadsC (l.take k)) := by
  subst hb
  rcases h.2 with ⟨h1, h2⟩ | ⟨g, cap', cur, h1, _⟩
  · simp at h1
    obtain ⟨rfl, _⟩ := h1
    have : k = 0 := by omega
    subst this
    exact .inl ⟨by rw [hc rfl], rfl, by simp [quadsC]⟩
  · have h1' := h1
    simp at h1
    obtain ⟨rfl, rfl⟩ := h1
    refine .inr ⟨_, c, rfl, by rw [quadsC_length, List.length_take, hn]; rw [Nat.min_eq_left hk], fun j u hj => ?_⟩
    rw [quadsC_take] at hj
    have hj2 : (quadsC l)[j]? = some u := by
      rw [List.getElem?_take] at hj
      split at hj
      · exact hj
      · cases hj
    exact h.cells (g := g) rfl j u hj2
theorem src_drop {w : World} {B n k : Nat} {e : TypeId} {g cap : Nat} {l : List QuadL} (h : w.ownsRow B e 4 (.slice (some ⟨g, 0, none⟩) n cap) n (quadsC l)) (hn : l.length = n) (hk : k ≤ n) (m c : Nat) (hm : m = n - k) {b : Option Addr} (hb : b = some ⟨g, k * 4, none⟩ ∨ (b = some ⟨g, 0, none⟩ ∧ n = k)) : SrcAt w (.slice b m c) m 4 (quadsC (l.drop k)) := by
  subst hm
  rcases hb with rfl | ⟨rfl, rfl⟩
  · refine .inr ⟨_, c, rfl, by rw [quadsC_length, List.length_drop, hn], fun j u hj => ?_⟩
    rw [quadsC_drop, List.getElem?_drop] at hj
    have := h.cells (g := g) rfl _ u hj
    rw [addQ] at this
    rw [addQ2]
    exact this
  · refine .inr ⟨_, c, rfl, by rw [quadsC_length, List.length_drop, hn], fun j u hj => ?_⟩
    rw [List.drop_of_length_le (by omega)] at hj
    simp [quadsC] at hj
end Go.Proofs.Ytodlnhmlhpadbaa

/- The walk of the specification's TasksIn: the tasks of a state, rising. -/
namespace Go.Proofs.Ytodlnhmlhpadbaa
open Go.RowKit
open scoped Classical
set_option linter.unusedVariables false
set_option linter.unusedSimpArgs false
attribute [local go_sem ↓] Go.wp_at_zero Go.wp_at_succ

/-- The tasks of a state. -/
def tinF (ts : List QuadL) (st : Int) : Int → Bool := fun t => (ts.getD t.toNat quad0).a == st
def tinA (ts : List QuadL) (st : Int) : List Int := risen (tinF ts st) ts.length
theorem tinF_at (ts : List QuadL) (st : Int) (k : Nat) (h : k < ts.length) : tinF ts st (k : Int) = (ts[k].a == st) := by
  unfold tinF
  rw [Int.toNat_natCast, List.getD_eq_getElem?_getD, List.getElem?_eq_getElem h]
  rfl
theorem tinA_len (ts : List QuadL) (st : Int) : (tinA ts st).length ≤ ts.length := risen_len _ _
theorem ownsRow_baseT {w : World} {B B' size n : Nat} {e : TypeId} {v : Value} {xs : List Value} (h : w.ownsRow B e size v n xs) (hB : B' ≤ B) : w.ownsRow B' e size v n xs := by
  refine ⟨h.1, ?_⟩
  rcases h.2 with h' | ⟨g, cap, cur, q1, q2, q3⟩
  · exact .inl h'
  · exact .inr ⟨g, cap, cur, q1, by omega, q3⟩
end Go.Proofs.Ytodlnhmlhpadbaa
