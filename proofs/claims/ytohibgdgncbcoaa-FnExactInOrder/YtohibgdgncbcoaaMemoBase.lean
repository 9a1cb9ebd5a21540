/- A map of numbers that keeps what was reckoned: what the program's operations on it do, in plain words. -/
import Derived.Test.YtohibgdgncbcoaaSpecDepth
import Derived.Test.YtohibgdgncbcoaaMapBase
namespace Go.Proofs.Ytohibgdgncbcoaa
open Go.RowKit Go.MapKept
open scoped Classical
set_option linter.unusedVariables false
set_option linter.unusedSimpArgs false

theorem undMemo : Try.prog.underlying 78 = some (.map 3 3) := by kernel_rfl
/-- An entry that is right: at a number the depth that the list has there. -/
def EntOk (ds : List Int) (x : MapEntry) : Prop := ∃ t : Nat, x.key = .int .i64 (t : Int) ∧ x.val = .int .i64 (ds.getD t 0)
/-- Block b is a map of which each entry is right. -/
def MemoAt (w : World) (b : Nat) (ds : List Int) : Prop := ∃ es clock, w.heap[b]? = some (.map es clock) ∧ ∀ x ∈ es.toList, EntOk ds x
theorem find_memo (ds : List Int) (t : Nat) : ∀ (es : List MapEntry) (i : Nat), (∀ x ∈ es, EntOk ds x) →
    Instr.findNow (.int .i64) (.int .i64 (t : Int)) es i = some none ∨ ∃ j x, Instr.findNow (.int .i64) (.int .i64 (t : Int)) es i = some (some (i + j, .int .i64 (ds.getD t 0))) ∧ es[j]? = some x ∧ x.key = .int .i64 (t : Int)
  | [], i, _ => .inl rfl
  | x :: es, i, h => by
    obtain ⟨u, hk, hv⟩ := h x (List.mem_cons_self ..)
    by_cases e : (t : Int) = (u : Int)
    · have e2 : t = u := by omega
      subst e2
      exact .inr ⟨0, x, by simp [Instr.findNow, hk, hv, Instr.sameNow], by simp, hk⟩
    · have ne : ((t : Int) == (u : Int)) = false := by simp only [beq_eq_false_iff_ne]; exact e
      rcases find_memo ds t es (i + 1) (fun y hy => h y (List.mem_cons_of_mem x hy)) with r | ⟨j, y, r1, r2, r3⟩
      · exact .inl (by simp only [Instr.findNow, hk, Instr.sameNow, ne]; exact r)
      · refine .inr ⟨j + 1, y, ?_, by simpa using r2, r3⟩
        simp only [Instr.findNow, hk, Instr.sameNow, ne]
        rw [show i + (j + 1) = i + 1 + j by omega]
        exact r1
theorem key_memo (ds : List Int) (t : Nat) (w : World) (es : List MapEntry) (h : ∀ x ∈ es, EntOk ds x) :
    (Instr.findKey 3 (.int .i64 (t : Int)) es).run Try.prog w = .ok none w ∨ ∃ j x, (Instr.findKey 3 (.int .i64 (t : Int)) es).run Try.prog w = .ok (some (j, .int .i64 (ds.getD t 0))) w ∧ es[j]? = some x ∧ x.key = .int .i64 (t : Int) := by
  rcases find_memo ds t es 0 h with r | ⟨j, x, r1, r2, r3⟩
  · exact .inl (by simp only [Instr.findKey, Sem.run_bind, run_underlying undInt, Result.andThen_ok, r]; rfl)
  · exact .inr ⟨j, x, by simp only [Instr.findKey, Sem.run_bind, run_underlying undInt, Result.andThen_ok, r1, Nat.zero_add]; rfl, r2, r3⟩
theorem check_int (em : Bool) (x : Int) (w : World) : (Instr.checkKey em 10000 3 (.int .i64 x)).run Try.prog w = .ok () w := by
  show (Instr.checkKey em (9999 + 1) 3 (.int .i64 x)).run Try.prog w = _
  unfold Instr.checkKey
  rw [Sem.run_bind, run_underlying undInt w]
  rfl
theorem look_memo {w : World} {b : Nat} {ds : List Int} (h : MemoAt w b ds) (t : Nat) :
    (Instr.lookup 78 (.map (some b)) (.int .i64 (t : Int)) true).run Try.prog w = .ok (.tuple #[.int .i64 0, .bool false]) w ∨ (Instr.lookup 78 (.map (some b)) (.int .i64 (t : Int)) true).run Try.prog w = .ok (.tuple #[.int .i64 (ds.getD t 0), .bool true]) w := by
  obtain ⟨es, clock, hb, hm⟩ := h
  rcases key_memo ds t w es.toList hm with r | ⟨j, x, r1, _, _⟩
  · exact .inl (by simp [Instr.lookup, run_underlying undMemo, MapKept.run_getObj_map hb, check_int, r, zeroInt, Result.andThen])
  · refine .inr ?_
    simp only [Instr.lookup, Sem.run_bind, run_underlying undMemo, MapKept.run_getObj_map hb, check_int, r1, Result.andThen_ok]
    simp [run_underlying undMemo, MapKept.run_getObj_map hb, check_int, r1, Result.andThen]
theorem stays_int (x : Int) (w : World) : (Instr.keyThatStays (.int .i64 x) (.int .i64 x)).run Try.prog w = .ok (.int .i64 x) w := by
  have : Instr.sameBits (9999 + 1) (.int .i64 x) (.int .i64 x) = true := by simp [Instr.sameBits]
  unfold Instr.keyThatStays
  rw [if_pos this]
  rfl
theorem upd_memo {w : World} {b : Nat} {ds : List Int} (h : MemoAt w b ds) (t : Nat) :
    ∃ w', (Instr.mapUpdate 78 (.map (some b)) (.int .i64 (t : Int)) (.int .i64 (ds.getD t 0))).run Try.prog w = .ok () w' ∧ MemoAt w' b ds ∧ w.grownBy w' (some b) := by
  obtain ⟨es, clock, hb, hm⟩ := h
  have hlt : b < w.heap.size := (Array.getElem?_eq_some_iff.1 hb).1
  rcases key_memo ds t w es.toList hm with r | ⟨j, x, r1, r2, r3⟩
  · refine ⟨{ w with heap := w.heap.setIfInBounds b (.map (es.push ⟨.int .i64 (t : Int), .int .i64 (ds.getD t 0), clock⟩) (clock + 1)) }, ?_, ⟨_, _, by simp [hlt]; exact ⟨rfl, rfl⟩, fun x hx => ?_⟩, grown_map w b _⟩
    · simp [Instr.mapUpdate, run_underlying undMemo, MapKept.run_getObj_map hb, check_int, r, MapKept.run_setObj_map _ hb, Result.andThen]
    · simp only [Array.toList_push, List.mem_append, List.mem_singleton] at hx
      rcases hx with hx | rfl
      · exact hm x hx
      · exact ⟨t, rfl, rfl⟩
  · have hx : es[j]? = some x := by simpa using r2
    refine ⟨{ w with heap := w.heap.setIfInBounds b (.map (es.modify j fun e => { e with key := .int .i64 (t : Int), val := .int .i64 (ds.getD t 0) }) clock) }, ?_, ⟨es.modify j fun e => { e with key := .int .i64 (t : Int), val := .int .i64 (ds.getD t 0) }, clock, by simp [hlt], fun y hy => ?_⟩, grown_map w b _⟩
    · simp [Instr.mapUpdate, run_underlying undMemo, MapKept.run_getObj_map hb, check_int, r1, hx, r3, stays_int, MapKept.run_setObj_map _ hb, Result.andThen]
    · rw [Array.toList_modify, Go.ChangeMaps.modify_eq_set _ _ _ _ r2] at hy
      rcases List.mem_or_eq_of_mem_set hy with hy | rfl
      · exact hm y hy
      · exact ⟨t, rfl, rfl⟩
theorem make_memo (w : World) : (Instr.makeMap 78 none).run Try.prog w = .ok (.map (some w.heap.size)) (w.alloc (.map #[] 0)) := by
  simp [Instr.makeMap, run_underlying undMemo, asInt, asIntOf, Result.andThen]
theorem max_two (ats : Array TypeId) (ty : TypeId) (x y : Int) (w : World) : (Builtin.max_ ats ty #[.int .i64 x, .int .i64 y]).run Try.prog w = .ok (.int .i64 (if x < y then y else x)) w := rfl
theorem memo_kept {w w' : World} {b : Nat} {g : Option Nat} {ds : List Int} (h : MemoAt w b ds) (hg : w.grownBy w' g) (hb : some b ≠ g) : MemoAt w' b ds := by
  obtain ⟨es, clock, h1, h2⟩ := h
  exact ⟨es, clock, by rw [hg.block b (Array.getElem?_eq_some_iff.1 h1).1 hb]; exact h1, h2⟩
/-- The top of the depths, edge by edge. -/
def upE (ds : List Int) (t m : Int) (e : EdgeL) : Int := if e.dst = t then (if m < ds.getD e.fr.toNat 0 + 1 then ds.getD e.fr.toNat 0 + 1 else m) else m
def topE (ds : List Int) (t : Int) (es : List EdgeL) : Int := es.foldl (upE ds t) 0
theorem topE_snoc (ds : List Int) (t : Int) (es : List EdgeL) (e : EdgeL) : topE ds t (es ++ [e]) = upE ds t (topE ds t es) e := by
  unfold topE
  rw [List.foldl_append]; rfl
theorem foldE_ge (ds : List Int) (t : Int) : ∀ (l : List EdgeL) (x : Int), x ≤ l.foldl (upE ds t) x
  | [], x => Int.le_refl _
  | e :: l, x => by
    have h1 := foldE_ge ds t l (upE ds t x e)
    have h2 : x ≤ upE ds t x e := by
      unfold upE
      split
      · split <;> omega
      · omega
    simp only [List.foldl_cons]
    omega
theorem foldE_in (ds : List Int) (t : Int) {e : EdgeL} (hd : e.dst = t) : ∀ (l : List EdgeL) (x : Int), e ∈ l → ds.getD e.fr.toNat 0 + 1 ≤ l.foldl (upE ds t) x
  | [], x, h => by simp at h
  | a :: l, x, h => by
    simp only [List.foldl_cons]
    rcases List.mem_cons.1 h with rfl | h
    · have h1 := foldE_ge ds t l (upE ds t x e)
      have h2 : ds.getD e.fr.toNat 0 + 1 ≤ upE ds t x e := by unfold upE; rw [if_pos hd]; split <;> omega
      omega
    · exact foldE_in ds t hd l _ h
theorem foldE_some (ds : List Int) (t : Int) : ∀ (l : List EdgeL) (x : Int), l.foldl (upE ds t) x = x ∨ ∃ e ∈ l, e.dst = t ∧ l.foldl (upE ds t) x = ds.getD e.fr.toNat 0 + 1
  | [], x => .inl rfl
  | a :: l, x => by
    simp only [List.foldl_cons]
    rcases foldE_some ds t l (upE ds t x a) with h | ⟨e, he, hd, h⟩
    · rw [h]
      unfold upE
      by_cases ha : a.dst = t
      · rw [if_pos ha]
        split
        · exact .inr ⟨a, List.mem_cons_self .., ha, rfl⟩
        · exact .inl rfl
      · rw [if_neg ha]; exact .inl rfl
    · exact .inr ⟨e, List.mem_cons_of_mem a he, hd, h⟩
theorem topE_in (ds : List Int) (t : Int) {m : Int} (hm : 0 ≤ m) (es : List EdgeL) (h : ∀ e ∈ es, ds.getD e.fr.toNat 0 + 1 ≤ m) : 0 ≤ topE ds t es ∧ topE ds t es ≤ m := by
  refine ⟨foldE_ge ds t es 0, ?_⟩
  rcases foldE_some ds t es 0 with h1 | ⟨e, he, _, h1⟩
  · unfold topE; omega
  · have := h e he; unfold topE; omega
/-- It is the top of the depths of those for which the task waits. -/
theorem topE_is {es : List EdgeL} {n : Nat} {ds : List Int} (hG : GoodP es n) (t : Int) : topE ds t es = topD ds (bef es n t) := by
  have h0 : 0 ≤ topE ds t es := foldE_ge ds t es 0
  have h1 : 0 ≤ topD ds (bef es n t) := by
    have := topD_same (ds := ds) (ds' := ds) (bs := bef es n t) (fun _ _ => rfl)
    by_cases hp : 0 < topD ds (bef es n t)
    · omega
    · cases hb : bef es n t with
      | nil => simp [topD]
      | cons b bs =>
        have hk : ∀ (l : List Int) (x : Int), x ≤ l.foldl (upD ds) x := by
          intro l
          induction l with
          | nil => intro x; exact Int.le_refl _
          | cons a l ih => intro x; simp only [List.foldl_cons]; have := ih (upD ds x a); have h2 : x ≤ upD ds x a := by unfold upD; split <;> omega
                           omega
        exact hk (b :: bs) 0
  have le1 : topE ds t es ≤ topD ds (bef es n t) := by
    rcases foldE_some ds t es 0 with h | ⟨e, he, hd, h⟩
    · unfold topE; omega
    · have hb : e.fr ∈ bef es n t := by rw [← hd]; exact (bef_mem hG e.fr e.dst).2 he
      have := topD_ge (ds := ds) hb
      unfold topE; omega
  have le2 : topD ds (bef es n t) ≤ topE ds t es := by
    by_cases hp : 0 < topD ds (bef es n t)
    · obtain ⟨b, hb, h⟩ := topD_some hp
      have := foldE_in ds t (e := ⟨b, t⟩) rfl es 0 ((bef_mem hG b t).1 hb)
      rw [h]; exact this
    · omega
  omega
end Go.Proofs.Ytohibgdgncbcoaa
