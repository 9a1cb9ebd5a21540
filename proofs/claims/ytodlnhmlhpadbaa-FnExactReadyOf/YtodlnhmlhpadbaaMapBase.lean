/- A map of edges that counts how often each stands there: what the program's operations on it do, in plain words. -/
import Derived.Test.YtodlnhmlhpadbaaS2
import Derived.MapKept
import Derived.WideKeyEntry
import Derived.WideLaws
import Derived.Test.YtodlnhmlhpadbaaChecked
namespace Go.Proofs.Ytodlnhmlhpadbaa
open Go.RowKit Go.MapKept
open scoped Classical
set_option linter.unusedVariables false
set_option linter.unusedSimpArgs false

theorem undEdge : Try.prog.underlying 111 = some (.struct (Try.prog.fieldsOf 111)) := by kernel_rfl
theorem fldEdge : (Try.prog.fieldsOf 111).toList.map (fun f => (f.name, f.type, f.offset)) = [("From", 3, 0), ("To", 3, 1)] := by kernel_rfl
theorem stoodEdge : Try.prog.stoodInHeld 111 = false := by kernel_rfl
theorem undInt : Try.prog.underlying 3 = some (.int .i64) := by kernel_rfl
theorem undMap : Try.prog.underlying 136 = some (.map 111 3) := by kernel_rfl
theorem undMap2 : Try.prog.underlying 136 = some (.map (Try.prog.mapKeyOf 136) (Try.prog.mapElemOf 136)) := by kernel_rfl
theorem zeroInt (w : World) : (zeroValue 3).run Try.prog w = .ok (.int .i64 0) w := by kernel_rfl
theorem part_int (w : World) (cs : Array Value) (off : Nat) (v : Value) (h : cs[off]? = some v) : (part 3 cs off).run Try.prog w = .ok v w := by
  have : (isAgg 3).run Try.prog w = .ok false w := by
    unfold isAgg
    rw [Sem.run_bind, run_underlying undInt w]
    rfl
  simp [part, Sem.run_bind, this, h]
theorem flds : ∃ f g : Field, (Try.prog.fieldsOf 111) = #[f, g] ∧ f.name = "From" ∧ f.type = 3 ∧ f.offset = 0 ∧ g.name = "To" ∧ g.type = 3 ∧ g.offset = 1 := by
  have h := fldEdge
  generalize Try.prog.fieldsOf 111 = A at h
  obtain ⟨l⟩ := A
  rcases l with _ | ⟨f, _ | ⟨g, _ | ⟨x, r⟩⟩⟩
  · simp at h
  · simp at h
  · simp at h
    exact ⟨f, g, rfl, h.1.1, h.1.2.1, h.1.2.2, h.2.1, h.2.2.1, h.2.2.2⟩
  · simp at h
/-- Two edges are the same just if both their ends are. -/
theorem edge_equal (a b : EdgeL) (w : World) : (Go.Op.equal 111 (edgeV a) (edgeV b)).run Try.prog w = .ok (a.fr == b.fr && a.dst == b.dst) w := by
  obtain ⟨f, g, hA, f1, f2, f3, g1, g2, g3⟩ := flds
  show (Go.Op.equalIn (9999 + 1) 111 (edgeV a) (edgeV b)).run Try.prog w = _
  unfold edgeV
  rw [run_equalIn_struct w 9999 _ _ _ undEdge stoodEdge, hA]
  have e1 : (Go.Op.equalIn 9999 3 (.int .i64 a.fr) (.int .i64 b.fr)).run Try.prog w = .ok (a.fr == b.fr) w := run_equalIn_int (P := Try.prog) w 9998 3 .i64 .i64 a.fr b.fr undInt
  have e2 : (Go.Op.equalIn 9999 3 (.int .i64 a.dst) (.int .i64 b.dst)).run Try.prog w = .ok (a.dst == b.dst) w := run_equalIn_int (P := Try.prog) w 9998 3 .i64 .i64 a.dst b.dst undInt
  have p1 : (part 3 #[.int .i64 a.fr, .int .i64 a.dst] 0).run Try.prog w = .ok (.int .i64 a.fr) w := part_int w _ _ _ rfl
  have p2 : (part 3 #[.int .i64 b.fr, .int .i64 b.dst] 0).run Try.prog w = .ok (.int .i64 b.fr) w := part_int w _ _ _ rfl
  have p3 : (part 3 #[.int .i64 a.fr, .int .i64 a.dst] 1).run Try.prog w = .ok (.int .i64 a.dst) w := part_int w _ _ _ rfl
  have p4 : (part 3 #[.int .i64 b.fr, .int .i64 b.dst] 1).run Try.prog w = .ok (.int .i64 b.dst) w := part_int w _ _ _ rfl
  simp only [Go.Op.eqFields, f1, f2, f3, g1, g2, g3, Sem.run_bind, p1, p2, Result.andThen_ok, e1, p3, p4]
  rw [if_pos (by decide)]
  simp only [Sem.run_bind, p1, p2, Result.andThen_ok, e1]
  cases h : (a.fr == b.fr)
  · simp
  · simp [Sem.run_bind, p3, p4, e2]
    cases h2 : (a.dst == b.dst) <;> simp_all
theorem edge_same {a b : EdgeL} (h : (a.fr == b.fr && a.dst == b.dst) = true) : a = b := by
  cases a; cases b
  simp at h
  simp [h.1, h.2]
theorem edge_other {a b : EdgeL} (h : (a.fr == b.fr && a.dst == b.dst) = false) : b ≠ a := by
  intro e; subst e; simp at h
theorem edgeV_inj {a b : EdgeL} (h : edgeV a = edgeV b) : a = b := by
  cases a; cases b
  simp [edgeV] at h
  simp [h.1, h.2]
theorem check_edge (em : Bool) (a : EdgeL) (w : World) : (Instr.checkKey em 10000 111 (edgeV a)).run Try.prog w = .ok () w := by
  obtain ⟨f, g, hA, f1, f2, f3, g1, g2, g3⟩ := flds
  have ci : ∀ x : Int, (Instr.checkKey em 9999 3 (.int .i64 x)).run Try.prog w = .ok () w := fun x => by
    show (Instr.checkKey em (9998 + 1) 3 (.int .i64 x)).run Try.prog w = _
    unfold Instr.checkKey
    rw [Sem.run_bind, run_underlying undInt w]
    rfl
  show (Instr.checkKey em (9999 + 1) 111 (edgeV a)).run Try.prog w = _
  unfold edgeV
  have p1 : (part 3 #[.int .i64 a.fr, .int .i64 a.dst] 0).run Try.prog w = .ok (.int .i64 a.fr) w := part_int w _ _ _ rfl
  have p3 : (part 3 #[.int .i64 a.fr, .int .i64 a.dst] 1).run Try.prog w = .ok (.int .i64 a.dst) w := part_int w _ _ _ rfl
  rw [Instr.checkKey, Sem.run_bind, run_underlying undEdge]
  simp only [Result.andThen_ok, hA]
  rw [← Array.forIn_toList]
  simp only [List.forIn_cons, List.forIn_nil, Sem.run_bind, f1, f2, f3, g1, g2, g3]
  rw [if_pos (by decide), if_pos (by decide)]
  simp only [Sem.run_bind, p1, Result.andThen_ok]
  rw [ci]
  simp [p3, Sem.run_bind, ci]
theorem stays_edge (a : EdgeL) (w : World) : (Instr.keyThatStays (edgeV a) (edgeV a)).run Try.prog w = .ok (edgeV a) w := by
  have : Instr.sameBits (9999 + 1) (edgeV a) (edgeV a) = true := by
    unfold edgeV
    simp [Instr.sameBits]
  unfold Instr.keyThatStays
  rw [if_pos this]
  rfl
/-- What an entry holds. -/
def entL (x : MapEntry) : Value × Value := (x.key, x.val)
def entV (q : EdgeL × Int) : Value × Value := (edgeV q.1, .int .i64 q.2)
/-- Block b is a map that holds just these counts, in this order. -/
def MapAt (w : World) (b : Nat) (L : List (EdgeL × Int)) : Prop := ∃ es clock, w.heap[b]? = some (.map es clock) ∧ Stamped es clock ∧ es.toList.map entL = L.map entV
theorem ask_edge (e : EdgeL) (w : World) : ∀ (es : List MapEntry) (L : List (EdgeL × Int)) (i : Nat), es.map entL = L.map entV →
    ((Instr.findAsking 111 (edgeV e) es i).run Try.prog w = .ok none w ∧ ∀ q ∈ L, q.1 ≠ e) ∨ ∃ j c, (Instr.findAsking 111 (edgeV e) es i).run Try.prog w = .ok (some (i + j, .int .i64 c)) w ∧ L[j]? = some (e, c)
  | [], L, i, h => by
    have : L = [] := by simpa using h.symm
    subst this
    exact .inl ⟨rfl, by simp⟩
  | x :: es, [], i, h => by simp at h
  | x :: es, q :: L, i, h => by
    simp only [List.map_cons, List.cons.injEq] at h
    obtain ⟨h1, h2⟩ := h
    have k1 : x.key = edgeV q.1 := congrArg Prod.fst h1
    have k2 : x.val = .int .i64 q.2 := congrArg Prod.snd h1
    have E := edge_equal e q.1 w
    rw [← k1] at E
    cases hb : (e.fr == q.1.fr && e.dst == q.1.dst)
    · rw [hb] at E
      have hne := edge_other hb
      rcases ask_edge e w es L (i + 1) h2 with ⟨r1, r2⟩ | ⟨j, c, r1, r2⟩
      · refine .inl ⟨by simp [Instr.findAsking, Sem.run_bind, E, r1], fun q' hq => ?_⟩
        rcases List.mem_cons.1 hq with rfl | hq
        · exact hne
        · exact r2 q' hq
      · exact .inr ⟨j + 1, c, by simp [Instr.findAsking, Sem.run_bind, E, r1]; omega, by simpa using r2⟩
    · rw [hb] at E
      have he := edge_same hb
      refine .inr ⟨0, q.2, by simp [Instr.findAsking, Sem.run_bind, E, k2], ?_⟩
      rw [he]; simp
theorem find_edge (e : EdgeL) (w : World) (es : List MapEntry) (L : List (EdgeL × Int)) (h : es.map entL = L.map entV) :
    ((Instr.findKey 111 (edgeV e) es).run Try.prog w = .ok none w ∧ ∀ q ∈ L, q.1 ≠ e) ∨ ∃ j c, (Instr.findKey 111 (edgeV e) es).run Try.prog w = .ok (some (j, .int .i64 c)) w ∧ L[j]? = some (e, c) := by
  cases es with
  | nil =>
    have : L = [] := by simpa using h.symm
    subst this
    exact .inl ⟨by simp [Instr.findKey, Sem.run_bind, run_underlying undEdge, Instr.findNow], by simp⟩
  | cons x es =>
    have hk : ∃ q : EdgeL × Int, x.key = edgeV q.1 := by
      cases L with
      | nil => simp at h
      | cons q L => simp only [List.map_cons, List.cons.injEq] at h; exact ⟨q, congrArg Prod.fst h.1⟩
    obtain ⟨q, hk⟩ := hk
    have hn : Instr.findNow (.struct (Try.prog.fieldsOf 111)) (edgeV e) (x :: es) 0 = none := by
      simp [Instr.findNow, hk, edgeV, Instr.sameNow]
    rcases ask_edge e w (x :: es) L 0 h with ⟨r1, r2⟩ | ⟨j, c, r1, r2⟩
    · exact .inl ⟨by simp only [Instr.findKey, Sem.run_bind, run_underlying undEdge, Result.andThen_ok, hn]; exact r1, r2⟩
    · exact .inr ⟨j, c, by simp only [Instr.findKey, Sem.run_bind, run_underlying undEdge, Result.andThen_ok, hn]; rw [r1]; simp, r2⟩
/-- The count of an edge: nought where there is none. -/
def CntIs (L : List (EdgeL × Int)) (e : EdgeL) (c : Int) : Prop := (c = 0 ∧ ∀ q ∈ L, q.1 ≠ e) ∨ ∃ j : Nat, L[j]? = some (e, c)
theorem look_edge {w : World} {b : Nat} {L : List (EdgeL × Int)} (h : MapAt w b L) (e : EdgeL) :
    ∃ c, (Instr.lookup 136 (.map (some b)) (edgeV e) false).run Try.prog w = .ok (.int .i64 c) w ∧ CntIs L e c := by
  obtain ⟨es, clock, hb, hs, hm⟩ := h
  rcases find_edge e w es.toList L hm with ⟨r1, r2⟩ | ⟨j, c, r1, r2⟩
  · exact ⟨0, by simp [Instr.lookup, run_underlying undMap, MapKept.run_getObj_map hb, check_edge, r1, zeroInt, Result.andThen], .inl ⟨rfl, r2⟩⟩
  · exact ⟨c, by simp [Instr.lookup, run_underlying undMap, MapKept.run_getObj_map hb, check_edge, r1, Result.andThen], .inr ⟨j, r2⟩⟩
theorem len_edges {w : World} {b : Nat} {L : List (EdgeL × Int)} (h : MapAt w b L) (ty : TypeId) :
    (Builtin.len_ #[136] ty #[.map (some b)]).run Try.prog w = .ok (.int .i64 L.length) w := by
  obtain ⟨es, clock, hb, hs, hm⟩ := h
  rw [run_len_map _ _ _ _ es clock undMap2 hb]
  have : es.size = L.length := by simpa using congrArg List.length hm
  simp [goInt, this]
/-- A map's entries are written, and nothing else. -/
theorem grown_map (w : World) (b : Nat) (o : Obj) : w.grownBy { w with heap := w.heap.setIfInBounds b o } (some b) :=
  ⟨rfl, rfl, rfl, by simp, fun k _ hk => by
    have : b ≠ k := fun e => hk (by simp [e])
    simp [this]⟩
/-- The entry of an edge stands at place j, and has this stamp. -/
def StampAt (w : World) (b j st : Nat) : Prop := ∃ es clock x, w.heap[b]? = some (.map es clock) ∧ es[j]? = some x ∧ x.born = st
theorem entry_edge {w : World} {b : Nat} {L : List (EdgeL × Int)} (h : MapAt w b L) (e : EdgeL) :
    ∃ (c : Int) (st j : Nat) (w' : World) (L' : List (EdgeL × Int)), (Instr.mapEntry 136 (.map (some b)) (edgeV e)).run Try.prog w = .ok (.tuple #[.int .i64 c, .int .i64 st]) w' ∧
      MapAt w' b L' ∧ StampAt w' b j st ∧ w.grownBy w' (some b) ∧ L'[j]? = some (e, c) ∧ ((L' = L) ∨ (c = 0 ∧ L' = L ++ [(e, 0)] ∧ j = L.length ∧ ∀ q ∈ L, q.1 ≠ e)) := by
  obtain ⟨es, clock, hb, hs, hm⟩ := h
  have hlt : b < w.heap.size := (Array.getElem?_eq_some_iff.1 hb).1
  have hsz : es.size = L.length := by simpa using congrArg List.length hm
  rcases find_edge e w es.toList L hm with ⟨r1, r2⟩ | ⟨j, c, r1, r2⟩
  · have hk : ∀ x ∈ es.toList, x.key ≠ edgeV e := fun x hx he => by
      have : entL x ∈ L.map entV := by rw [← hm]; exact List.mem_map.2 ⟨x, hx, rfl⟩
      obtain ⟨q, hq, hqe⟩ := List.mem_map.1 this
      have : edgeV q.1 = edgeV e := by rw [← he]; exact congrArg Prod.fst hqe
      exact r2 q hq (edgeV_inj this)
    refine ⟨0, clock, L.length, { w with heap := w.heap.setIfInBounds b (.map (es.push ⟨edgeV e, .int .i64 0, clock⟩) (clock + 1)) }, L ++ [(e, 0)], ?_, ?_, ?_, grown_map w b _, by simp, .inr ⟨rfl, rfl, rfl, r2⟩⟩
    · simp [Instr.mapEntry, run_underlying undMap, MapKept.run_getObj_map hb, check_edge, r1, zeroInt, MapKept.run_setObj_map _ hb, Result.andThen, goInt]
    · exact ⟨es.push ⟨edgeV e, .int .i64 0, clock⟩, clock + 1, by simp [hlt], stamped_push hs hk, by simp [hm, entL, entV]⟩
    · exact ⟨es.push ⟨edgeV e, .int .i64 0, clock⟩, clock + 1, ⟨edgeV e, .int .i64 0, clock⟩, by simp [hlt], by rw [← hsz]; simp, rfl⟩
  · have hjl : j < L.length := (List.getElem?_eq_some_iff.1 r2).1
    have hj : j < es.size := by omega
    obtain ⟨x, hx⟩ : ∃ x, es[j]? = some x := ⟨es[j], by simp [hj]⟩
    have hxe : entL x = entV (e, c) := by
      have h1 : (es.toList.map entL)[j]? = some (entL x) := by simp [hx]
      rw [hm] at h1
      simp [r2] at h1
      exact h1.symm
    have hxk : x.key = edgeV e := congrArg Prod.fst hxe
    have hsame : es.modify j (fun y => { y with key := edgeV e }) = es := by
      apply Array.ext'
      rw [Array.toList_modify, Go.ChangeMaps.modify_eq_set _ _ _ _ (show es.toList[j]? = some x by simpa using hx)]
      have : ({ x with key := edgeV e } : MapEntry) = x := by rw [← hxk]
      rw [this]
      exact Go.WideElems.set_self _ _ _ (by simpa using hx)
    have hw : ({ w with heap := w.heap.setIfInBounds b (.map es clock) } : World).heap[b]? = some (.map es clock) := by simp [hlt]
    refine ⟨c, x.born, j, { w with heap := w.heap.setIfInBounds b (.map es clock) }, L, ?_, ⟨es, clock, hw, hs, hm⟩, ⟨es, clock, x, hw, hx, rfl⟩, grown_map w b _, r2, .inl rfl⟩
    simp [Instr.mapEntry, run_underlying undMap, MapKept.run_getObj_map hb, check_edge, r1, hx, hxk, stays_edge, hsame, MapKept.run_setObj_map _ hb, Result.andThen, goInt]
theorem store_edge {w : World} {b j st : Nat} {L : List (EdgeL × Int)} {e : EdgeL} {c : Int} (h : MapAt w b L) (hst : StampAt w b j st) (hj : L[j]? = some (e, c)) (v : Int) :
    ∃ w', (Instr.entryStore 136 (.map (some b)) (.int .i64 st) (.int .i64 v)).run Try.prog w = .ok () w' ∧ MapAt w' b (L.set j (e, v)) ∧ w.grownBy w' (some b) := by
  obtain ⟨es, clock, hb, hs, hm⟩ := h
  obtain ⟨es2, clock2, x, hb2, hx, hborn⟩ := hst
  rw [hb] at hb2
  obtain ⟨rfl, rfl⟩ : es = es2 ∧ clock = clock2 := by simpa using hb2
  have hlt : b < w.heap.size := (Array.getElem?_eq_some_iff.1 hb).1
  have hxl : es.toList[j]? = some x := by simpa using hx
  have hxe : entL x = entV (e, c) := by
    have h1 : (es.toList.map entL)[j]? = some (entL x) := by simp [hx]
    rw [hm] at h1
    simp [hj] at h1
    exact h1.symm
  have hidx : es.findIdx? (fun y => ((y.born : Nat) : Int) == ((st : Nat) : Int)) = some j := by
    rw [Go.WideElems.findIdx_arr, ← hborn]
    exact Go.WideElems.findIdx_born hs.2.1 hxl
  refine ⟨{ w with heap := w.heap.setIfInBounds b (.map (es.modify j fun y => { y with val := .int .i64 v }) clock) }, ?_, ⟨es.modify j (fun y => { y with val := .int .i64 v }), clock, by simp [hlt], stamped_modify hs j _ (fun _ _ => rfl) (fun _ _ _ => rfl), ?_⟩, grown_map w b _⟩
  · simp [Instr.entryStore, MapKept.run_getObj_map hb, asInt, asIntOf, hidx, MapKept.run_setObj_map _ hb, Result.andThen]
  · rw [Array.toList_modify, Go.ChangeMaps.modify_eq_set _ _ _ _ hxl, List.map_set, hm, List.map_set]
    have : entL { x with val := .int .i64 v } = entV (e, v) := by
      have := congrArg Prod.fst hxe
      simp only [entL, entV] at this ⊢
      rw [this]
    rw [this]
theorem mapAt_kept {w w' : World} {b B : Nat} {L : List (EdgeL × Int)} (h : MapAt w b L) (hb : Below B w w') (hB : b < B) : MapAt w' b L := by
  obtain ⟨es, clock, h1, h2, h3⟩ := h
  exact ⟨es, clock, by rw [hb.block b hB]; exact h1, h2, h3⟩
theorem mapAt_lt {w : World} {b : Nat} {L : List (EdgeL × Int)} (h : MapAt w b L) : b < w.heap.size := by
  obtain ⟨es, clock, h1, _⟩ := h
  exact (Array.getElem?_eq_some_iff.1 h1).1
/-- The map counts these edges. -/
def Counted (L : List (EdgeL × Int)) (es : List EdgeL) : Prop :=
  (L.map (·.1)).Nodup ∧ (∀ e, e ∈ L.map (·.1) ↔ e ∈ es) ∧ (∀ q ∈ L, 1 ≤ q.2 ∧ q.2 ≤ es.length) ∧ ((L.length = es.length ∧ es.Nodup) ∨ (L.length < es.length ∧ ¬ es.Nodup))
theorem counted_nil : Counted [] [] := ⟨by simp, by simp, by simp, .inl ⟨rfl, by simp⟩⟩
theorem nodup_snoc {α : Type} {l : List α} {a : α} : (l ++ [a]).Nodup ↔ l.Nodup ∧ a ∉ l := by
  rw [List.nodup_append]
  constructor
  · rintro ⟨h1, _, h3⟩
    exact ⟨h1, fun h => h3 a h a (by simp) rfl⟩
  · rintro ⟨h1, h2⟩
    refine ⟨h1, by simp, fun x hx y hy => ?_⟩
    simp at hy
    subst hy
    exact fun e => h2 (e ▸ hx)
theorem cnt_one {L : List (EdgeL × Int)} {es : List EdgeL} {e : EdgeL} {c : Int} (h : Counted L es) (k : CntIs L e c) : (0 < c ↔ e ∈ es) := by
  obtain ⟨h1, h2, h3, _⟩ := h
  rcases k with ⟨rfl, k⟩ | ⟨j, k⟩
  · refine ⟨fun h => by omega, fun he => ?_⟩
    obtain ⟨q, hq, hqe⟩ := List.mem_map.1 ((h2 e).2 he)
    exact absurd hqe (k q hq)
  · have hm := List.mem_of_getElem? k
    exact ⟨fun _ => (h2 e).1 (List.mem_map.2 ⟨_, hm, rfl⟩), fun _ => by have := (h3 _ hm).1; simp only at this; omega⟩
theorem nodup_at {L : List (EdgeL × Int)} (h : (L.map (·.1)).Nodup) {i j : Nat} {e : EdgeL} {c d : Int} (hi : L[i]? = some (e, c)) (hj : L[j]? = some (e, d)) : i = j ∧ c = d := by
  have h1 : (L.map (·.1))[i]? = some e := by simp [hi]
  have h2 : (L.map (·.1))[j]? = some e := by simp [hj]
  have hl : i < (L.map (·.1)).length := (List.getElem?_eq_some_iff.1 h1).1
  have := (List.getElem?_inj hl h).1 (h1.trans h2.symm)
  subst this
  rw [hi] at hj
  simp at hj
  exact ⟨rfl, hj⟩
/-- What is looked up in the map is the entry's own count, whether it was there or was made just now. -/
theorem cnt_entry {L L' : List (EdgeL × Int)} {es : List EdgeL} {e : EdgeL} {c d : Int} {j : Nat} (h : Counted L es) (hj : L'[j]? = some (e, c)) (hL : (L' = L) ∨ (c = 0 ∧ L' = L ++ [(e, 0)] ∧ j = L.length ∧ ∀ q ∈ L, q.1 ≠ e)) (k : CntIs L e d ∨ CntIs L' e d) : d = c := by
  rcases hL with rfl | ⟨rfl, rfl, rfl, hn⟩
  · have k' : CntIs L' e d := k.elim id id
    rcases k' with ⟨rfl, k2⟩ | ⟨i, k2⟩
    · exact absurd rfl (k2 _ (List.mem_of_getElem? hj))
    · exact (nodup_at h.1 k2 hj).2
  · rcases k with k | k
    · rcases k with ⟨rfl, _⟩ | ⟨i, k⟩
      · rfl
      · exact absurd rfl (hn _ (List.mem_of_getElem? k))
    · rcases k with ⟨rfl, _⟩ | ⟨i, k⟩
      · rfl
      · rw [List.getElem?_append] at k
        split at k
        · exact absurd rfl (hn _ (List.mem_of_getElem? k))
        · have := List.mem_of_getElem? k
          simpa using this
theorem counted_step {L L' : List (EdgeL × Int)} {es : List EdgeL} {e : EdgeL} {c : Int} {j : Nat} (h : Counted L es) (hj : L'[j]? = some (e, c)) (hL : (L' = L) ∨ (c = 0 ∧ L' = L ++ [(e, 0)] ∧ j = L.length ∧ ∀ q ∈ L, q.1 ≠ e)) : Counted (L'.set j (e, c + 1)) (es ++ [e]) := by
  obtain ⟨h1, h2, h3, h4⟩ := h
  rcases hL with rfl | ⟨rfl, rfl, rfl, hn⟩
  · have hm := List.mem_of_getElem? hj
    have hjl := (List.getElem?_eq_some_iff.1 hj).1
    have hkeys : (L'.set j (e, c + 1)).map (·.1) = L'.map (·.1) := by
      rw [List.map_set]
      exact Go.WideElems.set_self _ _ _ (by simp [hj])
    have hin : e ∈ es := (h2 e).1 (List.mem_map.2 ⟨_, hm, rfl⟩)
    refine ⟨by rw [hkeys]; exact h1, fun x => ?_, fun q hq => ?_, .inr ⟨?_, ?_⟩⟩
    · rw [hkeys, h2 x]
      simp only [List.mem_append, List.mem_singleton]
      exact ⟨.inl, fun h => h.elim id (fun h => h ▸ hin)⟩
    · have hb := h3 _ hm
      rcases List.mem_or_eq_of_mem_set hq with hq | rfl
      · have := h3 q hq
        simp only [List.length_append, List.length_cons, List.length_nil]
        omega
      · simp only [List.length_append, List.length_cons, List.length_nil] at hb ⊢
        omega
    · rw [List.length_set, List.length_append, List.length_singleton]
      rcases h4 with h4 | h4 <;> omega
    · rw [nodup_snoc]
      exact fun h => h.2 hin
  · have hnot : e ∉ es := fun he => by
      obtain ⟨q, hq, hqe⟩ := List.mem_map.1 ((h2 e).2 he)
      exact hn q hq hqe
    have e1 : (L ++ [(e, 0)]).set L.length (e, 0 + 1) = L ++ [(e, 1)] := by
      rw [List.set_append_right _ _ (Nat.le_refl _)]; simp
    rw [e1]
    refine ⟨?_, fun x => ?_, fun q hq => ?_, ?_⟩
    · rw [List.map_append, List.map_cons, List.map_nil, nodup_snoc]
      exact ⟨h1, fun h => hnot ((h2 e).1 h)⟩
    · have := h2 x
      simp only [List.map_append, List.map_cons, List.map_nil, List.mem_append, List.mem_singleton]
      rw [this]
    · simp only [List.mem_append, List.mem_singleton] at hq
      simp only [List.length_append, List.length_cons, List.length_nil]
      rcases hq with hq | rfl
      · have := h3 q hq; omega
      · simp only; omega
    · simp only [List.length_append, List.length_cons, List.length_nil, nodup_snoc]
      rcases h4 with ⟨h4, h5⟩ | ⟨h4, h5⟩
      · exact .inl ⟨by omega, h5, hnot⟩
      · exact .inr ⟨by omega, fun h => h5 h.1⟩
end Go.Proofs.Ytodlnhmlhpadbaa
