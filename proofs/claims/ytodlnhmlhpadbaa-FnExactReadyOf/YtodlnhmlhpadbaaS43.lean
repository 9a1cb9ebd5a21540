/- A row of rows that grows by append. Nothing here speaks of the program. -/
import Derived.Test.YtodlnhmlhpadbaaYardTo
import Derived.Test.YtodlnhmlhpadbaaS20
import Derived.Deep.DeepCutAuto
import Derived.Test.YtodlnhmlhpadbaaS1
namespace Go.Proofs.Ytodlnhmlhpadbaa
open Go.RowKit
set_option linter.unusedVariables false

/-- Shelves whose outer row one may append to. -/
structure NestQ (w : World) (B : Nat) (v : Value) (vals : List Value) (sh : List (List QuadL)) : Prop where
  len : vals.length = sh.length
  out : w.ownsRow B 48 1 v sh.length vals
  ins : ∀ (i : Nat) (h : i < vals.length) (h' : i < sh.length), w.ownsRow B 42 4 vals[i] (sh[i]).length (quadsC sh[i])
  ap : ∀ (i j : Nat) (hi : i < vals.length) (hj : j < vals.length), i < j → (vals[i]).ownBlock = none ∨ (vals[i]).ownBlock ≠ (vals[j]).ownBlock
theorem nest_below {w w' : World} {B : Nat} {v : Value} {vals : List Value} {sh : List (List QuadL)} (h : NestQ w B v vals sh) (hb : Below w.heap.size w w') : NestQ w' B v vals sh := ⟨h.len, ownsRow_below h.out hb, fun i a b => ownsRow_below (h.ins i a b) hb, h.ap⟩
theorem nest_x {w : World} {B : Nat} {v : Value} {vals : List Value} {sh : List (List QuadL)} (h : NestQ w B v vals sh) : ShelvesX w B w.heap.size v vals sh := ⟨h.len, ⟨pcOf h.out, fun g hg => (h.out.lt g hg).2⟩, fun i a b => ⟨pcOf (h.ins i a b), fun g hg => ((h.ins i a b).lt g hg).2⟩, h.ap⟩
theorem nest_nil (w : World) (B : Nat) : NestQ w B (.slice none 0 0) [] [] := ⟨rfl, ⟨rfl, .inl ⟨rfl, rfl⟩⟩, fun i h => by simp at h, fun i j h => by simp at h⟩
theorem nest_append {w w1 w2 : World} {B : Nat} {v v' u : Value} {vals : List Value} {sh : List (List QuadL)} {r : List QuadL} (h : NestQ w B v vals sh) (hb : Below w.heap.size w w1) (hB : B ≤ w.heap.size) (hu : w1.ownsRow w.heap.size 42 4 u r.length (quadsC r)) (ho : w2.ownsRow B 48 1 v' (sh.length + 1) (vals ++ [u])) (hg : w1.grownBy w2 v.ownBlock) : NestQ w2 B v' (vals ++ [u]) (sh ++ [r]) := by
  have O := ownsRow_below h.out hb
  have keep : ∀ {x : Value} {n : Nat} {xs : List Value} {C : Nat}, w1.ownsRow C 42 4 x n xs → w2.ownsRow C 42 4 x n xs := fun {x n xs C} k => rowFar hg O k (by decide)
  have old : ∀ (q : Nat) (hq : q < vals.length) (k : Nat), (vals[q]).ownBlock = some k → k < w.heap.size := fun q hq k hk => ((h.ins q hq (by rw [← h.len]; exact hq)).lt k hk).2
  have hl := h.len
  refine ⟨by simp [hl], by rw [List.length_append]; exact ho, fun i a b => ?_, fun i j hi hj hij => ?_⟩
  · by_cases e : i < vals.length
    · have e2 : i < sh.length := by omega
      rw [List.getElem_append_left e, List.getElem_append_left e2]
      exact keep (ownsRow_below (h.ins i e e2) hb)
    · have e1 : i = vals.length := by simp at a; omega
      have e2 : i = sh.length := by omega
      have g1 : (vals ++ [u])[i] = u := by subst e1; simp
      have g2 : (sh ++ [r])[i] = r := by subst e2; simp
      rw [g1, g2]
      exact keep (ownsRow_baseT hu hB)
  · have hi2 : i < vals.length := by simp at hj; omega
    rw [List.getElem_append_left hi2]
    by_cases e : j < vals.length
    · rw [List.getElem_append_left e]; exact h.ap i j hi2 e hij
    · have g1 : (vals ++ [u])[j] = u := by have : j = vals.length := by simp at hj; omega
                                           subst this; simp
      rw [g1]
      cases hv : (vals[i]).ownBlock with
      | none => exact .inl rfl
      | some k => exact .inr (fun x => by have h1 := old i hi2 k hv; have h2 := (hu.lt k x.symm).1; omega)
/-- Runs whose outer row one may append to. -/
structure NestR (w : World) (B : Nat) (v : Value) (vals : List (Value × Value)) (rs : List RunL) : Prop where
  len : vals.length = rs.length
  out : w.ownsRow B 65 8 v rs.length (runsC rs vals)
  ins : ∀ (i : Nat) (h : i < vals.length) (h' : i < rs.length), RunOwn w B vals[i].1 vals[i].2 rs[i]
  apE : ∀ (i j : Nat) (hi : i < vals.length) (hj : j < vals.length), i < j → (vals[i].1).ownBlock = none ∨ (vals[i].1).ownBlock ≠ (vals[j].1).ownBlock
  apT : ∀ (i j : Nat) (hi : i < vals.length) (hj : j < vals.length), i < j → (vals[i].2).ownBlock = none ∨ (vals[i].2).ownBlock ≠ (vals[j].2).ownBlock
theorem nestR_below {w w' : World} {B : Nat} {v : Value} {vals : List (Value × Value)} {rs : List RunL} (h : NestR w B v vals rs) (hb : Below w.heap.size w w') : NestR w' B v vals rs := ⟨h.len, ownsRow_below h.out hb, fun i a b => runOwn_below (h.ins i a b) hb, h.apE, h.apT⟩
theorem nestR_x {w : World} {B : Nat} {v : Value} {vals : List (Value × Value)} {rs : List RunL} (h : NestR w B v vals rs) : RunsX w B w.heap.size v vals rs := ⟨h.len, ⟨pcOf h.out, fun g hg => (h.out.lt g hg).2⟩, fun i a b => ⟨⟨(h.ins i a b).edges, fun g hg => ((h.ins i a b).edges.lt g hg).2⟩, ⟨(h.ins i a b).tasks, fun g hg => ((h.ins i a b).tasks.lt g hg).2⟩⟩, h.apE, h.apT⟩
theorem nestR_nil (w : World) (B : Nat) : NestR w B (.slice none 0 0) [] [] := ⟨rfl, ⟨rfl, .inl ⟨rfl, rfl⟩⟩, fun i h => by simp at h, fun i j h => by simp at h, fun i j h => by simp at h⟩
theorem runsC_append (rs : List RunL) (ps : List (Value × Value)) (r : RunL) (p : Value × Value) (h : ps.length = rs.length) : runsC (rs ++ [r]) (ps ++ [p]) = runsC rs ps ++ (runC r p.1 p.2).toList := by
  induction rs generalizing ps with
  | nil =>
    have : ps = [] := List.eq_nil_of_length_eq_zero (by simpa using h)
    subst this
    simp [runsC]
  | cons x xs ih =>
    match ps, h with
    | q :: qs, h =>
      simp only [List.cons_append, runsC, List.append_assoc]
      rw [ih qs (by simpa using h)]
theorem nestR_append {w w1 w2 : World} {B : Nat} {v v' ue ut : Value} {vals : List (Value × Value)} {rs : List RunL} {r : RunL} (h : NestR w B v vals rs) (hb : Below w.heap.size w w1) (hB : B ≤ w.heap.size) (hu : RunOwn w1 w.heap.size ue ut r) (ho : w2.ownsRow B 65 8 v' (rs.length + 1) (runsC rs vals ++ (runC r ue ut).toList)) (hg : w1.grownBy w2 v.ownBlock) : NestR w2 B v' (vals ++ [(ue, ut)]) (rs ++ [r]) := by
  have O := pcOf (ownsRow_below h.out hb)
  have keepE : ∀ {x : Value} {n : Nat} {xs : List Value} {C : Nat}, w1.ownsRow C 111 2 x n xs → w2.ownsRow C 111 2 x n xs := fun {x n xs C} k => k.kept hg (pcs_types (pcOf k) O (by decide))
  have keepT : ∀ {x : Value} {n : Nat} {xs : List Value} {C : Nat}, w1.ownsRow C 74 4 x n xs → w2.ownsRow C 74 4 x n xs := fun {x n xs C} k => k.kept hg (pcs_types (pcOf k) O (by decide))
  have hl := h.len
  have at_ : (vals ++ [(ue, ut)])[vals.length]'(by simp) = (ue, ut) := by simp
  refine ⟨by simp [hl], by rw [List.length_append, runsC_append _ _ _ _ hl]; exact ho, fun i a b => ?_, fun i j hi hj hij => ?_, fun i j hi hj hij => ?_⟩
  · by_cases e : i < vals.length
    · have e2 : i < rs.length := by omega
      rw [List.getElem_append_left e2]
      simp only [List.getElem_append_left e]
      have y := runOwn_below (h.ins i e e2) hb
      exact ⟨keepE y.edges, keepT y.tasks⟩
    · have e1 : i = vals.length := by simp at a; omega
      have e2 : i = rs.length := by omega
      have g1 : (vals ++ [(ue, ut)])[i] = (ue, ut) := by subst e1; simp
      have g2 : (rs ++ [r])[i] = r := by subst e2; simp
      rw [g2]
      simp only [g1]
      exact ⟨keepE (ownsRow_baseE hu.edges hB), keepT (ownsRow_baseE hu.tasks hB)⟩
  · have hi2 : i < vals.length := by simp at hj; omega
    simp only [List.getElem_append_left hi2]
    by_cases e : j < vals.length
    · simp only [List.getElem_append_left e]; exact h.apE i j hi2 e hij
    · have g1 : (vals ++ [(ue, ut)])[j] = (ue, ut) := by have : j = vals.length := by simp at hj; omega
                                                         subst this; simp
      simp only [g1]
      cases hv : (vals[i].1).ownBlock with
      | none => exact .inl rfl
      | some k => exact .inr (fun x => by have h1 := ((h.ins i hi2 (by omega)).edges.lt k hv).2; have h2 := (hu.edges.lt k x.symm).1; omega)
  · have hi2 : i < vals.length := by simp at hj; omega
    simp only [List.getElem_append_left hi2]
    by_cases e : j < vals.length
    · simp only [List.getElem_append_left e]; exact h.apT i j hi2 e hij
    · have g1 : (vals ++ [(ue, ut)])[j] = (ue, ut) := by have : j = vals.length := by simp at hj; omega
                                                         subst this; simp
      simp only [g1]
      cases hv : (vals[i].2).ownBlock with
      | none => exact .inl rfl
      | some k => exact .inr (fun x => by have h1 := ((h.ins i hi2 (by omega)).tasks.lt k hv).2; have h2 := (hu.tasks.lt k x.symm).1; omega)
end Go.Proofs.Ytodlnhmlhpadbaa

/- The walk of spec.YardNew: a yard with empty shelves and no run. -/
namespace Go.Proofs.Ytodlnhmlhpadbaa
open Go.RowKit
set_option linter.unusedVariables false
set_option linter.unusedSimpArgs false
attribute [local go_sem ↓] Go.wp_at_zero Go.wp_at_succ

def yardNew : YardL := ⟨0, 1, [[], [], [], []], []⟩
theorem nest_kept {w w' : World} {B b : Nat} {v : Value} {vals : List Value} {sh : List (List QuadL)} (h : NestQ w B v vals sh) (hg : w.grownBy w' (some b)) (hb : b < B) : NestQ w' B v vals sh := by
  have far : ∀ {x : Value}, (∀ k, x.ownBlock = some k → B ≤ k) → x.ownBlock = none ∨ x.ownBlock ≠ some b := fun {x} hx => kept_ne (fun j hj e => by have := hx j hj; have := Option.some.inj e; omega)
  exact ⟨h.len, h.out.kept hg (far (fun k hk => (h.out.lt k hk).1)), fun i a c => (h.ins i a c).kept hg (far (fun k hk => ((h.ins i a c).lt k hk).1)), h.ap⟩
set_option maxRecDepth 100000 in
set_option maxHeartbeats 3200000 in
theorem specYardNew_any (w : World) : Calls Try.prog 10 #[] w fun e w' => ∃ vs us, e = .returned (yardV yardNew vs (.slice none 0 0)) ∧ YardX w' w.heap.size w'.heap.size vs (.slice none 0 0) us [] yardNew ∧ Below w.heap.size w w' := by
  obtain ⟨i0, hi0, hz0, hz1, hz2⟩ := info_parts infoShelf
  go_enter Try.func10, Try.ntmps10
  go_upto_region 2 with fail
  obtain ⟨W, hW⟩ : ∃ W, W = (w.alloc (Obj.cells #[.int .i64 0, .int .i64 0, .slice none 0 0, .slice none 0 0] 25)).alloc (Obj.cells #[.int .i64 0, .int .i64 1, .slice none 0 0, .slice none 0 0] 25) := ⟨_, rfl⟩
  have hr : W.heap[w.heap.size]? = some (.cells #[.int .i64 0, .int .i64 0, .slice none 0 0, .slice none 0 0] 25 (0, 0)) := by rw [hW, Below.heap_alloc _ _ _ (by simp)]; exact heap_alloc_new _ _
  have hx : W.heap[w.heap.size + 1]? = some (.cells #[.int .i64 0, .int .i64 1, .slice none 0 0, .slice none 0 0] 25 (0, 0)) := by rw [hW]; exact allocAt _ _ _ (by simp)
  have hW0 : Below w.heap.size w W := by rw [hW]; exact ((Below.refl _ _).alloc (Nat.le_refl _) _).alloc (by simp) _
  have hs0 : W.heap.size = w.heap.size + 1 + 1 := by rw [hW]; simp
  rw [← hW]
  clear hW
  have HN := hide (nest_nil W W.heap.size)
  have HX := hide (And.intro hr (And.intro hx hW0))
  have HS := hide hs0
  clear hr hx hW0 hs0
  go_wp2
  go_loopw [2] (fun i wr => ∃ (k m : Nat) (q : Option Addr) (vals : List Value), k ≤ 4 ∧ i = .int .i64 k ∧ Hid (NestQ wr W.heap.size (.slice q k m) vals (List.replicate k [])) ∧ Hid (wr.heap[w.heap.size]? = some (.cells #[.int .i64 0, .int .i64 0, .slice none 0 0, .slice none 0 0] 25 (0, 0)) ∧ wr.heap[w.heap.size + 1]? = some (.cells #[.int .i64 0, .int .i64 1, .slice q k m, .slice none 0 0] 25 (0, 0)) ∧ Below w.heap.size w wr ∧ W.heap.size ≤ wr.heap.size))
    (fun i _ => 4 - (intOf i).toNat)
  case atStart => exact ⟨0, 0, none, [], by omega, rfl, HN, hide ⟨(unhide HX).1, (unhide HX).2.1, (unhide HX).2.2, Nat.le_refl _⟩⟩
  case round =>
    clear HN HX
    obtain ⟨k, m, q, vals, hk, rfl, HN, HX⟩ := hrel
    obtain ⟨hr, hx, hb, hsz⟩ := unhide HX
    have hs0 := unhide HS
    by_cases hlt : k < 4
    · have hk1 : (k : Int) < 4 := by omega
      have x2 := cellIn (i := 2) hx rfl
      obtain ⟨V1, hV1⟩ : ∃ V1, V1 = wr.alloc (Obj.cells #[] 42) := ⟨_, rfl⟩
      have b1 : Below wr.heap.size wr V1 := by rw [hV1]; exact (Below.refl _ _).alloc (Nat.le_refl _) _
      have u1 : V1.ownsRow wr.heap.size 42 4 (.slice (some ⟨wr.heap.size, 0, none⟩) 0 0) 0 (quadsC []) := by rw [hV1]; exact ownsRow_none wr wr.heap.size 4 42 wr.heap.size rfl (Nat.le_refl _)
      have s1 : V1.heap.size = wr.heap.size + 1 := by rw [hV1]; simp
      obtain ⟨V2, hV2⟩ : ∃ V2, V2 = V1.alloc (Obj.cells #[.slice (some ⟨wr.heap.size, 0, none⟩) 0 0] 48) := ⟨_, rfl⟩
      have b2 : Below V1.heap.size V1 V2 := by rw [hV2]; exact (Below.refl _ _).alloc (Nat.le_refl _) _
      have c2 : V2.heap[V1.heap.size]? = some (.cells #[.slice (some ⟨wr.heap.size, 0, none⟩) 0 0] 48 (0, 0)) := by rw [hV2]; exact heap_alloc_new V1 _
      have u2 := ownsRow_below u1 b2
      have bb : Below wr.heap.size wr V2 := b1.trans (b2.mono b1.size)
      have N2 := nest_below (unhide HN) bb
      have hsrc : SrcAt V2 (.slice (some ⟨V1.heap.size, 0, none⟩) 1 1) 1 1 [.slice (some ⟨wr.heap.size, 0, none⟩) 0 0] := .inr ⟨_, _, rfl, rfl, fun j u hj => by
        rw [addQ, cell_of_row V2 V1.heap.size j _ _ _ c2]
        simpa using hj⟩
      have hrep : (List.replicate k ([] : List QuadL)).length = k := by simp
      have hno := N2.out
      rw [hrep] at hno
      have HO := hide hno
      have HSRC := hide hsrc
      have HH := hide (And.intro hr (And.intro hx (And.intro hb (And.intro hsz (And.intro bb u2)))))
      have hW2 : W.heap.size ≤ V2.heap.size := Nat.le_trans hsz bb.size
      have HW2 := hide hW2
      have HVV := hide (And.intro hV1 (And.intro hV2 s1))
      clear hno hr hx hb hsz b1 u1 b2 c2 u2 bb N2 hsrc hW2 hs0 hV1 hV2 s1 HX
      have HREP := hide hrep
      clear hrep
      go_wp2_with (at_builtin; rw [← (unhide HVV).1]; (try rw [← (unhide HVV).2.2]); rw [← (unhide HVV).2.1]; refine wpList_append_src _ rfl _ _ 22 rfl W.heap.size 48 i0 _ 1 24 Try.underlying22 hi0 hz0 hz1 hz2 rfl (by omega) _ k vals rfl (unhide HO) _ 1 [.slice (some ⟨wr.heap.size, 0, none⟩) 0 0] rfl (unhide HSRC) (by intro u hu; simp at hu; subst hu; rfl) (by unfold maxLen; omega) (by omega) (unhide HW2) ?_)
      all_goals
        intro v3 w3 ho3 hg3 hn3
        obtain ⟨q3, m3, rfl, -⟩ := ownsRow_shape ho3
        obtain ⟨hr, hx, hb, hsz, bb, u2⟩ := unhide HH
        have hs0 := unhide HS
        have N3 := nest_append (unhide HN) bb hsz (r := []) u2 (by rw [unhide HREP]; exact ho3) hg3
        rw [show List.replicate k ([] : List QuadL) ++ [[]] = List.replicate (k + 1) [] from by rw [List.replicate_succ']] at N3
        have far : ∀ b, b < W.heap.size → some b ≠ (Value.slice q k m).ownBlock := fun b hbW e => by have := ((unhide HO).lt b e.symm).1; omega
        have hx2 := heapLater bb hx
        have hr2 := heapLater bb hr
        have hx3 := (hg3.block _ (Array.getElem?_eq_some_iff.1 hx2).1 (far _ (by omega))).trans hx2
        have hr3 := (hg3.block _ (Array.getElem?_eq_some_iff.1 hr2).1 (far _ (by omega))).trans hr2
        have hb3 := (hb.trans (bb.mono hb.size)).grown hg3 (Nat.le_trans hb.size bb.size) (fun j hj => by have := ((unhide HO).lt j hj).1; omega)
        have st := setMany_is [(2, .slice q3 (k + 1) m3)] w3 _ hx3
        simp only [setMany, putMany, List.setIfInBounds_toArray, List.set_cons_zero, List.set_cons_succ] at st
        have N4 := nest_kept N3 st.2 (by omega)
        have hr4 := heapBut st.2 hr3 (by omega)
        have hb4 := hb3.grown st.2 hb3.size (fun j hj => by cases hj; omega)
        have z2 := cellIn (i := 2) hx3 rfl
        have f2 : w3.frozen? ⟨w.heap.size + 1, 2, none⟩ = false := softIn hx3
        have hsz4 : W.heap.size ≤ (w3.setCell ⟨w.heap.size + 1, 2, none⟩ (.slice q3 (k + 1) m3)).heap.size := Nat.le_trans hsz (Nat.le_trans bb.size (Nat.le_trans hg3.size st.2.size))
        have HN4 := hide N4
        have HX4 := hide (And.intro hr4 (And.intro st.1 (And.intro hb4 hsz4)))
        clear hr hx hb hsz bb u2 hs0 N3 far hx2 hr2 hx3 hr3 hb3 st N4 hr4 hb4 hsz4 ho3 hg3 hn3 HO HSRC HH HW2 HN HREP x2
        go_wp2
        go_roundw
        case rel => exact ⟨k + 1, m3, q3, _, by omega, by go_num, HN4, HX4⟩
        case measure => simp [intOf]; omega
    · have hk1 : ¬ (k : Int) < 4 := by omega
      have hk4 : k = 4 := by omega
      subst hk4
      obtain ⟨x0, x1, x2, x3⟩ := cells_fourY hx
      obtain ⟨p0, p1, p2, p3⟩ := cells_fourY hr
      have q0 : wr.frozen? ⟨w.heap.size, 0, none⟩ = false := softIn hr
      have q1 : wr.frozen? ⟨w.heap.size, 1, none⟩ = false := softIn hr
      have q2 : wr.frozen? ⟨w.heap.size, 2, none⟩ = false := softIn hr
      have q3 : wr.frozen? ⟨w.heap.size, 3, none⟩ = false := softIn hr
      have st := setMany_is [(0, .int .i64 0), (1, .int .i64 1), (2, .slice q 4 m), (3, .slice none 0 0)] wr _ hr
      simp only [setMany, putMany, List.setIfInBounds_toArray, List.set_cons_zero, List.set_cons_succ] at st
      obtain ⟨W5, hW5⟩ : ∃ W5, W5 = (((wr.setCell ⟨w.heap.size, 0, none⟩ (.int .i64 0)).setCell ⟨w.heap.size, 1, none⟩ (.int .i64 1)).setCell ⟨w.heap.size, 2, none⟩ (.slice q 4 m)).setCell ⟨w.heap.size, 3, none⟩ (.slice none 0 0) := ⟨_, rfl⟩
      rw [← hW5] at st
      have N5 := nest_kept (unhide HN) st.2 (by omega)
      have hb5 := hb.grown st.2 hb.size (fun j hj => by cases hj; omega)
      have HF := hide (And.intro st.1 (And.intro (shelvesX_wide (nest_x N5) (show w.heap.size ≤ _ by omega) (Nat.le_refl _)) hb5))
      have HW := hide hW5
      clear hr hx hb hsz st hW5 N5 hb5 HN HX hs0
      go_wp2_with fail
      rw [← unhide HW]
      obtain ⟨e5, S5, b5⟩ := unhide HF
      obtain ⟨r0, r1, r2, r3⟩ := cells_fourY e5
      refine bodyPost_ret (v := .agg #[.int .i64 0, .int .i64 1, .slice q 4 m, .slice none 0 0]) (by simp [results, Try.results10, go_sem, r0, r1, r2, r3]) rfl ⟨.slice q 4 m, rfl, ⟨vals, ⟨S5, ⟨rfl, ⟨⟨rfl, .inl ⟨rfl, rfl⟩⟩, fun g hg => by cases hg⟩, fun i h => by simp at h, fun i j h => by simp at h, fun i j h => by simp at h⟩⟩⟩, b5⟩
end Go.Proofs.Ytodlnhmlhpadbaa

/- Plain facts on the four bytes of a number; nothing here speaks of the program. -/
namespace Go.Proofs.Ytodlnhmlhpadbaa
open Go.RowKit

/-- The four bytes of a number, the highest first. -/
def fourL (n : Nat) : List UInt8 := [UInt8.ofNat (n / 16777216), UInt8.ofNat (n / 65536 % 256), UInt8.ofNat (n / 256 % 256), UInt8.ofNat (n % 256)]
/-- What FourOf answers, at every int. -/
def fourT (n : Int) : List UInt8 := if 0 ≤ n ∧ n ≤ 4294967295 then fourL n.toNat else []
theorem fourT_in (n : Nat) (h : n ≤ 4294967295) : fourT (n : Int) = fourL n := by unfold fourT; rw [if_pos (by omega)]; rfl
theorem fourT_out (n : Int) (h : n < 0 ∨ 4294967295 < n) : fourT n = [] := by unfold fourT; rw [if_neg (by omega)]
/-- The number of four bytes. -/
def four4 (a b c d : UInt8) : Nat := a.toNat * 16777216 + b.toNat * 65536 + c.toNat * 256 + d.toNat
theorem four4_lt (a b c d : UInt8) : four4 a b c d < 4294967296 := by
  have := a.toNat_lt; have := b.toNat_lt; have := c.toNat_lt; have := d.toNat_lt
  unfold four4; omega
/-- What FourAt answers. -/
def fourR (l : List UInt8) (k : Int) : Int × Bool := if 0 ≤ k ∧ k ≤ (l.length : Int) - 4 then (four4 (l.getD k.toNat 0) (l.getD (k.toNat + 1) 0) (l.getD (k.toNat + 2) 0) (l.getD (k.toNat + 3) 0), true) else (0, false)
theorem fourR_out (l : List UInt8) (k : Int) (h : k < 0 ∨ (l.length : Int) - 4 < k) : fourR l k = (0, false) := by unfold fourR; rw [if_neg (by omega)]
theorem getD_byte (s : ByteArray) (k : Nat) (h : k < s.size) : s.data.toList.getD k 0 = s[k] := by
  rw [List.getD_eq_getElem?_getD, List.getElem?_eq_getElem (by rw [Array.length_toList]; exact h)]; rfl
theorem fourR_in (s : ByteArray) (k : Nat) (h : k + 4 ≤ s.size) : fourR s.data.toList (k : Int) = (((four4 s[k] s[k + 1] s[k + 2] s[k + 3] : Nat) : Int), true) := by
  unfold fourR
  have h2 : s.data.toList.length = s.size := by rw [Array.length_toList]; rfl
  rw [if_pos (by omega)]
  simp only [Int.toNat_natCast]
  rw [getD_byte s k (by omega), getD_byte s (k + 1) (by omega), getD_byte s (k + 2) (by omega), getD_byte s (k + 3) (by omega)]
theorem bcs_ints (xs : List Int) (h : ∀ x ∈ xs, 0 ≤ x ∧ x < 256) : bcs (xs.map fun x => UInt8.ofNat x.toNat) = xs.map (Value.int .u8) := by
  induction xs with
  | nil => rfl
  | cons x xs ih =>
    have h0 := h x (by simp)
    have := bcs_one x h0.1 h0.2
    rw [List.map_cons, List.map_cons, ← ih (fun y hy => h y (by simp [hy]))]
    simp only [bcs, List.map_cons, List.map_nil] at this ⊢
    rw [List.cons.injEq] at this ⊢
    exact ⟨this.1, rfl⟩
/-- A new row of bytes, converted to a string. -/
theorem conv_lits {P : Program} (w : World) {src dst e : TypeId} (xs : List Int) (h : ∀ x ∈ xs, 0 ≤ x ∧ x < 256) (hl : xs.length ≤ maxLen) (hs : P.underlying src = some (.slice e)) (he : P.underlying e = some (.int .u8)) (hd : P.underlying dst = some .string) :
    (convert src dst (.slice (some ⟨w.heap.size, 0, none⟩) xs.length xs.length)).run P (w.alloc (.cells (xs.map (Value.int .u8)).toArray e)) = .ok (.string ⟨(xs.map fun x => UInt8.ofNat x.toNat).toArray⟩) (w.alloc (.cells (xs.map (Value.int .u8)).toArray e)) := by
  refine conv_own (base := w.heap.size) (n := xs.length) (xs.map fun x => UInt8.ofNat x.toNat) (by simp) hs he hd ?_
  rw [bcs_ints xs h]
  have := World.ownsRow_lit (base := w.heap.size) (e := e) (size := 1) w (xs.map (Value.int .u8)).toArray xs.length (Nat.le_refl _) hl (by simp)
  simpa using this
theorem conv_four {P : Program} (w : World) {src dst e : TypeId} (n : Nat) (hn : n ≤ 4294967295) (hs : P.underlying src = some (.slice e)) (he : P.underlying e = some (.int .u8)) (hd : P.underlying dst = some .string) :
    (convert src dst (.slice (some ⟨w.heap.size, 0, none⟩) 4 4)).run P (w.alloc (.cells #[.int .u8 ((n : Int) / 16777216), .int .u8 ((n : Int) / 65536 % 256), .int .u8 ((n : Int) / 256 % 256), .int .u8 ((n : Int) % 256)] e)) = .ok (.string ⟨(fourL n).toArray⟩) (w.alloc (.cells #[.int .u8 ((n : Int) / 16777216), .int .u8 ((n : Int) / 65536 % 256), .int .u8 ((n : Int) / 256 % 256), .int .u8 ((n : Int) % 256)] e)) := by
  have := conv_lits (P := P) w (src := src) (dst := dst) (e := e) [(n : Int) / 16777216, (n : Int) / 65536 % 256, (n : Int) / 256 % 256, (n : Int) % 256] (by intro x hx; simp at hx; omega) (show (4 : Nat) ≤ maxLen by decide) hs he hd
  have e1 : [(n : Int) / 16777216, (n : Int) / 65536 % 256, (n : Int) / 256 % 256, (n : Int) % 256].map (fun x => UInt8.ofNat x.toNat) = fourL n := by
    simp only [List.map_cons, List.map_nil, fourL]
    rw [show ((n : Int) / 16777216).toNat = n / 16777216 from by omega, show ((n : Int) / 65536 % 256).toNat = n / 65536 % 256 from by omega, show ((n : Int) / 256 % 256).toNat = n / 256 % 256 from by omega, show ((n : Int) % 256).toNat = n % 256 from by omega]
  rw [e1] at this
  exact this
theorem fourL_length (n : Nat) : (fourL n).length = 4 := rfl
theorem four4_fourL (n : Nat) (h : n ≤ 4294967295) : four4 (UInt8.ofNat (n / 16777216)) (UInt8.ofNat (n / 65536 % 256)) (UInt8.ofNat (n / 256 % 256)) (UInt8.ofNat (n % 256)) = n := by
  unfold four4
  simp only [UInt8.toNat_ofNat']
  omega
def fourV (l : List UInt8) (k : Int) : Value := .tuple #[.int .i64 (fourR l k).1, .bool (fourR l k).2]
theorem fourV_out (l : List UInt8) (k : Int) (h : k < 0 ∨ (l.length : Int) - 4 < k) : fourV l k = .tuple #[.int .i64 0, .bool false] := by unfold fourV; rw [fourR_out l k h]
theorem fourV_in (s : ByteArray) (k : Nat) (h : k + 4 ≤ s.size) : fourV s.data.toList (k : Int) = .tuple #[.int .i64 ((four4 s[k] s[k + 1] s[k + 2] s[k + 3] : Nat) : Int), .bool true] := by unfold fourV; rw [fourR_in s k h]
theorem bits_or_i64 (a b : Nat) (ha : a < 9223372036854775808) (hb : b < 9223372036854775808) : bits .or .i64 (a : Int) (b : Int) = ((a ||| b : Nat) : Int) := by
  have hx : a ||| b < 2 ^ 63 := Nat.or_lt_two_pow (by omega) (by omega)
  have o : ∀ c : Nat, c < 9223372036854775808 → (BitVec.ofInt 64 (c : Int)).toNat = c := fun c hc => by rw [BitVec.ofInt_natCast, BitVec.toNat_ofNat]; exact Nat.mod_eq_of_lt (by omega)
  show IntKind.i64.wrap ((BitVec.ofInt 64 (a : Int) ||| BitVec.ofInt 64 (b : Int)).toNat : Int) = _
  rw [BitVec.toNat_or, o a ha, o b hb, IntKind.wrap_i64]
  omega
theorem bits_xor_i64 (a b : Nat) (ha : a < 9223372036854775808) (hb : b < 9223372036854775808) : bits .xor .i64 (a : Int) (b : Int) = ((a ^^^ b : Nat) : Int) := by
  have hx : a ^^^ b < 2 ^ 63 := Nat.xor_lt_two_pow (by omega) (by omega)
  have o : ∀ c : Nat, c < 9223372036854775808 → (BitVec.ofInt 64 (c : Int)).toNat = c := fun c hc => by rw [BitVec.ofInt_natCast, BitVec.toNat_ofNat]; exact Nat.mod_eq_of_lt (by omega)
  show IntKind.i64.wrap ((BitVec.ofInt 64 (a : Int) ^^^ BitVec.ofInt 64 (b : Int)).toNat : Int) = _
  rw [BitVec.toNat_xor, o a ha, o b hb, IntKind.wrap_i64]
  omega
/-- A byte put behind a number. -/
theorem or_byte (m b : Nat) (hm : m < 4294967296) (hb : b < 256) : bits .or .i64 ((m : Int) * 256) (b : Int) = ((m * 256 + b : Nat) : Int) := by
  have e : (m : Int) * 256 = ((m * 256 : Nat) : Int) := by omega
  rw [e, bits_or_i64 _ _ (by omega) (by omega)]
  have h := Nat.two_pow_add_eq_or_of_lt (i := 8) (b := b) (by omega) m
  rw [show m * 256 = 2 ^ 8 * m from by omega, ← h]
/-- The number of the first j bytes from a place on. -/
def fourAcc (l : List UInt8) (k : Nat) : Nat → Nat
  | 0 => 0
  | j + 1 => fourAcc l k j * 256 + (l.getD (k + j) 0).toNat
theorem fourAcc_lt (l : List UInt8) (k : Nat) : ∀ j, fourAcc l k j < 256 ^ j
  | 0 => by simp [fourAcc]
  | j + 1 => by
    have := fourAcc_lt l k j
    have := (l.getD (k + j) 0).toNat_lt
    simp only [fourAcc, Nat.pow_succ]; omega
theorem fourAcc_four (s : ByteArray) (k : Nat) (h : k + 4 ≤ s.size) : fourAcc s.data.toList k 4 = four4 s[k] s[k + 1] s[k + 2] s[k + 3] := by
  simp only [fourAcc, Nat.add_zero]
  rw [getD_byte s k (by omega), getD_byte s (k + 1) (by omega), getD_byte s (k + 2) (by omega), getD_byte s (k + 3) (by omega)]
  unfold four4; omega
theorem fourAcc_step (s : ByteArray) (k j : Nat) (hj : j < 4) (h : k + 4 ≤ s.size) : bits .or .i64 ((fourAcc s.data.toList k j : Int) * 256) (wrap64 ((s[k + j].toNat : Nat) : Int)) = ((fourAcc s.data.toList k (j + 1) : Nat) : Int) := by
  have h1 := fourAcc_lt s.data.toList k j
  have h2 : 256 ^ j ≤ 256 ^ 3 := Nat.pow_le_pow_right (by omega) (by omega)
  have hc := s[k + j].toNat_lt
  rw [show wrap64 ((s[k + j].toNat : Nat) : Int) = ((s[k + j].toNat : Nat) : Int) from by unfold wrap64; omega, or_byte _ _ (by omega) (UInt8.toNat_lt _), fourAcc, getD_byte s (k + j) (by omega)]
theorem w64_in (x : Int) (h0 : 0 ≤ x) (h1 : x < 4611686018427387904) : wrap64 x = x := by unfold wrap64; omega
theorem four4_wraps (a b c d : UInt8) : wrap64 (wrap64 (wrap64 (wrap64 (wrap64 (a.toNat : Int) * 16777216) + wrap64 (wrap64 (b.toNat : Int) * 65536)) + wrap64 (wrap64 (c.toNat : Int) * 256)) + wrap64 (d.toNat : Int)) = ((four4 a b c d : Nat) : Int) := by
  have := a.toNat_lt; have := b.toNat_lt; have := c.toNat_lt; have := d.toNat_lt
  rw [w64_in (a.toNat : Int) (by omega) (by omega), w64_in (b.toNat : Int) (by omega) (by omega), w64_in (c.toNat : Int) (by omega) (by omega), w64_in (d.toNat : Int) (by omega) (by omega)]
  rw [w64_in ((a.toNat : Int) * 16777216) (by omega) (by omega), w64_in ((b.toNat : Int) * 65536) (by omega) (by omega), w64_in ((c.toNat : Int) * 256) (by omega) (by omega)]
  rw [w64_in ((a.toNat : Int) * 16777216 + (b.toNat : Int) * 65536) (by omega) (by omega), w64_in ((a.toNat : Int) * 16777216 + (b.toNat : Int) * 65536 + (c.toNat : Int) * 256) (by omega) (by omega), w64_in _ (by omega) (by omega)]
  unfold four4; omega
theorem ret_intb {k : IntKind} {a b : Int} {t : Bool} (h : a = b) : Ending.returned (.tuple #[.int k a, .bool t]) = .returned (.tuple #[.int k b, .bool t]) := by rw [h]
end Go.Proofs.Ytodlnhmlhpadbaa
