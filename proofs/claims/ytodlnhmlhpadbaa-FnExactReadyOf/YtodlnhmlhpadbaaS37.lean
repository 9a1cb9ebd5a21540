/- Orders and depths of a plan in plain words. Nothing here speaks of the program. -/
import Derived.Test.YtodlnhmlhpadbaaS36
import Derived.Test.YtodlnhmlhpadbaaS13
namespace Go.Proofs.Ytodlnhmlhpadbaa
open Go.RowKit
open scoped Classical
set_option linter.unusedVariables false

/-- The numbers 0 .. n - 1. -/
def upTo (n : Nat) : List Int := (List.range n).map (fun k : Nat => (k : Int))
theorem upTo_len (n : Nat) : (upTo n).length = n := by simp [upTo]
theorem upTo_mem (n : Nat) (x : Int) : x ∈ upTo n ↔ 0 ≤ x ∧ x < (n : Int) := by
  unfold upTo
  rw [List.mem_map]
  constructor
  · rintro ⟨k, hk, rfl⟩; rw [List.mem_range] at hk; omega
  · rintro ⟨h1, h2⟩; exact ⟨x.toNat, by rw [List.mem_range]; omega, by omega⟩
/-- So many numbers below n, none twice, are all of them. -/
theorem all_there {n : Nat} {l : List Int} (hn : l.Nodup) (hin : ∀ x ∈ l, 0 ≤ x ∧ x < (n : Int)) (hl : n ≤ l.length) (x : Int) (h0 : 0 ≤ x) (h1 : x < (n : Int)) : x ∈ l := by
  by_cases hx : x ∈ l
  · exact hx
  · exfalso
    have h2 : (x :: l).Nodup := List.nodup_cons.2 ⟨hx, hn⟩
    have h3 : (x :: l) ⊆ upTo n := fun y hy => by
      rw [upTo_mem]
      rcases List.mem_cons.1 hy with rfl | hy
      · exact ⟨h0, h1⟩
      · exact hin y hy
    have := h2.length_le_of_subset h3
    rw [upTo_len, List.length_cons] at this
    omega
/-- Fewer than n numbers below n lack one. -/
theorem one_lacks {n : Nat} {l : List Int} (hl : l.length < n) : ∃ x, 0 ≤ x ∧ x < (n : Int) ∧ x ∉ l := by
  by_cases h : ∃ x, 0 ≤ x ∧ x < (n : Int) ∧ x ∉ l
  · exact h
  · exfalso
    have h3 : upTo n ⊆ l := fun y hy => by
      rw [upTo_mem] at hy
      by_cases hy2 : y ∈ l
      · exact hy2
      · exact absurd ⟨y, hy.1, hy.2, hy2⟩ h
    have hnd : (upTo n).Nodup := by
      unfold upTo
      rw [List.nodup_iff_pairwise_ne, List.pairwise_map]
      exact (List.nodup_iff_pairwise_ne.1 List.nodup_range).imp (fun h e => h (by omega))
    have := hnd.length_le_of_subset h3
    rw [upTo_len] at this
    omega
theorem countP_less {α : Type} (p q : α → Bool) : ∀ (l : List α), (∀ x ∈ l, p x = true → q x = true) → (∃ x ∈ l, q x = true ∧ p x = false) → l.countP p < l.countP q
  | [], _, h => by obtain ⟨x, hx, _⟩ := h; simp at hx
  | a :: l, h, hx => by
    have hm : l.countP p ≤ l.countP q := List.countP_mono_left (fun x hx => h x (List.mem_cons_of_mem a hx))
    obtain ⟨x, hx, h1, h2⟩ := hx
    rw [List.countP_cons, List.countP_cons]
    rcases List.mem_cons.1 hx with rfl | hx
    · rw [h1, h2]; simp; omega
    · have := countP_less p q l (fun x hx => h x (List.mem_cons_of_mem a hx)) ⟨x, hx, h1, h2⟩
      have h3 := h a (List.mem_cons_self ..)
      cases hp : p a with
      | false => simp; split <;> omega
      | true => rw [h3 hp]; simp; omega
/-- A plan that is right, in short. -/
structure GoodP (es : List EdgeL) (n : Nat) : Prop where
  ins : ∀ e ∈ es, 0 ≤ e.fr ∧ e.fr < (n : Int) ∧ 0 ≤ e.dst ∧ e.dst < (n : Int)
  nocyc : ∀ t : Int, 0 ≤ t → t < (n : Int) → ¬ Reach es t t
/-- Each task has a number (how many reach it) that is greater than that of all that reach it. -/
theorem anc_ex {es : List EdgeL} {n : Nat} (h : GoodP es n) : ∃ f : Int → Nat, (∀ b t : Int, Reach es b t → 0 ≤ b → b < (n : Int) → f b < f t) ∧ ∀ t : Int, 0 ≤ t → t < (n : Int) → f t < n := by
  refine ⟨fun t => (upTo n).countP (fun b => decide (Reach es b t)), fun b t hr h0 h1 => ?_, fun t h0 h1 => ?_⟩
  · refine countP_less _ _ _ (fun x _ hx => ?_) ⟨b, (upTo_mem n b).2 ⟨h0, h1⟩, by simpa using hr, by simpa using h.nocyc b h0 h1⟩
    simp only [decide_eq_true_eq] at hx ⊢
    exact reach_trans hx hr
  · have := countP_less (fun b => decide (Reach es b t)) (fun _ => true) (upTo n) (fun _ _ _ => rfl) ⟨t, (upTo_mem n t).2 ⟨h0, h1⟩, rfl, by simpa using h.nocyc t h0 h1⟩
    rw [List.countP_true, upTo_len] at this
    exact this
/-- For what a task waits. -/
def bef (es : List EdgeL) (n : Nat) (t : Int) : List Int := risen (fun b => hasE es b t) n
theorem bef_mem {es : List EdgeL} {n : Nat} (h : GoodP es n) (b t : Int) : b ∈ bef es n t ↔ (⟨b, t⟩ : EdgeL) ∈ es := by
  unfold bef
  rw [risen_mem]
  constructor
  · rintro ⟨_, _, h3⟩; exact hasE_mem h3
  · intro he
    have := h.ins _ he
    exact ⟨this.1, this.2.1, (hasE_iff es b t).2 he⟩
/-- Whether a task comes next may be: it is not told yet, all for which it waits are. -/
def ready (es : List EdgeL) (n : Nat) (told : List Int) (t : Int) : Bool := !told.contains t && (bef es n t).all (fun b => told.contains b)
theorem ready_iff (es : List EdgeL) (n : Nat) (told : List Int) (t : Int) : ready es n told t = true ↔ t ∉ told ∧ ∀ b ∈ bef es n t, b ∈ told := by
  unfold ready
  rw [Bool.and_eq_true, List.all_eq_true]
  simp
/-- What is told so far: each was the least that could come next. -/
def OrdTo (es : List EdgeL) (n : Nat) (out : List Int) : Prop := ∀ (i : Nat) (h : i < out.length), (0 ≤ out[i] ∧ out[i] < (n : Int)) ∧ ready es n (out.take i) out[i] = true ∧ ∀ t : Int, 0 ≤ t → t < out[i] → ready es n (out.take i) t = false
def OrdIs (es : List EdgeL) (n : Nat) (out : List Int) : Prop := out.length = n ∧ OrdTo es n out
theorem ordTo_nil (es : List EdgeL) (n : Nat) : OrdTo es n [] := fun i h => by simp at h
theorem ordTo_snoc {es : List EdgeL} {n : Nat} {out : List Int} (h : OrdTo es n out) {t : Int} (h0 : 0 ≤ t) (h1 : t < (n : Int)) (hr : ready es n out t = true) (hl : ∀ u : Int, 0 ≤ u → u < t → ready es n out u = false) : OrdTo es n (out ++ [t]) := fun i hi => by
  rw [List.length_append, List.length_singleton] at hi
  by_cases hlt : i < out.length
  · rw [List.getElem_append_left hlt, List.take_append_of_le_length (by omega)]
    exact h i hlt
  · have e : i = out.length := by omega
    subst e
    rw [List.getElem_append_right (by omega), List.take_append_of_le_length (by omega), List.take_length]
    simp only [Nat.sub_self, List.getElem_cons_zero]
    exact ⟨⟨h0, h1⟩, hr, hl⟩
theorem ordTo_in {es : List EdgeL} {n : Nat} {out : List Int} (h : OrdTo es n out) : ∀ x ∈ out, 0 ≤ x ∧ x < (n : Int) := fun x hx => by
  obtain ⟨i, hi, rfl⟩ := List.mem_iff_getElem.1 hx
  exact (h i hi).1
theorem ordTo_nodup {es : List EdgeL} {n : Nat} {out : List Int} (h : OrdTo es n out) : out.Nodup := by
  rw [List.nodup_iff_pairwise_ne, List.pairwise_iff_getElem]
  intro i j hi hj hij e
  have := ((ready_iff es n _ _).1 (h j hj).2.1).1
  exact this (by rw [← e]; exact List.mem_take_iff_getElem.2 ⟨i, by omega, rfl⟩)
/-- As long as some are not told, one of them can come next. -/
theorem ord_more {es : List EdgeL} {n : Nat} {out : List Int} (hg : GoodP es n) (hl : out.length < n) : ∃ t : Int, 0 ≤ t ∧ t < (n : Int) ∧ ready es n out t = true := by
  obtain ⟨u, hu0, hu1, hu2⟩ := one_lacks hl
  obtain ⟨anc, anc_less, -⟩ := anc_ex hg
  have key : ∀ (k : Nat) (u : Int), anc u ≤ k → 0 ≤ u → u < (n : Int) → u ∉ out → ∃ t : Int, 0 ≤ t ∧ t < (n : Int) ∧ ready es n out t = true := by
    intro k
    induction k with
    | zero =>
      intro u hk h0 h1 h2
      refine ⟨u, h0, h1, (ready_iff es n out u).2 ⟨h2, fun b hb => ?_⟩⟩
      have he := (bef_mem hg b u).1 hb
      have hi := hg.ins _ he
      have := anc_less _ _ (reach_one he) hi.1 hi.2.1
      dsimp only at this
      omega
    | succ k ih =>
      intro u hk h0 h1 h2
      by_cases hall : ∀ b ∈ bef es n u, b ∈ out
      · exact ⟨u, h0, h1, (ready_iff es n out u).2 ⟨h2, hall⟩⟩
      · have : ∃ b, b ∈ bef es n u ∧ b ∉ out := by
          by_cases hx : ∃ b, b ∈ bef es n u ∧ b ∉ out
          · exact hx
          · exact absurd (fun b hb => by
              by_cases hbo : b ∈ out
              · exact hbo
              · exact absurd ⟨b, hb, hbo⟩ hx) hall
        obtain ⟨b, hb, hbo⟩ := this
        have he := (bef_mem hg b u).1 hb
        have hi := hg.ins _ he
        have hless := anc_less _ _ (reach_one he) hi.1 hi.2.1
        dsimp only at hless hi
        exact ih b (by omega) hi.1 hi.2.1 hbo
  exact key _ u (Nat.le_refl _) hu0 hu1 hu2
/-- There is but one order. -/
theorem ord_one {es : List EdgeL} {n : Nat} {a b : List Int} (ha : OrdIs es n a) (hb : OrdIs es n b) : a = b := by
  have key : ∀ i, i ≤ n → a.take i = b.take i := by
    intro i
    induction i with
    | zero => intro _; simp
    | succ i ih =>
      intro hi
      have hia : i < a.length := by rw [ha.1]; omega
      have hib : i < b.length := by rw [hb.1]; omega
      have e := ih (by omega)
      rw [List.take_succ_eq_append_getElem hia, List.take_succ_eq_append_getElem hib, e]
      obtain ⟨⟨a0, a1⟩, a2, a3⟩ := ha.2 i hia
      obtain ⟨⟨b0, b1⟩, b2, b3⟩ := hb.2 i hib
      rw [e] at a2 a3
      have : a[i] = b[i] := by
        rcases Int.lt_trichotomy a[i] b[i] with h | h | h
        · rw [b3 _ a0 h] at a2; cases a2
        · exact h
        · rw [a3 _ b0 h] at b2; cases b2
      rw [this]
  have := key n (Nat.le_refl _)
  rw [List.take_of_length_le (by rw [ha.1]; exact Nat.le_refl _), List.take_of_length_le (by rw [hb.1]; exact Nat.le_refl _)] at this
  exact this
/-- There is an order. -/
theorem ord_ex {es : List EdgeL} {n : Nat} (hg : GoodP es n) : ∃ out, OrdIs es n out := by
  have key : ∀ k, k ≤ n → ∃ out : List Int, out.length = k ∧ OrdTo es n out := by
    intro k
    induction k with
    | zero => intro _; exact ⟨[], rfl, ordTo_nil es n⟩
    | succ k ih =>
      intro hk
      obtain ⟨out, hl, ho⟩ := ih (by omega)
      obtain ⟨t, h0, h1, h2⟩ := ord_more (out := out) hg (by omega)
      have least : ∀ (m : Nat) (t : Int), t.toNat ≤ m → 0 ≤ t → t < (n : Int) → ready es n out t = true → ∃ t : Int, 0 ≤ t ∧ t < (n : Int) ∧ ready es n out t = true ∧ ∀ u : Int, 0 ≤ u → u < t → ready es n out u = false := by
        intro m
        induction m with
        | zero => intro t hm h0 h1 h2; exact ⟨t, h0, h1, h2, fun u hu hut => by omega⟩
        | succ m ihm =>
          intro t hm h0 h1 h2
          by_cases hx : ∃ u : Int, 0 ≤ u ∧ u < t ∧ ready es n out u = true
          · obtain ⟨u, hu0, hut, hur⟩ := hx
            exact ihm u (by omega) hu0 (by omega) hur
          · exact ⟨t, h0, h1, h2, fun u hu hut => by
              cases hr : ready es n out u with
              | false => rfl
              | true => exact absurd ⟨u, hu, hut, hr⟩ hx⟩
      obtain ⟨t, h0, h1, h2, h3⟩ := least t.toNat t (Nat.le_refl _) h0 h1 h2
      exact ⟨out ++ [t], by simp [hl], ordTo_snoc ho h0 h1 h2 h3⟩
  obtain ⟨out, h1, h2⟩ := key n (Nat.le_refl _)
  exact ⟨out, h1, h2⟩
theorem goodP_of {p : PlanL} {n : Nat} (h : FaultIs p 0) (hn : p.tasks = (n : Int)) : GoodP p.edges n := by
  obtain ⟨h1, h2, h3, h4⟩ := fault_none h
  refine ⟨fun e he => ?_, fun t a b => ?_⟩
  · have := h2 e he; rw [← hn]; exact this
  · rw [← hn] at b; exact h4 t a b
end Go.Proofs.Ytodlnhmlhpadbaa

/- Runs that stay right: what becomes of one that is new, of which a task is handed out, done, fails or is left. Nothing here speaks of the program. -/
namespace Go.Proofs.Ytodlnhmlhpadbaa
open Go.RowKit
open scoped Classical
set_option linter.unusedVariables false

/-- Each task by its place is turned into another. -/
def mapT (ts : List QuadL) (f : Nat → QuadL → QuadL) : List QuadL := (List.range ts.length).map (fun k => f k (ts.getD k quad0))
theorem mapT_len (ts : List QuadL) (f : Nat → QuadL → QuadL) : (mapT ts f).length = ts.length := by simp [mapT]
theorem mapT_get (ts : List QuadL) (f : Nat → QuadL → QuadL) (k : Nat) (h : k < (mapT ts f).length) : (mapT ts f)[k] = f k (ts.getD k quad0) := by simp [mapT]
theorem getD_at {ts : List QuadL} {k : Nat} (h : k < ts.length) : ts.getD k quad0 = ts[k] := by rw [List.getD_eq_getElem?_getD, List.getElem?_eq_getElem h]; rfl
theorem mapT_getD (ts : List QuadL) (f : Nat → QuadL → QuadL) (k : Nat) (h : k < ts.length) : (mapT ts f).getD k quad0 = f k (ts.getD k quad0) := by
  rw [getD_at (by rw [mapT_len]; exact h), mapT_get]
theorem mapT_mem {ts : List QuadL} {f : Nat → QuadL → QuadL} {x : QuadL} (h : x ∈ mapT ts f) : ∃ k, k < ts.length ∧ x = f k (ts.getD k quad0) := by
  simp only [mapT, List.mem_map, List.mem_range] at h
  obtain ⟨k, hk, rfl⟩ := h
  exact ⟨k, hk, rfl⟩
theorem mem_mapT {ts : List QuadL} {f : Nat → QuadL → QuadL} {k : Nat} (h : k < ts.length) : f k (ts.getD k quad0) ∈ mapT ts f := by
  simp only [mapT, List.mem_map, List.mem_range]
  exact ⟨k, h, rfl⟩
theorem set_mapT (ts : List QuadL) (t : Nat) (y : QuadL) : ts.set t y = mapT ts (fun k x => if k = t then y else x) := by
  refine List.ext_getElem (by simp [mapT_len]) (fun k h1 h2 => ?_)
  rw [mapT_get, List.getElem_set]
  have hk : k < ts.length := by simpa using h1
  by_cases e : t = k
  · subst e; simp
  · rw [if_neg e, if_neg (fun h => e h.symm), getD_at hk]
theorem map_mapT (ts : List QuadL) (g : QuadL → QuadL) : ts.map g = mapT ts (fun _ x => g x) := by
  refine List.ext_getElem (by simp [mapT_len]) (fun k h1 h2 => ?_)
  have hk : k < ts.length := by simpa using h1
  rw [mapT_get, List.getElem_map, getD_at hk]
theorem mapT_mapT (ts : List QuadL) (f g : Nat → QuadL → QuadL) : mapT (mapT ts f) g = mapT ts (fun k x => g k (f k x)) := by
  refine List.ext_getElem (by simp [mapT_len]) (fun k h1 h2 => ?_)
  have hk : k < ts.length := by simpa [mapT_len] using h1
  rw [mapT_get, mapT_get, mapT_getD ts f k hk]
theorem mapT_same (ts : List QuadL) (f g : Nat → QuadL → QuadL) (h : ∀ k, k < ts.length → f k (ts.getD k quad0) = g k (ts.getD k quad0)) : mapT ts f = mapT ts g := by
  refine List.ext_getElem (by simp [mapT_len]) (fun k h1 h2 => ?_)
  rw [mapT_get, mapT_get, h k (by simpa [mapT_len] using h1)]
theorem mapT_id (ts : List QuadL) : mapT ts (fun _ x => x) = ts := by
  refine List.ext_getElem (by simp [mapT_len]) (fun k h1 h2 => ?_)
  rw [mapT_get, getD_at h2]
/-- Counts of states. -/
theorem cntS_zero {ts : List QuadL} {s : Nat} : cntS ts s = 0 ↔ ∀ x ∈ ts, x.a ≠ (s : Int) := by
  unfold cntS
  rw [List.countP_eq_zero]
  simp
theorem cntS_all {ts : List QuadL} {s : Nat} : cntS ts s = ts.length ↔ ∀ x ∈ ts, x.a = (s : Int) := by
  unfold cntS
  rw [List.countP_eq_length]
  simp
theorem state_live {ts : List QuadL} (h5 : ∀ x ∈ ts, x.a ≠ 5) (h6 : ∀ x ∈ ts, x.a ≠ 6) (h4 : ∃ x ∈ ts, x.a ≠ 4) : stateA ts = 1 := by
  have e5 : cntS ts 5 = 0 := cntS_zero.2 h5
  have e6 : cntS ts 6 = 0 := cntS_zero.2 h6
  have e4 : ¬ cntS ts 4 = ts.length := fun e => by
    obtain ⟨x, hx, hne⟩ := h4
    exact hne (cntS_all.1 e x hx)
  unfold stateA
  rw [if_neg e4, if_neg (by omega), if_neg (by omega), if_pos ⟨e5, e6⟩]
theorem state_done {ts : List QuadL} (h4 : ∀ x ∈ ts, x.a = 4) : stateA ts = 2 := by
  unfold stateA
  rw [if_pos (cntS_all.2 h4)]
theorem state_one {ts : List QuadL} (h : stateA ts = 1) : (∀ x ∈ ts, x.a ≠ 5) ∧ (∀ x ∈ ts, x.a ≠ 6) ∧ ∃ x ∈ ts, x.a ≠ 4 := by
  unfold stateA at h
  split at h
  · omega
  · rename_i n4
    split at h
    · omega
    · split at h
      · omega
      · split at h
        · rename_i e
          refine ⟨cntS_zero.1 e.1, cntS_zero.1 e.2, Classical.byContradiction (fun hn => n4 (cntS_all.2 (fun x hx => Classical.byContradiction (fun hx4 => hn ⟨x, hx, hx4⟩))))⟩
        · omega
theorem state_runs {ts : List QuadL} (hs : stateA ts ≠ 0) (h3 : ∃ x ∈ ts, x.a = 1 ∨ x.a = 2 ∨ x.a = 3) : stateA ts = 1 := by
  obtain ⟨x, hx, h⟩ := h3
  have hr : ¬ cntS ts 1 + cntS ts 2 + cntS ts 3 = 0 := fun e => by
    have e1 : cntS ts 1 = 0 := by omega
    have e2 : cntS ts 2 = 0 := by omega
    have e3 : cntS ts 3 = 0 := by omega
    rcases h with h | h | h
    · exact cntS_zero.1 e1 x hx h
    · exact cntS_zero.1 e2 x hx h
    · exact cntS_zero.1 e3 x hx h
  have h4 : ¬ cntS ts 4 = ts.length := fun e => by have := cntS_all.1 e x hx; simp at this; omega
  unfold stateA at hs ⊢
  rw [if_neg h4, if_neg (fun k => hr k.2), if_neg (fun k => hr k.2.2)] at hs ⊢
  split at hs
  · rename_i e; rw [if_pos e]
  · exact absurd rfl hs
theorem state_failed {ts : List QuadL} (h : ∀ x ∈ ts, x.a = 4 ∨ x.a = 5 ∨ x.a = 6) (h5 : cntS ts 5 = 1) : stateA ts = 3 := by
  have z : ∀ s : Nat, s = 1 ∨ s = 2 ∨ s = 3 → cntS ts s = 0 := fun s hs => cntS_zero.2 (fun x hx => by have := h x hx; omega)
  have z1 := z 1 (by omega)
  have z2 := z 2 (by omega)
  have z3 := z 3 (by omega)
  have h4 : ¬ cntS ts 4 = ts.length := fun e => by
    have := cntS_all.1 e
    have e5 : cntS ts 5 = 0 := cntS_zero.2 (fun x hx => by rw [this x hx]; decide)
    omega
  unfold stateA
  rw [if_neg h4, if_pos ⟨h5, by omega⟩]
theorem state_left {ts : List QuadL} (h : ∀ x ∈ ts, x.a = 4 ∨ x.a = 6) (h6 : ∃ x ∈ ts, x.a = 6) : stateA ts = 4 := by
  have z : ∀ s : Nat, s = 1 ∨ s = 2 ∨ s = 3 ∨ s = 5 → cntS ts s = 0 := fun s hs => cntS_zero.2 (fun x hx => by have := h x hx; omega)
  have z1 := z 1 (by omega)
  have z2 := z 2 (by omega)
  have z3 := z 3 (by omega)
  have z5 := z 5 (by omega)
  obtain ⟨x, hx, hx6⟩ := h6
  have h4 : ¬ cntS ts 4 = ts.length := fun e => by have := cntS_all.1 e x hx; rw [hx6] at this; simp at this
  have p6 : 0 < cntS ts 6 := by
    rcases Nat.eq_zero_or_pos (cntS ts 6) with e | e
    · exact absurd hx6 (cntS_zero.1 e x hx)
    · exact e
  unfold stateA
  rw [if_neg h4, if_neg (by omega), if_pos ⟨z5, p6, by omega⟩]
/-- Who waits for how many. -/
theorem needL_map {ts : List QuadL} {f : Nat → QuadL → QuadL} {l : List Int} (hl : ∀ u ∈ l, 0 ≤ u ∧ u < (ts.length : Int)) (h : ∀ k, k < ts.length → ((f k (ts.getD k quad0)).a = 4 ↔ (ts.getD k quad0).a = 4)) : needL (mapT ts f) l = needL ts l := by
  unfold needL
  refine List.countP_congr (fun u hu => ?_)
  have hu2 := hl u hu
  rw [mapT_getD ts f u.toNat (by omega)]
  have := h u.toNat (by omega)
  simp only [bne_iff_ne, ne_eq]
  rw [this]
theorem countP_one {l : List Int} {p q : Int → Bool} {t : Int} (hn : l.Nodup) (ht : t ∈ l) (hp : p t = true) (hq : q t = false) (h : ∀ u ∈ l, u ≠ t → p u = q u) : l.countP p = l.countP q + 1 := by
  induction l with
  | nil => simp at ht
  | cons a l ih =>
    rw [List.nodup_cons] at hn
    rw [List.countP_cons, List.countP_cons]
    rcases List.mem_cons.1 ht with e | ht
    · subst e
      rw [hp, hq]
      have : l.countP p = l.countP q := List.countP_congr (fun u hu => by rw [h u (List.mem_cons_of_mem _ hu) (fun e => hn.1 (e ▸ hu))])
      simp [this]
    · have hne : a ≠ t := fun e => hn.1 (e ▸ ht)
      rw [ih hn.2 ht (fun u hu hut => h u (List.mem_cons_of_mem _ hu) hut), h a (List.mem_cons_self ..) hne]
      omega
theorem befL_in {p : PlanL} {n : Nat} (hn : p.tasks = (n : Int)) (t : Int) : ∀ u ∈ befL p t, 0 ≤ u ∧ u < (n : Int) := fun u hu => by
  have := risen_in (fun u => hasE p.edges u t) p.tasks.toNat u hu
  omega
theorem befL_mem {p : PlanL} {n : Nat} (hn : p.tasks = (n : Int)) (hG : GoodP p.edges n) (u t : Int) : u ∈ befL p t ↔ (⟨u, t⟩ : EdgeL) ∈ p.edges := by
  have e : befL p t = bef p.edges n t := by unfold befL bef; rw [hn]; rfl
  rw [e]
  exact bef_mem hG u t
theorem risen_nd (f : Int → Bool) (n : Nat) : (risen f n).Nodup := by
  induction n with
  | zero => simp [risen_zero]
  | succ n ih =>
    rw [risen_succ]
    split
    · rw [List.nodup_append]
      refine ⟨ih, by simp, fun a ha b hb => ?_⟩
      rw [List.mem_singleton] at hb
      have := risen_in f n a ha
      omega
    · simpa using ih
/-- A run that is right, and of which what waits was not tried. -/
structure WellR (r : RunL) : Prop where
  ok : RunOkA r
  wait0 : ∀ x ∈ r.tasks, x.a = 1 → x.c = 0
/-- The facts of a right run, task by task. -/
structure Facts (r : RunL) (n : Nat) : Prop where
  hn : r.plan.tasks = (n : Int)
  hl : r.tasks.length = n
  n1 : 1 ≤ n
  n12 : n ≤ 12
  good : GoodP r.plan.edges n
  most : 1 ≤ r.plan.most ∧ r.plan.most ≤ 5
  wait : 1 ≤ r.plan.wait ∧ r.plan.wait ≤ 20
  fit : ∀ k, k < n → TaskFits r.plan.most (r.tasks.getD k quad0) (needL r.tasks (befL r.plan (k : Int)))
  rng : ∀ k, k < n → 1 ≤ (r.tasks.getD k quad0).a ∧ (r.tasks.getD k quad0).a ≤ 6
theorem facts_of {r : RunL} (h : RunOkA r) : ∃ n, Facts r n := by
  obtain ⟨_, hf, hl, hr, ht, _⟩ := h
  have hm := (fault_none hf).1
  refine ⟨r.plan.tasks.toNat, ⟨by have := hm.1; omega, by omega, by have := hm.1; omega, by have := hm.2.1; omega, goodP_of hf (by have := hm.1; omega), ⟨hm.2.2.2.2.2.1, hm.2.2.2.2.2.2.1⟩, ⟨hm.2.2.2.2.2.2.2.1, hm.2.2.2.2.2.2.2.2⟩, fun k hk => ?_, fun k hk => ?_⟩⟩
  · have hk2 : k < r.tasks.length := by omega
    rw [getD_at hk2]; exact ht k hk2
  · have hk2 : k < r.tasks.length := by omega
    rw [getD_at hk2]; exact hr _ (List.getElem_mem hk2)
/-- A run whose tasks are turned is right, if each of them fits. -/
theorem ok_map {r : RunL} {n : Nat} {f : Nat → QuadL → QuadL} {st : Int} (h : RunOkA r) (F : Facts r n) (hr : ∀ k, k < n → 1 ≤ (f k (r.tasks.getD k quad0)).a ∧ (f k (r.tasks.getD k quad0)).a ≤ 6) (ht : ∀ k, k < n → TaskFits r.plan.most (f k (r.tasks.getD k quad0)) (needL (mapT r.tasks f) (befL r.plan (k : Int)))) (hs : st = stateA (mapT r.tasks f)) (hs0 : st ≠ 0) : RunOkA ⟨r.id, r.plan, st, mapT r.tasks f⟩ := by
  obtain ⟨h1, h2, h3, h4, h5, h6⟩ := h
  refine ⟨h1, h2, by dsimp only; rw [mapT_len]; exact h3, fun x hx => ?_, fun k hk => ?_, hs, hs0⟩
  · obtain ⟨k, hk, rfl⟩ := mapT_mem hx
    exact hr k (by rw [← F.hl]; exact hk)
  · dsimp only at hk ⊢
    rw [mapT_get]
    exact ht k (by rw [mapT_len, F.hl] at hk; exact hk)
theorem runs_live {r : RunL} {n t : Nat} (h : RunOkA r) (F : Facts r n) (ht : t < n) (ha : (r.tasks.getD t quad0).a = 1 ∨ (r.tasks.getD t quad0).a = 2 ∨ (r.tasks.getD t quad0).a = 3) : r.state = 1 ∧ stateA r.tasks = 1 := by
  have hs : stateA r.tasks ≠ 0 := by rw [← h.2.2.2.2.2.1]; exact h.2.2.2.2.2.2
  have := state_runs hs ⟨r.tasks.getD t quad0, by rw [getD_at (by rw [F.hl]; exact ht)]; exact List.getElem_mem _, ha⟩
  exact ⟨by rw [h.2.2.2.2.2.1, this], this⟩
theorem live_states {r : RunL} {n : Nat} (F : Facts r n) (h : stateA r.tasks = 1) : ∀ k, k < n → 1 ≤ (r.tasks.getD k quad0).a ∧ (r.tasks.getD k quad0).a ≤ 4 := fun k hk => by
  have hk2 : k < r.tasks.length := by rw [F.hl]; exact hk
  obtain ⟨h5, h6, _⟩ := state_one h
  have r1 := F.rng k hk
  rw [getD_at hk2] at r1 ⊢
  have a5 := h5 _ (List.getElem_mem hk2)
  have a6 := h6 _ (List.getElem_mem hk2)
  omega
/-- A task that has somebody ahead of it who is not done waits, or is left. -/
theorem need_pos {r : RunL} {n t k : Nat} (F : Facts r n) (ht : t < n) (hk : k < n) (he : (⟨(t : Int), (k : Int)⟩ : EdgeL) ∈ r.plan.edges) (ha : (r.tasks.getD t quad0).a ≠ 4) : 0 < needL r.tasks (befL r.plan (k : Int)) := by
  unfold needL
  rw [List.countP_pos_iff]
  exact ⟨(t : Int), (befL_mem F.hn F.good _ _).2 he, by simpa using ha⟩
/-- One less to wait for. -/
def lessQ (x : QuadL) : QuadL := ⟨if x.b - 1 = 0 then 2 else x.a, x.b - 1, x.c, x.d⟩
def doneF (p : PlanL) (t : Nat) : Nat → QuadL → QuadL := fun k x => if k = t then ⟨4, x.b, x.c, 0⟩ else if hasE p.edges (t : Int) (k : Int) then lessQ x else x
/-- The run behind a task that is done. -/
def doneR (r : RunL) (t : Nat) : RunL := ⟨r.id, r.plan, stateA (mapT r.tasks (doneF r.plan t)), mapT r.tasks (doneF r.plan t)⟩
theorem done_well {r : RunL} {n t : Nat} (h : WellR r) (F : Facts r n) (ht : t < n) (ha : (r.tasks.getD t quad0).a = 3) : WellR (doneR r t) := by
  have hlive := (runs_live h.ok F ht (.inr (.inr ha))).2
  have hst := live_states F hlive
  have hE : ∀ x y : Int, hasE r.plan.edges x y = true ↔ (⟨x, y⟩ : EdgeL) ∈ r.plan.edges := hasE_iff r.plan.edges
  have hloop : ∀ x : Nat, x < n → ¬ (⟨(x : Int), (x : Int)⟩ : EdgeL) ∈ r.plan.edges := fun x hx he => F.good.nocyc (x : Int) (by omega) (by omega) (reach_one he)
  have hbeh : ∀ k, k < n → hasE r.plan.edges (t : Int) (k : Int) = true → k ≠ t ∧ (r.tasks.getD k quad0).a = 1 ∧ 0 < needL r.tasks (befL r.plan (k : Int)) := fun k hk he => by
    have he2 := (hE _ _).1 he
    have hp := need_pos F ht hk he2 (by omega)
    have hf := (F.fit k hk).2.2.2.2
    have hs := hst k hk
    refine ⟨fun e => ?_, ?_, hp⟩
    · subst e; exact hloop k hk he2
    · rcases hf with hf | hf | hf | hf
      · exact hf.1
      · omega
      · omega
      · omega
  have hdone : ∀ k, k < n → k ≠ t → ((doneF r.plan t k (r.tasks.getD k quad0)).a = 4 ↔ (r.tasks.getD k quad0).a = 4) := fun k hk hkt => by
    unfold doneF
    rw [if_neg hkt]
    by_cases he : hasE r.plan.edges (t : Int) (k : Int) = true
    · rw [if_pos he]
      have := (hbeh k hk he).2.1
      unfold lessQ
      dsimp only
      split <;> omega
    · rw [if_neg he]
  have hdt : (doneF r.plan t t (r.tasks.getD t quad0)).a = 4 := by unfold doneF; rw [if_pos rfl]
  have hneed : ∀ k, k < n → needL r.tasks (befL r.plan (k : Int)) = needL (mapT r.tasks (doneF r.plan t)) (befL r.plan (k : Int)) + (if hasE r.plan.edges (t : Int) (k : Int) then 1 else 0) := fun k hk => by
    have hlen : ∀ u ∈ befL r.plan (k : Int), 0 ≤ u ∧ u < (r.tasks.length : Int) := fun u hu => by have := befL_in F.hn (k : Int) u hu; rw [F.hl]; exact this
    have hoth : ∀ u ∈ befL r.plan (k : Int), u ≠ (t : Int) → ((r.tasks.getD u.toNat quad0).a != 4) = (((mapT r.tasks (doneF r.plan t)).getD u.toNat quad0).a != 4) := fun u hu hut => by
      have hu2 := hlen u hu
      rw [mapT_getD _ _ _ (by omega)]
      have := hdone u.toNat (by rw [← F.hl]; omega) (by omega)
      rw [Bool.eq_iff_iff]
      simp only [bne_iff_ne, ne_eq]
      rw [this]
    by_cases he : hasE r.plan.edges (t : Int) (k : Int) = true
    · rw [if_pos he]
      unfold needL
      refine countP_one (t := (t : Int)) (risen_nd _ _) ((befL_mem F.hn F.good _ _).2 ((hE _ _).1 he)) ?_ ?_ hoth
      · simp only [Int.toNat_natCast, bne_iff_ne, ne_eq]; omega
      · rw [Int.toNat_natCast, mapT_getD _ _ _ (by rw [F.hl]; exact ht), hdt]; rfl
    · rw [if_neg he, Nat.add_zero]
      unfold needL
      refine List.countP_congr (fun u hu => ?_)
      have hne : u ≠ (t : Int) := fun e => he ((hE _ _).2 ((befL_mem F.hn F.good _ _).1 (e ▸ hu)))
      rw [hoth u hu hne]
  have hfit : ∀ k, k < n → TaskFits r.plan.most (doneF r.plan t k (r.tasks.getD k quad0)) (needL (mapT r.tasks (doneF r.plan t)) (befL r.plan (k : Int))) := fun k hk => by
    have hf := F.fit k hk
    have hnk := hneed k hk
    generalize needL (mapT r.tasks (doneF r.plan t)) (befL r.plan (k : Int)) = N at hnk ⊢
    generalize needL r.tasks (befL r.plan (k : Int)) = M at hnk hf
    by_cases hkt : k = t
    · subst hkt
      have hno : ¬ hasE r.plan.edges (k : Int) (k : Int) = true := fun e => hloop k hk ((hE _ _).1 e)
      rw [if_neg hno, Nat.add_zero] at hnk
      unfold doneF
      rw [if_pos rfl]
      rw [← hnk]
      unfold TaskFits at hf ⊢
      dsimp only
      omega
    · unfold doneF
      rw [if_neg hkt]
      by_cases he : hasE r.plan.edges (t : Int) (k : Int) = true
      · rw [if_pos he] at hnk ⊢
        have hw := (hbeh k hk he).2.1
        have hc : (r.tasks.getD k quad0).c = 0 := h.wait0 _ (by rw [getD_at (by rw [F.hl]; exact hk)]; exact List.getElem_mem _) hw
        have hm := F.most
        unfold TaskFits at hf ⊢
        unfold lessQ
        dsimp only
        by_cases hz : (r.tasks.getD k quad0).b - 1 = 0
        · rw [if_pos hz]; omega
        · rw [if_neg hz]; omega
      · rw [if_neg he] at hnk ⊢
        rw [Nat.add_zero] at hnk
        rw [← hnk]; exact hf
  have hrng : ∀ k, k < n → 1 ≤ (doneF r.plan t k (r.tasks.getD k quad0)).a ∧ (doneF r.plan t k (r.tasks.getD k quad0)).a ≤ 4 := fun k hk => by
    have := hst k hk
    unfold doneF
    split
    · dsimp only; omega
    · split
      · unfold lessQ; dsimp only; split <;> omega
      · exact this
  have hs0 : stateA (mapT r.tasks (doneF r.plan t)) ≠ 0 := by
    by_cases hall : ∀ x ∈ mapT r.tasks (doneF r.plan t), x.a = 4
    · rw [state_done hall]; decide
    · have hl1 : stateA (mapT r.tasks (doneF r.plan t)) = 1 := state_live (fun x hx => by
        obtain ⟨k, hk, rfl⟩ := mapT_mem hx
        have := hrng k (by rw [← F.hl]; exact hk)
        omega) (fun x hx => by
        obtain ⟨k, hk, rfl⟩ := mapT_mem hx
        have := hrng k (by rw [← F.hl]; exact hk)
        omega) (Classical.byContradiction (fun hn => hall (fun x hx => Classical.byContradiction (fun hx4 => hn ⟨x, hx, hx4⟩))))
      rw [hl1]; decide
  refine ⟨ok_map h.ok F (fun k hk => by have := hrng k hk; omega) hfit rfl hs0, fun x hx hx1 => ?_⟩
  obtain ⟨k, hk, rfl⟩ := mapT_mem hx
  have hk2 : k < n := by rw [← F.hl]; exact hk
  have hmem : r.tasks.getD k quad0 ∈ r.tasks := by rw [getD_at hk]; exact List.getElem_mem _
  revert hx1
  unfold doneF
  split
  · intro hx1; dsimp only at hx1; omega
  · split
    · rename_i he
      intro _
      have hc := h.wait0 _ hmem (hbeh k hk2 he).2.1
      exact hc
    · intro hx1; exact h.wait0 _ hmem hx1
end Go.Proofs.Ytodlnhmlhpadbaa
