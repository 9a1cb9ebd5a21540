/- Orders and depths of a plan in plain words. Nothing here speaks of the program. -/
import Derived.Test.YtnpfboligmnhpaaPlansBase
import Derived.Test.YtnpfboligmnhpaaPlanDrawn
namespace Go.Proofs.Ytnpfboligmnhpaa
open Go.RowKit
open scoped Classical
set_option linter.unusedVariables false

/-- The numbers 0 .. n - 1. -/
def upTo (n : Nat) : List Int := (List.range n).map (fun k : Nat => (k : Int))
theorem upTo_len (n : Nat) : (upTo n).length = n := by simp [upTo]
theorem upTo_mem (n : Nat) (x : Int) : x ∈ upTo n ↔ 0 ≤ x ∧ x < (n : Int) := by
  unfold upTo
  rw [List.mem_map]
  constructor
  · rintro ⟨k, hk, rfl⟩; rw [List.mem_range] at hk; omega
  · rintro ⟨h1, h2⟩; exact ⟨x.toNat, by rw [List.mem_range]; omega, by omega⟩
/-- So many numbers below n, none twice, are all of them. -/
theorem all_there {n : Nat} {l : List Int} (hn : l.Nodup) (hin : ∀ x ∈ l, 0 ≤ x ∧ x < (n : Int)) (hl : n ≤ l.length) (x : Int) (h0 : 0 ≤ x) (h1 : x < (n : Int)) : x ∈ l := by
  by_cases hx : x ∈ l
  · exact hx
  · exfalso
    have h2 : (x :: l).Nodup := List.nodup_cons.2 ⟨hx, hn⟩
    have h3 : (x :: l) ⊆ upTo n := fun y hy => by
      rw [upTo_mem]
      rcases List.mem_cons.1 hy with rfl | hy
      · exact ⟨h0, h1⟩
      · exact hin y hy
    have := h2.length_le_of_subset h3
    rw [upTo_len, List.length_cons] at this
    omega
/-- Fewer than n numbers below n lack one. -/
theorem one_lacks {n : Nat} {l : List Int} (hl : l.length < n) : ∃ x, 0 ≤ x ∧ x < (n : Int) ∧ x ∉ l := by
  by_cases h : ∃ x, 0 ≤ x ∧ x < (n : Int) ∧ x ∉ l
  · exact h
  · exfalso
    have h3 : upTo n ⊆ l := fun y hy => by
      rw [upTo_mem] at hy
      by_cases hy2 : y ∈ l
      · exact hy2
      · exact absurd ⟨y, hy.1, hy.2, hy2⟩ h
    have hnd : (upTo n).Nodup := by
      unfold upTo
      rw [List.nodup_iff_pairwise_ne, List.pairwise_map]
      exact (List.nodup_iff_pairwise_ne.1 List.nodup_range).imp (fun h e => h (by omega))
    have := hnd.length_le_of_subset h3
    rw [upTo_len] at this
    omega
theorem countP_less {α : Type} (p q : α → Bool) : ∀ (l : List α), (∀ x ∈ l, p x = true → q x = true) → (∃ x ∈ l, q x = true ∧ p x = false) → l.countP p < l.countP q
  | [], _, h => by obtain ⟨x, hx, _⟩ := h; simp at hx
  | a :: l, h, hx => by
    have hm : l.countP p ≤ l.countP q := List.countP_mono_left (fun x hx => h x (List.mem_cons_of_mem a hx))
    obtain ⟨x, hx, h1, h2⟩ := hx
    rw [List.countP_cons, List.countP_cons]
    rcases List.mem_cons.1 hx with rfl | hx
    · rw [h1, h2]; simp; omega
    · have := countP_less p q l (fun x hx => h x (List.mem_cons_of_mem a hx)) ⟨x, hx, h1, h2⟩
      have h3 := h a (List.mem_cons_self ..)
      cases hp : p a with
      | false => simp; split <;> omega
      | true => rw [h3 hp]; simp; omega
/-- A plan that is right, in short. -/
structure GoodP (es : List EdgeL) (n : Nat) : Prop where
  ins : ∀ e ∈ es, 0 ≤ e.fr ∧ e.fr < (n : Int) ∧ 0 ≤ e.dst ∧ e.dst < (n : Int)
  nocyc : ∀ t : Int, 0 ≤ t → t < (n : Int) → ¬ Reach es t t
/-- Each task has a number (how many reach it) that is greater than that of all that reach it. -/
theorem anc_ex {es : List EdgeL} {n : Nat} (h : GoodP es n) : ∃ f : Int → Nat, (∀ b t : Int, Reach es b t → 0 ≤ b → b < (n : Int) → f b < f t) ∧ ∀ t : Int, 0 ≤ t → t < (n : Int) → f t < n := by
  refine ⟨fun t => (upTo n).countP (fun b => decide (Reach es b t)), fun b t hr h0 h1 => ?_, fun t h0 h1 => ?_⟩
  · refine countP_less _ _ _ (fun x _ hx => ?_) ⟨b, (upTo_mem n b).2 ⟨h0, h1⟩, by simpa using hr, by simpa using h.nocyc b h0 h1⟩
    simp only [decide_eq_true_eq] at hx ⊢
    exact reach_trans hx hr
  · have := countP_less (fun b => decide (Reach es b t)) (fun _ => true) (upTo n) (fun _ _ _ => rfl) ⟨t, (upTo_mem n t).2 ⟨h0, h1⟩, rfl, by simpa using h.nocyc t h0 h1⟩
    rw [List.countP_true, upTo_len] at this
    exact this
/-- For what a task waits. -/
def bef (es : List EdgeL) (n : Nat) (t : Int) : List Int := risen (fun b => hasE es b t) n
theorem bef_mem {es : List EdgeL} {n : Nat} (h : GoodP es n) (b t : Int) : b ∈ bef es n t ↔ (⟨b, t⟩ : EdgeL) ∈ es := by
  unfold bef
  rw [risen_mem]
  constructor
  · rintro ⟨_, _, h3⟩; exact hasE_mem h3
  · intro he
    have := h.ins _ he
    exact ⟨this.1, this.2.1, (hasE_iff es b t).2 he⟩
/-- Whether a task comes next may be: it is not told yet, all for which it waits are. -/
def ready (es : List EdgeL) (n : Nat) (told : List Int) (t : Int) : Bool := !told.contains t && (bef es n t).all (fun b => told.contains b)
theorem ready_iff (es : List EdgeL) (n : Nat) (told : List Int) (t : Int) : ready es n told t = true ↔ t ∉ told ∧ ∀ b ∈ bef es n t, b ∈ told := by
  unfold ready
  rw [Bool.and_eq_true, List.all_eq_true]
  simp
/-- What is told so far: each was the least that could come next. -/
def OrdTo (es : List EdgeL) (n : Nat) (out : List Int) : Prop := ∀ (i : Nat) (h : i < out.length), (0 ≤ out[i] ∧ out[i] < (n : Int)) ∧ ready es n (out.take i) out[i] = true ∧ ∀ t : Int, 0 ≤ t → t < out[i] → ready es n (out.take i) t = false
def OrdIs (es : List EdgeL) (n : Nat) (out : List Int) : Prop := out.length = n ∧ OrdTo es n out
theorem ordTo_nil (es : List EdgeL) (n : Nat) : OrdTo es n [] := fun i h => by simp at h
theorem ordTo_snoc {es : List EdgeL} {n : Nat} {out : List Int} (h : OrdTo es n out) {t : Int} (h0 : 0 ≤ t) (h1 : t < (n : Int)) (hr : ready es n out t = true) (hl : ∀ u : Int, 0 ≤ u → u < t → ready es n out u = false) : OrdTo es n (out ++ [t]) := fun i hi => by
  rw [List.length_append, List.length_singleton] at hi
  by_cases hlt : i < out.length
  · rw [List.getElem_append_left hlt, List.take_append_of_le_length (by omega)]
    exact h i hlt
  · have e : i = out.length := by omega
    subst e
    rw [List.getElem_append_right (by omega), List.take_append_of_le_length (by omega), List.take_length]
    simp only [Nat.sub_self, List.getElem_cons_zero]
    exact ⟨⟨h0, h1⟩, hr, hl⟩
theorem ordTo_in {es : List EdgeL} {n : Nat} {out : List Int} (h : OrdTo es n out) : ∀ x ∈ out, 0 ≤ x ∧ x < (n : Int) := fun x hx => by
  obtain ⟨i, hi, rfl⟩ := List.mem_iff_getElem.1 hx
  exact (h i hi).1
theorem ordTo_nodup {es : List EdgeL} {n : Nat} {out : List Int} (h : OrdTo es n out) : out.Nodup := by
  rw [List.nodup_iff_pairwise_ne, List.pairwise_iff_getElem]
  intro i j hi hj hij e
  have := ((ready_iff es n _ _).1 (h j hj).2.1).1
  exact this (by rw [← e]; exact List.mem_take_iff_getElem.2 ⟨i, by omega, rfl⟩)
/-- As long as some are not told, one of them can come next. -/
theorem ord_more {es : List EdgeL} {n : Nat} {out : List Int} (hg : GoodP es n) (hl : out.length < n) : ∃ t : Int, 0 ≤ t ∧ t < (n : Int) ∧ ready es n out t = true := by
  obtain ⟨u, hu0, hu1, hu2⟩ := one_lacks hl
  obtain ⟨anc, anc_less, -⟩ := anc_ex hg
  have key : ∀ (k : Nat) (u : Int), anc u ≤ k → 0 ≤ u → u < (n : Int) → u ∉ out → ∃ t : Int, 0 ≤ t ∧ t < (n : Int) ∧ ready es n out t = true := by
    intro k
    induction k with
    | zero =>
      intro u hk h0 h1 h2
      refine ⟨u, h0, h1, (ready_iff es n out u).2 ⟨h2, fun b hb => ?_⟩⟩
      have he := (bef_mem hg b u).1 hb
      have hi := hg.ins _ he
      have := anc_less _ _ (reach_one he) hi.1 hi.2.1
      dsimp only at this
      omega
    | succ k ih =>
      intro u hk h0 h1 h2
      by_cases hall : ∀ b ∈ bef es n u, b ∈ out
      · exact ⟨u, h0, h1, (ready_iff es n out u).2 ⟨h2, hall⟩⟩
      · have : ∃ b, b ∈ bef es n u ∧ b ∉ out := by
          by_cases hx : ∃ b, b ∈ bef es n u ∧ b ∉ out
          · exact hx
          · exact absurd (fun b hb => by
              by_cases hbo : b ∈ out
              · exact hbo
              · exact absurd ⟨b, hb, hbo⟩ hx) hall
        obtain ⟨b, hb, hbo⟩ := this
        have he := (bef_mem hg b u).1 hb
        have hi := hg.ins _ he
        have hless := anc_less _ _ (reach_one he) hi.1 hi.2.1
        dsimp only at hless hi
        exact ih b (by omega) hi.1 hi.2.1 hbo
  exact key _ u (Nat.le_refl _) hu0 hu1 hu2
/-- There is but one order. -/
theorem ord_one {es : List EdgeL} {n : Nat} {a b : List Int} (ha : OrdIs es n a) (hb : OrdIs es n b) : a = b := by
  have key : ∀ i, i ≤ n → a.take i = b.take i := by
    intro i
    induction i with
    | zero => intro _; simp
    | succ i ih =>
      intro hi
      have hia : i < a.length := by rw [ha.1]; omega
      have hib : i < b.length := by rw [hb.1]; omega
      have e := ih (by omega)
      rw [List.take_succ_eq_append_getElem hia, List.take_succ_eq_append_getElem hib, e]
      obtain ⟨⟨a0, a1⟩, a2, a3⟩ := ha.2 i hia
      obtain ⟨⟨b0, b1⟩, b2, b3⟩ := hb.2 i hib
      rw [e] at a2 a3
      have : a[i] = b[i] := by
        rcases Int.lt_trichotomy a[i] b[i] with h | h | h
        · rw [b3 _ a0 h] at a2; cases a2
        · exact h
        · rw [a3 _ b0 h] at b2; cases b2
      rw [this]
  have := key n (Nat.le_refl _)
  rw [List.take_of_length_le (by rw [ha.1]; exact Nat.le_refl _), List.take_of_length_le (by rw [hb.1]; exact Nat.le_refl _)] at this
  exact this
/-- There is an order. -/
theorem ord_ex {es : List EdgeL} {n : Nat} (hg : GoodP es n) : ∃ out, OrdIs es n out := by
  have key : ∀ k, k ≤ n → ∃ out : List Int, out.length = k ∧ OrdTo es n out := by
    intro k
    induction k with
    | zero => intro _; exact ⟨[], rfl, ordTo_nil es n⟩
    | succ k ih =>
      intro hk
      obtain ⟨out, hl, ho⟩ := ih (by omega)
      obtain ⟨t, h0, h1, h2⟩ := ord_more (out := out) hg (by omega)
      have least : ∀ (m : Nat) (t : Int), t.toNat ≤ m → 0 ≤ t → t < (n : Int) → ready es n out t = true → ∃ t : Int, 0 ≤ t ∧ t < (n : Int) ∧ ready es n out t = true ∧ ∀ u : Int, 0 ≤ u → u < t → ready es n out u = false := by
        intro m
        induction m with
        | zero => intro t hm h0 h1 h2; exact ⟨t, h0, h1, h2, fun u hu hut => by omega⟩
        | succ m ihm =>
          intro t hm h0 h1 h2
          by_cases hx : ∃ u : Int, 0 ≤ u ∧ u < t ∧ ready es n out u = true
          · obtain ⟨u, hu0, hut, hur⟩ := hx
            exact ihm u (by omega) hu0 (by omega) hur
          · exact ⟨t, h0, h1, h2, fun u hu hut => by
              cases hr : ready es n out u with
              | false => rfl
              | true => exact absurd ⟨u, hu, hut, hr⟩ hx⟩
      obtain ⟨t, h0, h1, h2, h3⟩ := least t.toNat t (Nat.le_refl _) h0 h1 h2
      exact ⟨out ++ [t], by simp [hl], ordTo_snoc ho h0 h1 h2 h3⟩
  obtain ⟨out, h1, h2⟩ := key n (Nat.le_refl _)
  exact ⟨out, h1, h2⟩
theorem goodP_of {p : PlanL} {n : Nat} (h : FaultIs p 0) (hn : p.tasks = (n : Int)) : GoodP p.edges n := by
  obtain ⟨h1, h2, h3, h4⟩ := fault_none h
  refine ⟨fun e he => ?_, fun t a b => ?_⟩
  · have := h2 e he; rw [← hn]; exact this
  · rw [← hn] at b; exact h4 t a b
end Go.Proofs.Ytnpfboligmnhpaa
