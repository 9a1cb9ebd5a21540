/- Depths of a plan's tasks in plain words. Nothing here speaks of the program. -/
import Derived.Test.YtohibgdgncbcoaaOrdBase
namespace Go.Proofs.Ytohibgdgncbcoaa
open Go.RowKit
open scoped Classical
set_option linter.unusedVariables false

/-- The greater of m and one more than the depth of b. -/
def upD (ds : List Int) (m b : Int) : Int := if m < ds.getD b.toNat 0 + 1 then ds.getD b.toNat 0 + 1 else m
/-- The greatest of one more than the depths of some, 0 where there are none. -/
def topD (ds : List Int) (bs : List Int) : Int := bs.foldl (upD ds) 0
theorem topD_take (ds bs : List Int) (k : Nat) (h : k < bs.length) : topD ds (bs.take (k + 1)) = upD ds (topD ds (bs.take k)) bs[k] := by
  unfold topD
  rw [List.take_succ_eq_append_getElem h, List.foldl_append]; rfl
theorem foldl_same {α β : Type} {f g : β → α → β} : ∀ (l : List α) (b : β), (∀ (x : β) (a : α), a ∈ l → f x a = g x a) → l.foldl f b = l.foldl g b
  | [], _, _ => rfl
  | a :: l, b, h => by
    simp only [List.foldl_cons]
    rw [h b a (List.mem_cons_self ..)]
    exact foldl_same l _ (fun x y hy => h x y (List.mem_cons_of_mem a hy))
theorem topD_same {ds ds' bs : List Int} (h : ∀ b ∈ bs, ds.getD b.toNat 0 = ds'.getD b.toNat 0) : topD ds bs = topD ds' bs :=
  foldl_same bs 0 (fun x a ha => by unfold upD; rw [h a ha])
theorem topD_le {ds : List Int} {m : Int} (hm : 0 ≤ m) : ∀ {bs : List Int}, (∀ b ∈ bs, ds.getD b.toNat 0 + 1 ≤ m) → 0 ≤ topD ds bs ∧ topD ds bs ≤ m := by
  have key : ∀ (bs : List Int) (x : Int), 0 ≤ x → x ≤ m → (∀ b ∈ bs, ds.getD b.toNat 0 + 1 ≤ m) → 0 ≤ bs.foldl (upD ds) x ∧ bs.foldl (upD ds) x ≤ m := by
    intro bs
    induction bs with
    | nil => intro x h0 h1 _; exact ⟨h0, h1⟩
    | cons a l ih =>
      intro x h0 h1 h
      simp only [List.foldl_cons]
      have ha := h a (List.mem_cons_self ..)
      refine ih _ ?_ ?_ (fun b hb => h b (List.mem_cons_of_mem a hb))
      · unfold upD; split <;> omega
      · unfold upD; split <;> omega
  intro bs h
  exact key bs 0 (by omega) hm h
theorem topD_ge {ds bs : List Int} {b : Int} (h : b ∈ bs) : ds.getD b.toNat 0 + 1 ≤ topD ds bs := by
  have mono : ∀ (l : List Int) (x : Int), x ≤ l.foldl (upD ds) x := by
    intro l
    induction l with
    | nil => intro x; exact Int.le_refl _
    | cons a l ih =>
      intro x
      simp only [List.foldl_cons]
      have := ih (upD ds x a)
      have h2 : x ≤ upD ds x a := by unfold upD; split <;> omega
      omega
  have key : ∀ (l : List Int) (x : Int), b ∈ l → ds.getD b.toNat 0 + 1 ≤ l.foldl (upD ds) x := by
    intro l
    induction l with
    | nil => intro x h; simp at h
    | cons a l ih =>
      intro x h
      simp only [List.foldl_cons]
      rcases List.mem_cons.1 h with rfl | h
      · have := mono l (upD ds x b)
        have h2 : ds.getD b.toNat 0 + 1 ≤ upD ds x b := by unfold upD; split <;> omega
        omega
      · exact ih _ h
  exact key bs 0 h
/-- Where the top is above 0, it is one more than some depth. -/
theorem topD_some {ds bs : List Int} (h : 0 < topD ds bs) : ∃ b ∈ bs, topD ds bs = ds.getD b.toNat 0 + 1 := by
  have key : ∀ (l : List Int) (x : Int), l.foldl (upD ds) x = x ∨ ∃ b ∈ l, l.foldl (upD ds) x = ds.getD b.toNat 0 + 1 := by
    intro l
    induction l with
    | nil => intro x; exact .inl rfl
    | cons a l ih =>
      intro x
      simp only [List.foldl_cons]
      rcases ih (upD ds x a) with h | ⟨b, hb, h⟩
      · rw [h]
        unfold upD
        split
        · exact .inr ⟨a, List.mem_cons_self .., rfl⟩
        · exact .inl rfl
      · exact .inr ⟨b, List.mem_cons_of_mem a hb, h⟩
  rcases key bs 0 with h1 | h1
  · unfold topD at h; omega
  · exact h1
/-- The depths: of each task the greatest of one more than the depths of those for which it waits. -/
def DepIs (es : List EdgeL) (n : Nat) (ds : List Int) : Prop := ds.length = n ∧ ∀ t : Nat, t < n → ds.getD t 0 = topD ds (bef es n (t : Int))
theorem dep_one {es : List EdgeL} {n : Nat} {a b : List Int} (hg : GoodP es n) (ha : DepIs es n a) (hb : DepIs es n b) : a = b := by
  obtain ⟨anc, less, -⟩ := anc_ex hg
  have key : ∀ (k : Nat) (t : Nat), anc (t : Int) ≤ k → t < n → a.getD t 0 = b.getD t 0 := by
    intro k
    induction k with
    | zero =>
      intro t hk ht
      rw [ha.2 t ht, hb.2 t ht]
      refine (topD_same fun x hx => ?_)
      have he := (bef_mem hg x (t : Int)).1 hx
      have hi := hg.ins _ he
      have := less _ _ (reach_one he) hi.1 hi.2.1
      dsimp only at this; omega
    | succ k ih =>
      intro t hk ht
      rw [ha.2 t ht, hb.2 t ht]
      refine (topD_same fun x hx => ?_)
      have he := (bef_mem hg x (t : Int)).1 hx
      have hi := hg.ins _ he
      have hl := less _ _ (reach_one he) hi.1 hi.2.1
      dsimp only at hi hl
      exact ih x.toNat (by rw [Int.toNat_of_nonneg hi.1]; omega) (by omega)
  refine List.ext_getElem (by rw [ha.1, hb.1]) (fun i h1 h2 => ?_)
  have := key _ i (Nat.le_refl _) (by rw [← ha.1]; exact h1)
  rw [List.getD_eq_getElem?_getD, List.getD_eq_getElem?_getD, List.getElem?_eq_getElem h1, List.getElem?_eq_getElem h2] at this
  simpa using this
/-- The depths of the tasks that are told, the others 0. -/
def depGo (es : List EdgeL) (n : Nat) (ord : List Int) : List Int := ord.foldl (fun ds t => ds.set t.toNat (topD ds (bef es n t))) (List.replicate n 0)
theorem depGo_take (es : List EdgeL) (n : Nat) (ord : List Int) (i : Nat) (h : i < ord.length) : depGo es n (ord.take (i + 1)) = (depGo es n (ord.take i)).set (ord[i]).toNat (topD (depGo es n (ord.take i)) (bef es n ord[i])) := by
  unfold depGo
  rw [List.take_succ_eq_append_getElem h, List.foldl_append]; rfl
theorem getD_set (l : List Int) (i j : Nat) (x : Int) (hi : i < l.length) : (l.set i x).getD j 0 = if i = j then x else l.getD j 0 := by
  simp only [List.getD_eq_getElem?_getD, List.getElem?_set]
  split
  · rename_i h; subst h; simp
  · rfl
theorem depGo_inv {es : List EdgeL} {n : Nat} {ord : List Int} (hg : GoodP es n) (ho : OrdTo es n ord) : ∀ i, i ≤ ord.length → (depGo es n (ord.take i)).length = n ∧ (∀ t ∈ ord.take i, (depGo es n (ord.take i)).getD t.toNat 0 = topD (depGo es n (ord.take i)) (bef es n t)) ∧ (∀ t : Nat, (t : Int) ∉ ord.take i → (depGo es n (ord.take i)).getD t 0 = 0) ∧ ∀ t : Nat, 0 ≤ (depGo es n (ord.take i)).getD t 0 ∧ (depGo es n (ord.take i)).getD t 0 ≤ (i : Int) := by
  intro i
  induction i with
  | zero =>
    intro _
    have hz : ∀ t : Nat, (List.replicate n (0 : Int)).getD t 0 = 0 := fun t => by
      rw [List.getD_eq_getElem?_getD, List.getElem?_replicate]; split <;> rfl
    refine ⟨by simp [depGo], fun t ht => by simp at ht, fun t _ => ?_, fun t => ?_⟩
    · simp only [List.take_zero, depGo, List.foldl_nil]; exact hz t
    · simp only [List.take_zero, depGo, List.foldl_nil]; rw [hz t]; simp
  | succ i ih =>
    intro hi
    obtain ⟨h1, h2, h3, h4⟩ := ih (by omega)
    rw [depGo_take es n ord i (by omega)]
    obtain ⟨⟨t0, t1⟩, t2, -⟩ := ho i (by omega)
    obtain ⟨r1, r2⟩ := (ready_iff es n _ _).1 t2
    have hnext : ord.take (i + 1) = ord.take i ++ [ord[i]] := List.take_succ_eq_append_getElem (by omega)
    have bsub : ∀ t ∈ ord.take i, ∀ b ∈ bef es n t, b ∈ ord.take i := fun t ht b hb => by
      obtain ⟨j, hj, rfl⟩ := List.mem_take_iff_getElem.1 ht
      have hjl : j < ord.length := by omega
      have := ((ready_iff es n _ _).1 (ho j hjl).2.1).2 b hb
      obtain ⟨k, hk, rfl⟩ := List.mem_take_iff_getElem.1 this
      exact List.mem_take_iff_getElem.2 ⟨k, by omega, rfl⟩
    have oin := ordTo_in ho
    rw [hnext]
    generalize ord[i] = x at t0 t1 r1 r2
    generalize hds : depGo es n (ord.take i) = ds at h1 h2 h3 h4
    have hxl : x.toNat < ds.length := by rw [h1]; omega
    have hkeep : ∀ bs : List Int, (∀ b ∈ bs, b ∈ ord.take i) → topD (ds.set x.toNat (topD ds (bef es n x))) bs = topD ds bs := fun bs hb => topD_same (fun b hbb => by
      rw [getD_set _ _ _ _ hxl, if_neg]
      intro e
      have hbo := hb b hbb
      have := oin b (List.mem_of_mem_take hbo)
      have : b = x := by omega
      exact r1 (this ▸ hbo))
    have htop := topD_le (ds := ds) (m := (i : Int) + 1) (by omega) (bs := bef es n x) (fun b hb => by have := (h4 b.toNat).2; omega)
    refine ⟨by rw [List.length_set]; exact h1, fun t ht => ?_, fun t ht => ?_, fun t => ?_⟩
    · rcases List.mem_append.1 ht with ht | ht
      · rw [hkeep _ (bsub t ht), getD_set _ _ _ _ hxl, if_neg]
        · exact h2 t ht
        · intro e
          have := oin t (List.mem_of_mem_take ht)
          have : t = x := by omega
          exact r1 (this ▸ ht)
      · simp only [List.mem_singleton] at ht
        subst ht
        rw [hkeep _ r2, getD_set _ _ _ _ hxl, if_pos rfl]
    · rw [getD_set _ _ _ _ hxl, if_neg]
      · exact h3 t (fun h => ht (List.mem_append.2 (.inl h)))
      · intro e; exact ht (List.mem_append.2 (.inr (by simp; omega)))
    · rw [getD_set _ _ _ _ hxl]
      have := h4 t
      split
      · exact ⟨htop.1, by have := htop.2; omega⟩
      · exact ⟨this.1, by have := this.2; omega⟩
theorem depGo_is {es : List EdgeL} {n : Nat} {ord : List Int} (hg : GoodP es n) (ho : OrdIs es n ord) : DepIs es n (depGo es n ord) := by
  have h := depGo_inv hg ho.2 ord.length (Nat.le_refl _)
  rw [List.take_length] at h
  refine ⟨h.1, fun t ht => ?_⟩
  have := h.2.1 (t : Int) (all_there (ordTo_nodup ho.2) (ordTo_in ho.2) (by rw [ho.1]; exact Nat.le_refl _) (t : Int) (by omega) (by omega))
  simpa using this
/-- Who is reached has a greater depth. -/
theorem dep_up {es : List EdgeL} {n : Nat} {ds : List Int} (hg : GoodP es n) (h : DepIs es n ds) {a b : Int} (hr : Reach es a b) : ds.getD a.toNat 0 < ds.getD b.toNat 0 := by
  have step : ∀ e ∈ es, ds.getD e.fr.toNat 0 < ds.getD e.dst.toNat 0 := fun e he => by
    have hi := hg.ins e he
    have h2 := h.2 e.dst.toNat (by omega)
    rw [Int.toNat_of_nonneg hi.2.2.1] at h2
    have := topD_ge (ds := ds) ((bef_mem hg e.fr e.dst).2 (by cases e; exact he))
    omega
  exact reach_closed (P := fun x => ds.getD a.toNat 0 < ds.getD x.toNat 0) (fun e he ha => by have := step e he; rw [ha] at this; exact this) (fun e he ha => by have := step e he; omega) hr
theorem dep_in {es : List EdgeL} {n : Nat} {ds : List Int} (hg : GoodP es n) (h : DepIs es n ds) (t : Nat) (ht : t < n) : 0 ≤ ds.getD t 0 ∧ ds.getD t 0 < (n : Int) := by
  obtain ⟨anc, less, lt⟩ := anc_ex hg
  have key : ∀ (k : Nat) (t : Nat), anc (t : Int) ≤ k → t < n → 0 ≤ ds.getD t 0 ∧ ds.getD t 0 ≤ (anc (t : Int) : Int) := by
    intro k
    induction k with
    | zero =>
      intro t hk ht
      rw [h.2 t ht]
      refine topD_le (by omega) (fun x hx => ?_)
      have he := (bef_mem hg x (t : Int)).1 hx
      have hi := hg.ins _ he
      have := less _ _ (reach_one he) hi.1 hi.2.1
      dsimp only at this; omega
    | succ k ih =>
      intro t hk ht
      rw [h.2 t ht]
      refine topD_le (by omega) (fun x hx => ?_)
      have he := (bef_mem hg x (t : Int)).1 hx
      have hi := hg.ins _ he
      have hl := less _ _ (reach_one he) hi.1 hi.2.1
      dsimp only at hi hl
      have := ih x.toNat (by rw [Int.toNat_of_nonneg hi.1]; omega) (by omega)
      rw [Int.toNat_of_nonneg hi.1] at this
      omega
  have h1 := key _ t (Nat.le_refl _) ht
  have h2 := lt (t : Int) (by omega) (by omega)
  omega
end Go.Proofs.Ytohibgdgncbcoaa
