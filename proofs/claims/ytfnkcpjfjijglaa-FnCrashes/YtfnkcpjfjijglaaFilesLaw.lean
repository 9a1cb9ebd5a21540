/- Plain facts for the law of chapter 4: what is written is there, what is synced is safe, what is moved has its new name. Nothing here speaks of the program. -/
import Derived.Test.YtfnkcpjfjijglaaDiskBase
namespace Go.Proofs.Ytfnkcpjfjijglaa
open Go.RowKit
set_option linter.unusedVariables false

theorem atGo_none (nm : List UInt8) : ∀ (fs : List FileL) (k : Nat), (∀ f ∈ fs, f.name ≠ nm) → atGo nm fs k = -1
  | [], k, _ => rfl
  | f :: r, k, h => by
    rw [atGo, if_neg (h f List.mem_cons_self)]; exact atGo_none nm r (k + 1) (fun g hg => h g (List.mem_cons_of_mem _ hg))
theorem atGo_part (nm : List UInt8) : ∀ (l : List FileL) (q : FileL) (r : List FileL) (k : Nat), (∀ f ∈ l, f.name ≠ nm) → q.name = nm → atGo nm (l ++ q :: r) k = ((k + l.length : Nat) : Int)
  | [], q, r, k, _, hq => by rw [List.nil_append, atGo, if_pos hq]; rfl
  | f :: l, q, r, k, h, hq => by
    rw [List.cons_append, atGo, if_neg (h f List.mem_cons_self), atGo_part nm l q r (k + 1) (fun g hg => h g (List.mem_cons_of_mem _ hg)) hq, List.length_cons]; omega
theorem atF_none {fs : List FileL} {nm : List UInt8} (h : ∀ f ∈ fs, f.name ≠ nm) : atF fs nm = -1 := atGo_none nm fs 0 h
theorem atF_part {l r : List FileL} {q : FileL} {nm : List UInt8} (h : ∀ f ∈ l, f.name ≠ nm) (hq : q.name = nm) : atF (l ++ q :: r) nm = (l.length : Int) := by
  unfold atF; rw [atGo_part nm l q r 0 h hq, Nat.zero_add]
/-- The names of the files. -/
def namesF (fs : List FileL) : List (List UInt8) := fs.map FileL.name
theorem nodup_left {l r : List FileL} {q : FileL} (h : (namesF (l ++ q :: r)).Nodup) : ∀ f ∈ l, f.name ≠ q.name := by
  intro f hf e
  unfold namesF at h
  rw [List.map_append, List.nodup_append] at h
  exact h.2.2 f.name (List.mem_map_of_mem hf) q.name (by simp) e
theorem nodup_right {l r : List FileL} {q : FileL} (h : (namesF (l ++ q :: r)).Nodup) : ∀ f ∈ r, f.name ≠ q.name := by
  intro f hf e
  unfold namesF at h
  rw [List.map_append, List.nodup_append, List.map_cons, List.nodup_cons] at h
  exact h.2.1.1 (e ▸ List.mem_map_of_mem hf)
theorem diskOk_iff (fs : List FileL) : diskOk fs ↔ fs.length ≤ 4 ∧ (∀ f ∈ fs, fileOk f) ∧ (namesF fs).Nodup := by
  constructor
  · rintro ⟨h1, h2⟩
    refine ⟨h1, fun f hf => ?_, ?_⟩
    · obtain ⟨k, hk, rfl⟩ := List.getElem_of_mem hf; exact (h2 k hk).1
    · unfold namesF
      rw [List.nodup_iff_pairwise_ne, List.pairwise_iff_getElem]
      intro i j hi hj hij e
      rw [List.length_map] at hi hj
      rw [List.getElem_map, List.getElem_map] at e
      have a1 := (h2 i hi).2
      have a2 := (h2 j hj).2
      rw [e, a2] at a1; omega
  · rintro ⟨h1, h2, h3⟩
    refine ⟨h1, fun k hk => ⟨h2 _ (List.getElem_mem hk), ?_⟩⟩
    have e : fs = fs.take k ++ fs[k] :: fs.drop (k + 1) := by rw [List.getElem_cons_drop, List.take_append_drop]
    have L : (fs.take k).length = k := by rw [List.length_take]; omega
    rw [e] at h3
    have := atF_part (r := fs.drop (k + 1)) (nodup_left h3) rfl
    rw [← e, L] at this; exact this
theorem partN {fs : List FileL} {nm : List UInt8} : (∀ f ∈ fs, f.name ≠ nm) ∨ ∃ l q r, fs = l ++ q :: r ∧ q.name = nm := by
  by_cases h : ∃ f ∈ fs, f.name = nm
  · obtain ⟨f, hf, hn⟩ := h
    obtain ⟨l, r, e⟩ := List.append_of_mem hf
    exact .inr ⟨l, f, r, e, hn⟩
  · exact .inl fun f hf e => h ⟨f, hf, e⟩
theorem readF_none {fs : List FileL} {nm : List UInt8} (h : ∀ f ∈ fs, f.name ≠ nm) : readF fs nm = [] := by
  unfold readF; rw [atF_none h, if_neg (by omega)]
theorem getD_part (l r : List FileL) (q d : FileL) : (l ++ q :: r).getD l.length d = q := by simp [List.getD_eq_getElem?_getD]
theorem get_part (l r : List FileL) (q : FileL) (h : l.length < (l ++ q :: r).length) : (l ++ q :: r)[l.length] = q := by simp
theorem set_part (l r : List FileL) (q x : FileL) : (l ++ q :: r).set l.length x = l ++ x :: r := by simp
theorem lt_part (l r : List FileL) (q : FileL) : l.length < (l ++ q :: r).length := by simp
theorem readF_part {l r : List FileL} {q : FileL} {nm : List UInt8} (h : ∀ f ∈ l, f.name ≠ nm) (hq : q.name = nm) : readF (l ++ q :: r) nm = q.data := by
  unfold readF; rw [atF_part h hq, if_pos (by omega), Int.toNat_natCast, getD_part]
theorem readF_mem {fs : List FileL} {f : FileL} {nm : List UInt8} (h : (namesF fs).Nodup) (hf : f ∈ fs) (hn : f.name = nm) : readF fs nm = f.data := by
  obtain ⟨l, r, rfl⟩ := List.append_of_mem hf
  exact readF_part (fun g hg e => nodup_left h g hg (e.trans hn.symm)) hn
theorem mvGo_left (tn : List UInt8) : ∀ (fs : List FileL) (k i : Nat), k < i → mvGo tn k fs i = fs.filter (fun f => !decide (f.name = tn))
  | [], k, i, h => rfl
  | f :: r, k, i, h => by
    rw [mvGo, mvGo_left tn r k (i + 1) (by omega), if_neg (by omega : ¬ i = k)]
    by_cases hf : f.name = tn
    · rw [if_pos hf, List.filter_cons_of_neg (by simp [hf])]
    · rw [if_neg hf, List.filter_cons_of_pos (by simp [hf])]
theorem mvGo_part (tn : List UInt8) : ∀ (l : List FileL) (q : FileL) (r : List FileL) (i : Nat), q.name ≠ tn → mvGo tn (i + l.length) (l ++ q :: r) i = l.filter (fun f => !decide (f.name = tn)) ++ ⟨tn, q.data, q.safe⟩ :: r.filter (fun f => !decide (f.name = tn))
  | [], q, r, i, hq => by
    rw [List.nil_append, mvGo, if_neg hq, if_pos (by simp), mvGo_left tn r _ (i + 1) (by simp)]; rfl
  | f :: l, q, r, i, hq => by
    have ih := mvGo_part tn l q r (i + 1) hq
    rw [List.cons_append, mvGo, show i + (f :: l).length = i + 1 + l.length from by simp; omega, ih, if_neg (by omega : ¬ i = i + 1 + l.length)]
    by_cases hf : f.name = tn
    · rw [if_pos hf, List.filter_cons_of_neg (by simp [hf])]
    · rw [if_neg hf, List.filter_cons_of_pos (by simp [hf])]; rfl

/-- A disk stays right where one file takes the place of another of its name. -/
theorem diskOk_same {l r : List FileL} {q x : FileL} (h : diskOk (l ++ q :: r)) (hn : x.name = q.name) (hx : fileOk x) : diskOk (l ++ x :: r) := by
  rw [diskOk_iff] at h ⊢
  obtain ⟨h1, h2, h3⟩ := h
  refine ⟨by simpa using h1, fun f hf => ?_, ?_⟩
  · rw [List.mem_append, List.mem_cons] at hf
    rcases hf with hf | rfl | hf
    · exact h2 f (by simp [hf])
    · exact hx
    · exact h2 f (by simp [hf])
  · have : namesF (l ++ x :: r) = namesF (l ++ q :: r) := by simp [namesF, hn]
    rw [this]; exact h3
/-- A disk with one more file, of a new name, behind all. -/
theorem diskOk_more {fs : List FileL} {x : FileL} (h : diskOk fs) (hl : fs.length < 4) (hn : ∀ f ∈ fs, f.name ≠ x.name) (hx : fileOk x) : diskOk (fs ++ [x]) := by
  rw [diskOk_iff] at h ⊢
  obtain ⟨h1, h2, h3⟩ := h
  refine ⟨by simp; omega, fun f hf => ?_, ?_⟩
  · rw [List.mem_append, List.mem_singleton] at hf
    rcases hf with hf | rfl
    · exact h2 f hf
    · exact hx
  · unfold namesF at h3 ⊢
    rw [List.map_append, List.nodup_append]
    refine ⟨h3, by simp, fun a ha b hb e => ?_⟩
    rw [List.mem_map] at ha
    obtain ⟨f, hf, rfl⟩ := ha
    simp at hb
    exact hn f hf (e.trans hb)
/-- What is read of another name stays, where one file takes the place of another of its name. -/
theorem readF_other {l r : List FileL} {q x : FileL} {nm : List UInt8} (h : (namesF (l ++ q :: r)).Nodup) (hn : x.name = q.name) (hm : q.name ≠ nm) : readF (l ++ x :: r) nm = readF (l ++ q :: r) nm := by
  have h' : (namesF (l ++ x :: r)).Nodup := by
    have : namesF (l ++ x :: r) = namesF (l ++ q :: r) := by simp [namesF, hn]
    rw [this]; exact h
  by_cases hf : ∃ f, (f ∈ l ∨ f ∈ r) ∧ f.name = nm
  · obtain ⟨f, hf, e⟩ := hf
    have m1 : f ∈ l ++ x :: r := by rcases hf with hf | hf <;> simp [hf]
    have m2 : f ∈ l ++ q :: r := by rcases hf with hf | hf <;> simp [hf]
    rw [readF_mem h' m1 e, readF_mem h m2 e]
  · have k : ∀ y : FileL, y.name = q.name → ∀ f ∈ l ++ y :: r, f.name ≠ nm := by
      intro y hy f hm' e
      rw [List.mem_append, List.mem_cons] at hm'
      rcases hm' with h1 | rfl | h1
      · exact hf ⟨f, .inl h1, e⟩
      · exact hm (hy.symm.trans e)
      · exact hf ⟨f, .inr h1, e⟩
    rw [readF_none (k x hn), readF_none (k q rfl)]
theorem readF_more {fs : List FileL} {x : FileL} {nm : List UInt8} (h : (namesF (fs ++ [x])).Nodup) (hm : x.name ≠ nm) : readF (fs ++ [x]) nm = readF fs nm := by
  have h' : (namesF fs).Nodup := by unfold namesF at h ⊢; rw [List.map_append, List.nodup_append] at h; exact h.1
  by_cases hf : ∃ f ∈ fs, f.name = nm
  · obtain ⟨f, hf, e⟩ := hf
    rw [readF_mem h (by simp [hf]) e, readF_mem h' hf e]
  · rw [readF_none (fs := fs) (fun f h1 e => hf ⟨f, h1, e⟩), readF_none]
    intro f h1 e
    rw [List.mem_append, List.mem_singleton] at h1
    rcases h1 with h1 | rfl
    · exact hf ⟨f, h1, e⟩
    · exact hm e
/-- What WriteFile leaves: the name's file stands somewhere, with more behind what it had, and not all of it is safe. -/
theorem write_law {fs : List FileL} {nm more : List UInt8} (h : diskOk fs) (hnm : nameOk nm) (hm0 : 0 < more.length) (hm : more.length ≤ 50000) (hs : ∀ f ∈ fs, f.data.length ≤ 5000) (hl : (∀ f ∈ fs, f.name ≠ nm) → fs.length < 4) :
    ∃ l q r, writeF fs nm more = (l ++ q :: r, true) ∧ diskOk (l ++ q :: r) ∧ q.name = nm ∧ q.data = readF fs nm ++ more ∧ q.safe < (q.data.length : Int) ∧ ∀ other, nm ≠ other → readF (l ++ q :: r) other = readF fs other := by
  have hd := h
  rw [diskOk_iff] at hd
  rcases partN (fs := fs) (nm := nm) with hn | ⟨l, q, r, rfl, hq⟩
  · have ok : diskOk (fs ++ [⟨nm, more, 0⟩]) := diskOk_more h (hl hn) hn ⟨hnm, by show more.length ≤ 60000; omega, by show (0 : Int) ≤ 0; omega, by show (0 : Int) ≤ (more.length : Int); omega⟩
    have e : putF fs nm more = fs ++ [⟨nm, more, 0⟩] := putF_new _ _ _ (by rw [atF_none hn]; omega)
    refine ⟨fs, ⟨nm, more, 0⟩, [], by rw [writeF_yes fs nm more h (by omega) (by rw [e]; exact ok), e], ok, rfl, by rw [readF_none hn]; rfl, by show (0 : Int) < (more.length : Int); omega, fun o ho => ?_⟩
    exact readF_more ((diskOk_iff _).1 ok).2.2 ho
  · have fo := hd.2.1 q (by simp)
    have qs := hs q (by simp)
    have hx : fileOk ⟨q.name, q.data ++ more, q.safe⟩ := ⟨fo.1, by show (q.data ++ more).length ≤ 60000; rw [List.length_append]; omega, fo.2.2.1, by show q.safe ≤ ((q.data ++ more).length : Int); have := fo.2.2.2; rw [List.length_append]; omega⟩
    have ok := diskOk_same (x := ⟨q.name, q.data ++ more, q.safe⟩) h rfl hx
    have nl : ∀ f ∈ l, f.name ≠ nm := fun f hf e => nodup_left hd.2.2 f hf (e.trans hq.symm)
    have e : putF (l ++ q :: r) nm more = l ++ ⟨q.name, q.data ++ more, q.safe⟩ :: r := by
      rw [putF_old _ _ _ l.length (lt_part l r q) (atF_part nl hq), set_part, get_part]
    refine ⟨l, _, r, by rw [writeF_yes _ nm more h (by omega) (by rw [e]; exact ok), e], ok, hq, by rw [readF_part nl hq], ?_, fun o ho => ?_⟩
    · show q.safe < ((q.data ++ more).length : Int); have := fo.2.2.2; rw [List.length_append]; omega
    · exact readF_other hd.2.2 rfl (by rw [hq]; exact ho)
/-- What follows of a file of which not all is safe: it may not be moved; synced it may, and cut. -/
theorem rest_law {l r : List FileL} {q : FileL} {nm tn : List UInt8} (h : diskOk (l ++ q :: r)) (hq : q.name = nm) (hne : nm ≠ tn) (htn : nameOk tn) (hs : q.safe < (q.data.length : Int)) :
    (moveF (l ++ q :: r) nm tn).2 = false ∧ ∃ b c e, syncF (l ++ q :: r) nm = (b, true) ∧ moveF b nm tn = (c, true) ∧ cutF b nm 1 = (e, true) ∧ readF c tn = q.data ∧ readF c nm = [] ∧ (readF e nm).length = 1 ∧ diskOk b ∧ diskOk c ∧ diskOk e := by
  have hd := (diskOk_iff _).1 h
  have fo := hd.2.1 q (by simp)
  have nl : ∀ f ∈ l, f.name ≠ nm := fun f hf e => nodup_left hd.2.2 f hf (e.trans hq.symm)
  have nr : ∀ f ∈ r, f.name ≠ nm := fun f hf e => nodup_right hd.2.2 f hf (e.trans hq.symm)
  have at0 := atF_part (r := r) nl hq
  have hx : fileOk ⟨q.name, q.data, (q.data.length : Int)⟩ := ⟨fo.1, fo.2.1, by show (0 : Int) ≤ (q.data.length : Int); omega, by show (q.data.length : Int) ≤ _; exact Int.le_refl _⟩
  have okb := diskOk_same (x := ⟨q.name, q.data, (q.data.length : Int)⟩) h rfl hx
  have hdb := (diskOk_iff _).1 okb
  have at1 := atF_part (r := r) (q := ⟨q.name, q.data, (q.data.length : Int)⟩) nl hq
  have hlen : 1 ≤ q.data.length := by have := fo.2.2.1; omega
  refine ⟨?_, _, _, _, by rw [syncF_yes _ nm l.length (lt_part l r q) at0 h, set_part, get_part], by rw [moveF_yes _ nm tn l.length at1 ((mayMove_at _ nm tn l.length (lt_part _ _ _) at1).2 ⟨okb, hne, htn, by rw [get_part]⟩)], by rw [show (1 : Int) = ((1 : Nat) : Int) from rfl, cutF_yes _ nm 1 l.length (lt_part _ _ _) at1 okb (by rw [get_part]; exact hlen), set_part, get_part], ?_⟩
  · rw [moveF_no]
    intro hm
    have := ((mayMove_at _ nm tn l.length (lt_part l r q) at0).1 hm).2.2.2
    rw [get_part] at this; omega
  · have mv := mvGo_part tn l ⟨q.name, q.data, (q.data.length : Int)⟩ r 0 (by rw [hq]; exact hne)
    rw [Nat.zero_add] at mv
    have okc : diskOk (l.filter (fun f => !decide (f.name = tn)) ++ ⟨tn, q.data, (q.data.length : Int)⟩ :: r.filter (fun f => !decide (f.name = tn))) := by
      rw [diskOk_iff]
      refine ⟨?_, fun f hf => ?_, ?_⟩
      · have h1 := hd.1
        have a1 := List.length_filter_le (fun f : FileL => !decide (f.name = tn)) l
        have a2 := List.length_filter_le (fun f : FileL => !decide (f.name = tn)) r
        simp only [List.length_append, List.length_cons] at h1 ⊢; omega
      · rw [List.mem_append, List.mem_cons, List.mem_filter, List.mem_filter] at hf
        rcases hf with hf | rfl | hf
        · exact hd.2.1 f (by simp [hf.1])
        · exact ⟨htn, hx.2⟩
        · exact hd.2.1 f (by simp [hf.1])
      · have nd := hd.2.2
        unfold namesF at nd ⊢
        rw [List.map_append, List.map_cons, List.nodup_append, List.nodup_cons] at nd ⊢
        obtain ⟨n1, ⟨n2, n3⟩, n4⟩ := nd
        have s1 := (List.filter_sublist (l := l) (p := fun f : FileL => !decide (f.name = tn))).map FileL.name
        have s2 := (List.filter_sublist (l := r) (p := fun f : FileL => !decide (f.name = tn))).map FileL.name
        refine ⟨n1.sublist s1, ⟨?_, n3.sublist s2⟩, ?_⟩
        · intro hm; rw [List.mem_map] at hm; obtain ⟨f, hf, e⟩ := hm; rw [List.mem_filter] at hf; simp [e] at hf
        · intro x hx1 y hy e
          rw [List.mem_cons] at hy
          rcases hy with rfl | hy
          · rw [List.mem_map] at hx1; obtain ⟨f, hf, e2⟩ := hx1; rw [List.mem_filter] at hf; simp [e2.trans e] at hf
          · exact n4 x (s1.subset hx1) y (List.mem_cons_of_mem _ (s2.subset hy)) e
    rw [mv]
    refine ⟨readF_mem (f := ⟨tn, q.data, (q.data.length : Int)⟩) ((diskOk_iff _).1 okc).2.2 (by simp) rfl, readF_none ?_, ?_, okb, okc, ?_⟩
    · intro f hf e
      rw [List.mem_append, List.mem_cons, List.mem_filter, List.mem_filter] at hf
      rcases hf with hf | rfl | hf
      · exact nl f hf.1 e
      · exact hne e.symm
      · exact nr f hf.1 e
    · rw [readF_part (q := ⟨q.name, q.data.take 1, ((1 : Nat) : Int)⟩) nl hq, List.length_take]; omega
    · exact diskOk_same okb rfl ⟨fo.1, by show (q.data.take 1).length ≤ 60000; rw [List.length_take]; omega, by show (0 : Int) ≤ ((1 : Nat) : Int); omega, by show ((1 : Nat) : Int) ≤ ((q.data.take 1).length : Int); rw [List.length_take]; omega⟩
end Go.Proofs.Ytfnkcpjfjijglaa
