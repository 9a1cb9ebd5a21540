/- Shelves and runs into which one lays a new one; lists of them that came in, made anew. -/
import Derived.Test.YtodlnhmlhpadbaaS18
import Derived.Deep.RegionHeld3
namespace Go.Proofs.Ytodlnhmlhpadbaa
open Go.RowKit
set_option linter.unusedVariables false
set_option linter.unusedSimpArgs false
attribute [local go_sem ↓] Go.wp_at_zero Go.wp_at_succ

theorem set_get_ne {α : Type} {l : List α} {i j : Nat} {u : α} (h : j < (l.set i u).length) (hne : j ≠ i) : (l.set i u)[j] = l[j]'(by rw [List.length_set] at h; exact h) := List.getElem_set_ne (fun e => hne e.symm) _
/-- A new shelf is laid in the place of the i-th one. -/
theorem shelves_store {w w1 : World} {lo hi g off n cap i : Nat} {vals : List Value} {sh : List (List QuadL)} {u : Value} {r : List QuadL} (h : ShelvesX w lo hi (.slice (some ⟨g, off, none⟩) n cap) vals sh) (hb : Below w.heap.size w w1) (hi1 : i < vals.length) (hn : n = sh.length) (hu : ownsPc w1 w.heap.size 42 4 u r.length (quadsC r)) (hlo : lo ≤ w.heap.size) :
    ShelvesX (w1.setCell ⟨g, off + i, none⟩ u) lo w1.heap.size (.slice (some ⟨g, off, none⟩) n cap) (vals.set i u) (sh.set i r) ∧ w1.grownBy (w1.setCell ⟨g, off + i, none⟩ u) (some g) := by
  subst hn
  have hi2 : i < sh.length := by rw [← h.len]; exact hi1
  have O := (pcX_below h.out hb).own
  have st := O.stored i u
  have hg : g < w.heap.size := (h.out.own.lt g rfl).2
  have hsz := hb.size
  have hne : u.ownBlock = none ∨ u.ownBlock ≠ some g := by
    cases hv : u.ownBlock with
    | none => exact .inl rfl
    | some j => exact .inr (fun e => by have h1 := (hu.lt j hv).1; have := Option.some.inj e; omega)
  refine ⟨⟨by simp [h.len], ⟨by rw [List.length_set]; exact st.1, fun j hj => by cases hj; show g < _; omega⟩, fun j hj hj' => ?_, fun j l hj hl hjl => ?_⟩, st.2⟩
  · by_cases e : j = i
    · subst e
      simp only [List.getElem_set_self]
      exact ⟨(hu.base_le hlo).kept st.2 hne, fun k hk => (hu.lt k hk).2⟩
    · rw [set_get_ne hj e, set_get_ne hj' e]
      have y := h.ins j (by rw [List.length_set] at hj; exact hj) (by rw [List.length_set] at hj'; exact hj')
      have y1 := pcX_below y hb
      exact ⟨y1.own.kept st.2 (pcs_types y1.own O (by decide)), fun k hk => (y1.own.lt k hk).2⟩
  · have old : ∀ (q : Nat) (hq : q < vals.length) (k : Nat), (vals[q]).ownBlock = some k → k < w.heap.size := fun q hq k hk => ((h.ins q hq (by rw [← h.len]; exact hq)).own.lt k hk).2
    have far : ∀ (q : Nat) (hq : q < vals.length), (vals[q]).ownBlock = none ∨ (vals[q]).ownBlock ≠ u.ownBlock := fun q hq => by
      cases hv : (vals[q]).ownBlock with
      | none => exact .inl rfl
      | some k => exact .inr (fun e => by have h1 := old q hq k hv; have h2 := (hu.lt k e.symm).1; omega)
    have hj2 : j < vals.length := by rw [List.length_set] at hj; exact hj
    have hl2 : l < vals.length := by rw [List.length_set] at hl; exact hl
    by_cases ej : j = i
    · subst ej
      rw [List.getElem_set_self, set_get_ne hl (by omega)]
      exact apComm (far l hl2)
    · by_cases el : l = i
      · subst el
        rw [List.getElem_set_self, set_get_ne hj (by omega)]
        exact far j hj2
      · rw [set_get_ne hj ej, set_get_ne hl el]
        exact h.ap j l hj2 hl2 hjl
theorem pc_eight {w : World} {B g off n cap p : Nat} {T : TypeId} {A D : List Value} (c0 c1 c2 c3 c4 c5 c6 c7 a0 a1 a2 a3 a4 a5 a6 a7 : Value) (hA : A.length = p) (h : ownsPc w B T 8 (.slice (some ⟨g, off, none⟩) n cap) n (A ++ [c0, c1, c2, c3, c4, c5, c6, c7] ++ D)) :
    ownsPc ((((((((w.setCell ⟨g, off + p, none⟩ a0).setCell ⟨g, off + p + 1, none⟩ a1).setCell ⟨g, off + p + 2, none⟩ a2).setCell ⟨g, off + p + 3, none⟩ a3).setCell ⟨g, off + p + 4, none⟩ a4).setCell ⟨g, off + p + 5, none⟩ a5).setCell ⟨g, off + p + 6, none⟩ a6).setCell ⟨g, off + p + 7, none⟩ a7) B T 8 (.slice (some ⟨g, off, none⟩) n cap) n (A ++ [a0, a1, a2, a3, a4, a5, a6, a7] ++ D)
    ∧ w.grownBy ((((((((w.setCell ⟨g, off + p, none⟩ a0).setCell ⟨g, off + p + 1, none⟩ a1).setCell ⟨g, off + p + 2, none⟩ a2).setCell ⟨g, off + p + 3, none⟩ a3).setCell ⟨g, off + p + 4, none⟩ a4).setCell ⟨g, off + p + 5, none⟩ a5).setCell ⟨g, off + p + 6, none⟩ a6).setCell ⟨g, off + p + 7, none⟩ a7) (some g) := by
  have s5 := pc_five _ _ _ _ _ _ _ _ a0 a1 a2 a3 a4 hA h
  simp only [Nat.add_assoc off] at s5 ⊢
  have t5 := s5.1.stored (p + 5) a5
  rw [set8 _ _ _ _ _ _ hA (by simp)] at t5
  simp only [List.set_cons_zero, List.set_cons_succ] at t5
  have t6 := t5.1.stored (p + 6) a6
  rw [set8 _ _ _ _ _ _ hA (by simp)] at t6
  simp only [List.set_cons_zero, List.set_cons_succ] at t6
  have t7 := t6.1.stored (p + 7) a7
  rw [set8 _ _ _ _ _ _ hA (by simp)] at t7
  simp only [List.set_cons_zero, List.set_cons_succ] at t7
  exact ⟨t7.1, grown_trans (grown_trans (grown_trans s5.2 t5.2) t6.2) t7.2⟩
/-- A new run is laid in the place of the i-th one. -/
theorem runs_store {w w1 : World} {lo hi g off n cap i : Nat} {vals : List (Value × Value)} {rs : List RunL} {ue ut : Value} {r : RunL} (h : RunsX w lo hi (.slice (some ⟨g, off, none⟩) n cap) vals rs) (hb : Below w.heap.size w w1) (hi1 : i < vals.length) (hn : n = rs.length) (hu : RunOwn w1 w.heap.size ue ut r) (hlo : lo ≤ w.heap.size) :
    ∃ W, W = ((((((((w1.setCell ⟨g, off + i * 8, none⟩ (.int .i64 r.id)).setCell ⟨g, off + i * 8 + 1, none⟩ (.int .i64 r.plan.prio)).setCell ⟨g, off + i * 8 + 2, none⟩ (.int .i64 r.plan.most)).setCell ⟨g, off + i * 8 + 3, none⟩ (.int .i64 r.plan.wait)).setCell ⟨g, off + i * 8 + 4, none⟩ (.int .i64 r.plan.tasks)).setCell ⟨g, off + i * 8 + 5, none⟩ ue).setCell ⟨g, off + i * 8 + 6, none⟩ (.int .i64 r.state)).setCell ⟨g, off + i * 8 + 7, none⟩ ut) ∧
      RunsX W lo w1.heap.size (.slice (some ⟨g, off, none⟩) n cap) (vals.set i (ue, ut)) (rs.set i r) ∧ w1.grownBy W (some g) := by
  subst hn
  have hi2 : i < rs.length := by rw [← h.len]; exact hi1
  have h1 := runsX_below h hb
  have hAl : ((runsC rs vals).take (i * 8)).length = i * 8 := by rw [List.length_take, runsC_len _ _ h.len]; omega
  have O := h1.out.own
  have O2 := O
  rw [runsC_split rs vals i hi2 hi1] at O2
  have st := pc_eight _ _ _ _ _ _ _ _ (.int .i64 r.id) (.int .i64 r.plan.prio) (.int .i64 r.plan.most) (.int .i64 r.plan.wait) (.int .i64 r.plan.tasks) ue (.int .i64 r.state) ut hAl O2
  refine ⟨_, rfl, ?_, st.2⟩
  generalize ((((((((w1.setCell ⟨g, off + i * 8, none⟩ (.int .i64 r.id)).setCell ⟨g, off + i * 8 + 1, none⟩ (.int .i64 r.plan.prio)).setCell ⟨g, off + i * 8 + 2, none⟩ (.int .i64 r.plan.most)).setCell ⟨g, off + i * 8 + 3, none⟩ (.int .i64 r.plan.wait)).setCell ⟨g, off + i * 8 + 4, none⟩ (.int .i64 r.plan.tasks)).setCell ⟨g, off + i * 8 + 5, none⟩ ue).setCell ⟨g, off + i * 8 + 6, none⟩ (.int .i64 r.state)).setCell ⟨g, off + i * 8 + 7, none⟩ ut) = W at st ⊢
  have hg : g < w.heap.size := (h.out.own.lt g rfl).2
  have hsz := hb.size
  have newE : ∀ k, ue.ownBlock = some k → w.heap.size ≤ k ∧ k < w1.heap.size := fun k hk => hu.edges.lt k hk
  have newT : ∀ k, ut.ownBlock = some k → w.heap.size ≤ k ∧ k < w1.heap.size := fun k hk => hu.tasks.lt k hk
  have es : runsC (rs.set i r) (vals.set i (ue, ut)) = (runsC rs vals).take (i * 8) ++ (runC r ue ut).toList ++ (runsC rs vals).drop (i * 8 + 8) := by
    have q : ∀ (rs : List RunL) (ps : List (Value × Value)) (i : Nat) (hi : i < rs.length) (hp : i < ps.length), runsC (rs.set i r) (ps.set i (ue, ut)) = (runsC rs ps).take (i * 8) ++ (runC r ue ut).toList ++ (runsC rs ps).drop (i * 8 + 8) := by
      intro rs ps i
      induction rs generalizing ps i with
      | nil => intro hi; simp at hi
      | cons x xs ih =>
        intro hi hp
        match ps, hp with
        | p :: ps, hp =>
          have e : (runC x p.1 p.2).toList.length = 8 := by simp [runC]
          cases i with
          | zero =>
            simp only [runsC, List.set_cons_zero, Nat.zero_mul, Nat.zero_add, List.take_zero, List.nil_append]
            rw [List.drop_append_of_le_length (by omega), List.drop_of_length_le (by omega), List.nil_append]
          | succ i =>
            simp only [runsC, List.set_cons_succ]
            rw [show (i + 1) * 8 = 8 + i * 8 from by omega, List.take_append, List.drop_append, e, List.take_of_length_le (by omega), List.drop_of_length_le (by omega), List.nil_append, show 8 + i * 8 - 8 = i * 8 from by omega, show 8 + i * 8 + 8 - 8 = i * 8 + 8 from by omega]
            rw [List.append_assoc, List.append_assoc, ← List.append_assoc (List.take _ _)]
            exact congrArg _ (ih ps i (by simpa using hi) (by simpa using hp))
    exact q rs vals i hi2 hi1
  refine ⟨by simp [h.len], ⟨by rw [List.length_set, es]; exact st.1, fun j hj => by cases hj; show g < _; omega⟩, fun j hj hj' => ?_, fun j l hj hl hjl => ?_, fun j l hj hl hjl => ?_⟩
  · by_cases e : j = i
    · subst e
      simp only [List.getElem_set_self]
      refine ⟨⟨row_same (ownsRow_baseE hu.edges hlo) (fun k hk => ?_), fun k hk => (newE k hk).2⟩, ⟨row_same (ownsRow_baseE hu.tasks hlo) (fun k hk => ?_), fun k hk => (newT k hk).2⟩⟩
      · exact st.2.block k (newE k hk).2 (fun x => by have h1 := (newE k hk).1; have := Option.some.inj x; omega)
      · exact st.2.block k (newT k hk).2 (fun x => by have h1 := (newT k hk).1; have := Option.some.inj x; omega)
    · rw [set_get_ne hj e, set_get_ne hj' e]
      have y := h1.ins j (by rw [List.length_set] at hj; exact hj) (by rw [List.length_set] at hj'; exact hj')
      refine ⟨⟨y.ed.own.kept st.2 (kept_ne (rows_types (pcOf y.ed.own) O (by decide))), fun k hk => (y.ed.own.lt k hk).2⟩, ⟨y.tk.own.kept st.2 (kept_ne (rows_types (pcOf y.tk.own) O (by decide))), fun k hk => (y.tk.own.lt k hk).2⟩⟩
  · have old : ∀ (q : Nat) (hq : q < vals.length) (k : Nat), (vals[q].1).ownBlock = some k → k < w.heap.size := fun q hq k hk => ((h.ins q hq (by rw [← h.len]; exact hq)).ed.own.lt k hk).2
    have far : ∀ (q : Nat) (hq : q < vals.length), (vals[q].1).ownBlock = none ∨ (vals[q].1).ownBlock ≠ ue.ownBlock := fun q hq => by
      cases hv : (vals[q].1).ownBlock with
      | none => exact .inl rfl
      | some k => exact .inr (fun e => by have h1 := old q hq k hv; have h2 := (newE k e.symm).1; omega)
    have hj2 : j < vals.length := by rw [List.length_set] at hj; exact hj
    have hl2 : l < vals.length := by rw [List.length_set] at hl; exact hl
    by_cases ej : j = i
    · subst ej
      rw [List.getElem_set_self, set_get_ne hl (by omega)]
      exact apComm (far l hl2)
    · by_cases el : l = i
      · subst el
        rw [List.getElem_set_self, set_get_ne hj (by omega)]
        exact far j hj2
      · rw [set_get_ne hj ej, set_get_ne hl el]
        exact h.apE j l hj2 hl2 hjl
  · have old : ∀ (q : Nat) (hq : q < vals.length) (k : Nat), (vals[q].2).ownBlock = some k → k < w.heap.size := fun q hq k hk => ((h.ins q hq (by rw [← h.len]; exact hq)).tk.own.lt k hk).2
    have far : ∀ (q : Nat) (hq : q < vals.length), (vals[q].2).ownBlock = none ∨ (vals[q].2).ownBlock ≠ ut.ownBlock := fun q hq => by
      cases hv : (vals[q].2).ownBlock with
      | none => exact .inl rfl
      | some k => exact .inr (fun e => by have h1 := old q hq k hv; have h2 := (newT k e.symm).1; omega)
    have hj2 : j < vals.length := by rw [List.length_set] at hj; exact hj
    have hl2 : l < vals.length := by rw [List.length_set] at hl; exact hl
    by_cases ej : j = i
    · subst ej
      rw [List.getElem_set_self, set_get_ne hl (by omega)]
      exact apComm (far l hl2)
    · by_cases el : l = i
      · subst el
        rw [List.getElem_set_self, set_get_ne hj (by omega)]
        exact far j hj2
      · rw [set_get_ne hj ej, set_get_ne hl el]
        exact h.apT j l hj2 hl2 hjl
/-- Shelves as they are made, the first k of them. -/
def partSh (sh : List (List QuadL)) (k : Nat) : List (List QuadL) := sh.take k ++ List.replicate (sh.length - k) []
theorem partSh_len (sh : List (List QuadL)) (k : Nat) : (partSh sh k).length = sh.length := by unfold partSh; simp; omega
theorem partSh_set (sh : List (List QuadL)) (k : Nat) (h : k < sh.length) : (partSh sh k).set k sh[k] = partSh sh (k + 1) := by
  unfold partSh
  have hl : (sh.take k).length = k := by rw [List.length_take]; omega
  rw [List.set_append_right _ _ (by omega), hl, Nat.sub_self, show sh.length - k = (sh.length - (k + 1)) + 1 from by omega, List.replicate_succ, List.set_cons_zero, List.take_succ_eq_append_getElem h, List.append_assoc]
  rfl
theorem partSh_all (sh : List (List QuadL)) (k : Nat) (h : ¬ k < sh.length) : partSh sh k = sh := by
  unfold partSh
  rw [List.take_of_length_le (by omega), show sh.length - k = 0 from by omega]; simp
theorem sh_zero {w : World} {B g n : Nat} (h : w.ownsRow B 48 1 (.slice (some ⟨g, 0, none⟩) n n) n (List.replicate n (.slice none 0 0))) (sh : List (List QuadL)) (hn : sh.length = n) : ShelvesX w B w.heap.size (.slice (some ⟨g, 0, none⟩) n n) (List.replicate n (.slice none 0 0)) (partSh sh 0) := by
  have hp : partSh sh 0 = List.replicate n [] := by unfold partSh; simp [hn]
  rw [hp]
  refine ⟨by simp, ⟨by rw [List.length_replicate]; exact pcOf h, fun j hj => (h.lt j hj).2⟩, fun i hi hi' => ?_, fun i j hi hj _ => ?_⟩
  · simp only [List.getElem_replicate]
    exact ⟨⟨by simp [quadsC], .inl ⟨rfl, rfl⟩⟩, fun k hk => by cases hk⟩
  · simp only [List.getElem_replicate]; exact .inl rfl
set_option maxRecDepth 100000 in
set_option maxHeartbeats 3200000 in
theorem toShelves_any (a : Option Addr) (cap : Nat) (sh : List (List QuadL)) (w : World) (hn : sh.length ≤ 1048576) (hm : ∀ x ∈ sh, x.length ≤ 1048576) (hk : shelvesIn w w.heap.size a sh) :
    Calls Try.prog 45 #[.slice a sh.length cap] w fun e w' => ∃ g vals, e = .returned (.slice (some ⟨g, 0, none⟩) sh.length sh.length) ∧ ShelvesX w' w.heap.size w'.heap.size (.slice (some ⟨g, 0, none⟩) sh.length sh.length) vals sh ∧ Below w.heap.size w w' := by
  obtain ⟨i0, hi0, hz0, hz1, hz2⟩ := info_parts infoShelf
  have HK := hide hk
  have HM := hide hm
  clear hk hm
  go_enter Try.func45, Try.ntmps45
  go_wp2_with (at_make; refine wpList_make_full _ rfl _ _ 22 rfl w.heap.size 48 i0 _ 1 Try.underlying22 hi0 hz0 hz1 .i64 .i64 _ _ sh.length rfl rfl rfl rfl (by rw [hz2]; omega) (by unfold maxLen; omega) (Nat.le_refl _) ?_)
  intro w0 hown0 hgrow0
  have hb0 : Below w.heap.size w w0 := (Below.refl _ _).grown hgrow0 (Nat.le_refl _) (fun k hk => by cases hk)
  rw [toList_madeCells_one] at hown0
  have Z := hide (sh_zero hown0 sh rfl)
  clear hown0 hgrow0
  go_wp2
  go_loopw [4] (fun i wr => ∃ (k : Nat) (vals : List Value) (h : Nat), k ≤ sh.length ∧ i = .int .i64 k ∧ Hid (ShelvesX wr w.heap.size h (.slice (some ⟨w.heap.size, 0, none⟩) sh.length sh.length) vals (partSh sh k)) ∧ h ≤ wr.heap.size ∧ Below w.heap.size w wr)
    (fun i _ => sh.length - (intOf i).toNat)
  case atStart => exact ⟨0, _, _, Nat.zero_le _, rfl, Z, Nat.le_refl _, hb0⟩
  case round =>
    obtain ⟨k, vals, h, hk, rfl, SX, hh, hb⟩ := hrel
    clear Z hb0
    have hsz := hb.size
    by_cases hlt : k < sh.length
    · obtain ⟨b, off, x, c, rfl, hB, c1, hln, hq⟩ := shelvesIn_below (unhide HK) hb k hlt
      have hk0 : (0 : Int) ≤ (k : Int) := Int.natCast_nonneg _
      have hk1 : (k : Int) < (sh.length : Int) := by omega
      have hxl := unhide HM _ (List.getElem_mem hlt)
      have PS := hide (partSh_set sh k hlt)
      have hq2 : QuadsIn wr wr.heap.size x sh[k] := fun j hj => by
        obtain ⟨b1, o1, e1, e2, e3⟩ := hq j hj
        exact ⟨b1, o1, e1, Nat.lt_of_lt_of_le e2 hsz, e3⟩
      have TO := hide (toEntryS_any x c sh[k] wr hxl hq2)
      have hvl : k < vals.length := by rw [(unhide SX).len, partSh_len]; exact hlt
      have ST := fun (w1 : World) (hb1 : Below wr.heap.size wr w1) (u : Value) hu => hide (shelves_store (r := sh[k]'hlt) (u := u) (unhide SX) hb1 hvl (partSh_len sh k).symm hu hsz)
      rw [unhide PS] at ST
      have OC := fun (w1 : World) (hb1 : Below wr.heap.size wr w1) => hide (pcX_below (unhide SX).out hb1).own
      generalize sh[k] = r at *
      clear hq hq2 hln
      go_wp2_with fail
      refine (unhide TO).mono ?_
      rintro e w1 ⟨g1, rfl, hown, hb1⟩
      have O1 := unhide (OC w1 hb1)
      rw [partSh_len] at O1
      have z1 := O1.cells k _ (List.getElem?_eq_getElem hvl)
      have f1 := O1.frozenAt (0 + k)
      have S1 := unhide (ST w1 hb1 _ (pcOf hown))
      simp only [Nat.zero_add] at z1 f1 S1
      have hb2 := (hb.trans (hb1.mono hsz)).grown S1.2 (Nat.le_trans hsz hb1.size) (fun j hj => by cases hj; exact Nat.le_refl _)
      have hz := S1.2.size
      have SX2 := hide S1.1
      have HB2 := hide hb2
      have HZ := hide hz
      clear S1 hb2 hz hown hb1 O1 OC ST TO c1 SX hb PS
      generalize vals[k] = v0 at z1
      go_wp2
      go_roundw
      case rel => exact ⟨k + 1, _, _, by omega, by go_num, SX2, unhide HZ, unhide HB2⟩
      case measure => simp [intOf]; omega
    · have HE := hide (partSh_all sh k hlt)
      clear HK HM
      go_wp2
      go_ret
      refine ⟨_, vals, rfl, ?_, hb⟩
      have q := unhide SX
      rw [unhide HE] at q
      exact shelvesX_wide q (Nat.le_refl _) hh
/-- Runs as they are made, the first k of them. -/
def zeroRun : RunL := ⟨0, ⟨0, 0, 0, 0, []⟩, 0, []⟩
def partR (rs : List RunL) (k : Nat) : List RunL := rs.take k ++ List.replicate (rs.length - k) zeroRun
theorem partR_len (rs : List RunL) (k : Nat) : (partR rs k).length = rs.length := by unfold partR; simp; omega
theorem partR_set (rs : List RunL) (k : Nat) (h : k < rs.length) : (partR rs k).set k rs[k] = partR rs (k + 1) := by
  unfold partR
  have hl : (rs.take k).length = k := by rw [List.length_take]; omega
  rw [List.set_append_right _ _ (by omega), hl, Nat.sub_self, show rs.length - k = (rs.length - (k + 1)) + 1 from by omega, List.replicate_succ, List.set_cons_zero, List.take_succ_eq_append_getElem h, List.append_assoc]
  rfl
theorem partR_all (rs : List RunL) (k : Nat) (h : ¬ k < rs.length) : partR rs k = rs := by
  unfold partR
  rw [List.take_of_length_le (by omega), show rs.length - k = 0 from by omega]; simp
theorem runsC_zero (n : Nat) : runsC (List.replicate n zeroRun) (List.replicate n (.slice none 0 0, .slice none 0 0)) = (List.replicate n [Value.int .i64 0, .int .i64 0, .int .i64 0, .int .i64 0, .int .i64 0, .slice none 0 0, .int .i64 0, .slice none 0 0]).flatten := by
  induction n with
  | zero => rfl
  | succ n ih => simp only [List.replicate_succ, runsC, ih, List.flatten_cons]; rfl
theorem runs_zero {w : World} {B g n : Nat} (h : w.ownsRow B 65 8 (.slice (some ⟨g, 0, none⟩) n n) n (List.replicate n [Value.int .i64 0, .int .i64 0, .int .i64 0, .int .i64 0, .int .i64 0, .slice none 0 0, .int .i64 0, .slice none 0 0]).flatten) (rs : List RunL) (hn : rs.length = n) : RunsX w B w.heap.size (.slice (some ⟨g, 0, none⟩) n n) (List.replicate n (.slice none 0 0, .slice none 0 0)) (partR rs 0) := by
  have hp : partR rs 0 = List.replicate n zeroRun := by unfold partR; simp [hn]
  rw [hp]
  rw [← runsC_zero] at h
  refine ⟨by simp, ⟨by rw [List.length_replicate]; exact pcOf h, fun j hj => (h.lt j hj).2⟩, fun i hi hi' => ?_, fun i j hi hj _ => ?_, fun i j hi hj _ => ?_⟩
  · simp only [List.getElem_replicate]
    exact ⟨⟨⟨by simp [zeroRun, edgesC], .inl ⟨rfl, rfl⟩⟩, fun k hk => by cases hk⟩, ⟨⟨by simp [zeroRun, quadsC], .inl ⟨rfl, rfl⟩⟩, fun k hk => by cases hk⟩⟩
  · simp only [List.getElem_replicate]; exact .inl rfl
  · simp only [List.getElem_replicate]; exact .inl rfl
theorem infoRunY : (Try.prog.info? 65).map (fun i => (i.zero, i.size, i.bytes)) = some (some (.agg #[.int .i64 0, .int .i64 0, .int .i64 0, .int .i64 0, .int .i64 0, .slice none 0 0, .int .i64 0, .slice none 0 0]), 8, 96) := by kernel_rfl
set_option maxRecDepth 100000 in
set_option maxHeartbeats 3200000 in
theorem toRuns_any (a : Option Addr) (cap : Nat) (rs : List RunL) (w : World) (hn : rs.length ≤ 1048576) (hm : ∀ x ∈ rs, x.plan.edges.length ≤ 1048576 ∧ x.tasks.length ≤ 1048576) (hk : runsIn w w.heap.size a rs) :
    Calls Try.prog 46 #[.slice a rs.length cap] w fun e w' => ∃ g vals, e = .returned (.slice (some ⟨g, 0, none⟩) rs.length rs.length) ∧ RunsX w' w.heap.size w'.heap.size (.slice (some ⟨g, 0, none⟩) rs.length rs.length) vals rs ∧ Below w.heap.size w w' := by
  obtain ⟨i0, hi0, hz0, hz1, hz2⟩ := info_parts infoRunY
  have HK := hide hk
  have HM := hide hm
  clear hk hm
  go_enter Try.func46, Try.ntmps46
  go_wp2_with (at_make; refine wpList_make_full _ rfl _ _ 23 rfl w.heap.size 65 i0 _ 8 Try.underlying23 hi0 hz0 hz1 .i64 .i64 _ _ rs.length rfl rfl rfl rfl (by rw [hz2]; omega) (by unfold maxLen; omega) (Nat.le_refl _) ?_)
  intro w0 hown0 hgrow0
  have hb0 : Below w.heap.size w w0 := (Below.refl _ _).grown hgrow0 (Nat.le_refl _) (fun k hk => by cases hk)
  have e0 := made_many2 #[.int .i64 0, .int .i64 0, .int .i64 0, .int .i64 0, .int .i64 0, .slice none 0 0, .int .i64 0, .slice none 0 0] rs.length
  have hown1 : w0.ownsRow w.heap.size 65 8 (.slice (some ⟨w.heap.size, 0, none⟩) rs.length rs.length) rs.length (List.replicate rs.length [Value.int .i64 0, .int .i64 0, .int .i64 0, .int .i64 0, .int .i64 0, .slice none 0 0, .int .i64 0, .slice none 0 0]).flatten := by
    rw [← show #[Value.int .i64 0, .int .i64 0, .int .i64 0, .int .i64 0, .int .i64 0, .slice none 0 0, .int .i64 0, .slice none 0 0].toList = [Value.int .i64 0, .int .i64 0, .int .i64 0, .int .i64 0, .int .i64 0, .slice none 0 0, .int .i64 0, .slice none 0 0] from rfl, ← e0]
    exact hown0
  have Z := hide (runs_zero hown1 rs rfl)
  clear hown0 hgrow0 hown1 e0
  go_wp2
  go_loopw [4] (fun i wr => ∃ (k : Nat) (vals : List (Value × Value)) (h : Nat), k ≤ rs.length ∧ i = .int .i64 k ∧ Hid (RunsX wr w.heap.size h (.slice (some ⟨w.heap.size, 0, none⟩) rs.length rs.length) vals (partR rs k)) ∧ h ≤ wr.heap.size ∧ Below w.heap.size w wr)
    (fun i _ => rs.length - (intOf i).toNat)
  case atStart => exact ⟨0, _, _, Nat.zero_le _, rfl, Z, Nat.le_refl _, hb0⟩
  case round =>
    obtain ⟨k, vals, h, hk, rfl, SX, hh, hb⟩ := hrel
    clear Z hb0
    have hsz := hb.size
    by_cases hlt : k < rs.length
    · obtain ⟨b, off, x, c, y, d, rfl, hB, ⟨c0, c1, c2, c3, c4, c5, c6, c7⟩, hln, hq⟩ := runsIn_below (unhide HK) hb k hlt
      have hk0 : (0 : Int) ≤ (k : Int) := Int.natCast_nonneg _
      have hk1 : (k : Int) < (rs.length : Int) := by omega
      have hxl := unhide HM _ (List.getElem_mem hlt)
      have PS := hide (partR_set rs k hlt)
      have hq2 : RunIn wr wr.heap.size x y rs[k] := ⟨fun j hj => by
        obtain ⟨b1, o1, e1, e2, e3⟩ := hq.edges j hj
        exact ⟨b1, o1, e1, Nat.lt_of_lt_of_le e2 hsz, e3⟩, fun j hj => by
        obtain ⟨b1, o1, e1, e2, e3⟩ := hq.tasks j hj
        exact ⟨b1, o1, e1, Nat.lt_of_lt_of_le e2 hsz, e3⟩⟩
      have TO := hide (toRun_any x y c d rs[k] wr hxl.1 hxl.2 hq2)
      have hvl : k < vals.length := by rw [(unhide SX).len, partR_len]; exact hlt
      have hpl : k < (partR rs k).length := by rw [partR_len]; exact hlt
      have ST := fun (w1 : World) (hb1 : Below wr.heap.size wr w1) (ue ut : Value) hu => hide (runs_store (r := rs[k]'hlt) (ue := ue) (ut := ut) (unhide SX) hb1 hvl (partR_len rs k).symm hu hsz)
      rw [unhide PS] at ST
      have OC := fun (w1 : World) (hb1 : Below wr.heap.size wr w1) => hide (runs_cells (runsX_below (unhide SX) hb1) (partR_len rs k).symm hvl hpl)
      have FC := fun (w1 : World) (hb1 : Below wr.heap.size wr w1) => hide (pcX_below (unhide SX).out hb1).own
      generalize rs[k] = r at *
      generalize (partR rs k)[k] = r0 at OC
      generalize vals[k] = v0 at OC
      unfold runV runC at TO
      clear hq hq2 hln hpl
      go_wp2_with fail
      refine (unhide TO).mono ?_
      rintro e w1 ⟨g1, g2, rfl, hown, hb1⟩
      obtain ⟨z0, z1, z2, z3, z4, z5, z6, z7⟩ := unhide (OC w1 hb1)
      have F1 := unhide (FC w1 hb1)
      rw [partR_len] at F1
      have f0 := F1.frozenAt (k * 8)
      have f1 := F1.frozenAt (k * 8 + 1)
      have f2 := F1.frozenAt (k * 8 + 2)
      have f3 := F1.frozenAt (k * 8 + 3)
      have f4 := F1.frozenAt (k * 8 + 4)
      have f5 := F1.frozenAt (k * 8 + 5)
      have f6 := F1.frozenAt (k * 8 + 6)
      have f7 := F1.frozenAt (k * 8 + 7)
      obtain ⟨W, hW, S1, S2⟩ := unhide (ST w1 hb1 _ _ hown)
      simp only [Nat.zero_add] at z0 z1 z2 z3 z4 z5 z6 z7 hW
      have hb2 := (hb.trans (hb1.mono hsz)).grown S2 (Nat.le_trans hsz hb1.size) (fun j hj => by cases hj; exact Nat.le_refl _)
      have hz := S2.size
      have SX2 := hide S1
      have HB2 := hide hb2
      have HZ := hide hz
      have HW := hide hW
      clear S1 S2 hb2 hz hown hb1 F1 FC OC ST TO c0 c1 c2 c3 c4 c5 c6 c7 SX hb PS hW
      generalize v0.1 = y1 at z5
      generalize v0.2 = y2 at z7
      go_wp2_with fail
      rw [← unhide HW]
      clear z0 z1 z2 z3 z4 z5 z6 z7 f0 f1 f2 f3 f4 f5 f6 f7 HW
      go_wp2
      go_roundw
      case rel => exact ⟨k + 1, _, _, by omega, by go_num, SX2, unhide HZ, unhide HB2⟩
      case measure => simp [intOf]; omega
    · have HE := hide (partR_all rs k hlt)
      clear HK HM
      go_wp2
      go_ret
      refine ⟨_, vals, rfl, ?_, hb⟩
      have q := unhide SX
      rw [unhide HE] at q
      exact runsX_wide q (Nat.le_refl _) hh
end Go.Proofs.Ytodlnhmlhpadbaa
