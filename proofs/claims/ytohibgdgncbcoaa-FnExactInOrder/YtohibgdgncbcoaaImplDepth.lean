/- The walks of the program's depthTeller, of the function that it makes, and of DepthOf. -/
import Derived.Test.YtohibgdgncbcoaaMemoBase
import Derived.Test.YtohibgdgncbcoaaImplOrder1
import Derived.Maps.AppendAt
import Derived.Laws.EntriesVeiled
namespace Go.Proofs.Ytohibgdgncbcoaa
open Go.RowKit Go.MapKept
open scoped Classical
set_option linter.unusedVariables false
set_option linter.unusedSimpArgs false
attribute [local go_sem ↓] Go.wp_at_zero Go.wp_at_succ

/-- The function that tells a depth, as a value: what it holds are three variables. -/
def tellV (bm bp bf : Nat) : Value := .func (.func 56) #[] #[.pointer (some ⟨bm, 0, none⟩), .pointer (some ⟨bp, 0, none⟩), .pointer (some ⟨bf, 0, none⟩)]
/-- Its variables: the map's, the plan's, its own; the map itself; the plan's edges. -/
structure TellI (W : World) (p : PlanL) (va : Value) (ba bm bp bf b : Nat) (ds : List Int) : Prop where
  mc : W.heap[bm]? = some (.cells #[.map (some b)] 78 (0, 0))
  box : W.heap[bp]? = some (.cells #[.int .i64 p.prio, .int .i64 p.most, .int .i64 p.wait, .int .i64 p.tasks, va] 26 (0, 0))
  fc : W.heap[bf]? = some (.cells #[tellV bm bp bf] 56 (0, 0))
  memo : MemoAt W b ds
  row : W.ownsRow ba 69 2 va p.edges.length (edgesC p.edges)
theorem row_not_map {w : World} {B e size n b : Nat} {v : Value} {xs : List Value} {ds : List Int} (h : w.ownsRow B e size v n xs) (hM : MemoAt w b ds) : v.ownBlock = none ∨ v.ownBlock ≠ some b := by
  rcases h.2 with ⟨k, _⟩ | ⟨g1, cap1, cur1, k1, _, hh1, _⟩
  · left; rw [k]; rfl
  · right
    rw [k1]
    intro e
    simp only [Value.ownBlock, Option.some.injEq] at e
    obtain ⟨es, clock, h1, _⟩ := hM
    rw [e, h1] at hh1
    cases hh1
theorem cells_not_map {w : World} {g b : Nat} {cs : Array Value} {T : TypeId} {fr : Nat × Nat} {ds : List Int} (h : w.heap[g]? = some (.cells cs T fr)) (hM : MemoAt w b ds) : some g ≠ some b := by
  intro e
  obtain ⟨es, clock, h1, _⟩ := hM
  rw [Option.some.injEq] at e
  rw [e, h1] at h
  cases h
/-- The map alone is written, or new memory. -/
theorem tell_grown {W W' : World} {p : PlanL} {va : Value} {ba bm bp bf b : Nat} {ds : List Int} (h : TellI W p va ba bm bp bf b ds) (hg : W.grownBy W' (some b)) (hm : MemoAt W' b ds) : TellI W' p va ba bm bp bf b ds :=
  ⟨by rw [hg.block _ (Array.getElem?_eq_some_iff.1 h.mc).1 (cells_not_map h.mc h.memo)]; exact h.mc,
   by rw [hg.block _ (Array.getElem?_eq_some_iff.1 h.box).1 (cells_not_map h.box h.memo)]; exact h.box,
   by rw [hg.block _ (Array.getElem?_eq_some_iff.1 h.fc).1 (cells_not_map h.fc h.memo)]; exact h.fc,
   hm, World.ownsRow.kept h.row hg (row_not_map h.row h.memo)⟩
theorem tell_alloc {W : World} {p : PlanL} {va : Value} {ba bm bp bf b : Nat} {ds : List Int} (h : TellI W p va ba bm bp bf b ds) (o : Obj) : TellI (W.alloc o) p va ba bm bp bf b ds :=
  tell_grown h (World.grownBy_alloc W o (some b)) (memo_kept h.memo (World.grownBy_alloc W o none) (by simp))
theorem tell_cells {W : World} {p : PlanL} {va : Value} {ba bm bp bf b : Nat} {ds : List Int} (h : TellI W p va ba bm bp bf b ds) : W.cell? ⟨bm, 0, none⟩ = some (.map (some b)) ∧ W.cell? ⟨bp, 4, none⟩ = some va ∧ W.cell? ⟨bf, 0, none⟩ = some (tellV bm bp bf) :=
  ⟨cellIn h.mc rfl, cellIn h.box rfl, cellIn h.fc rfl⟩
theorem grown_none (W : World) (b : Option Nat) : W.grownBy W b := ⟨rfl, rfl, rfl, Nat.le_refl _, fun _ _ _ => rfl⟩
set_option maxRecDepth 100000 in
set_option maxHeartbeats 6400000 in
theorem tell_any (va : Value) (ba bm bp bf b n : Nat) (p : PlanL) (ds : List Int) (f : Int → Nat) (hG : GoodP p.edges n) (h12 : n ≤ 12) (hl : p.edges.length ≤ 2000000) (hD : DepIs p.edges n ds) (hf : ∀ b t : Int, Reach p.edges b t → 0 ≤ b → b < (n : Int) → f b < f t) :
    ∀ (k t : Nat) (W : World), f (t : Int) < k → t < n → TellI W p va ba bm bp bf b ds →
    Calls Try.prog 56 #[.int .i64 (t : Int), .pointer (some ⟨bm, 0, none⟩), .pointer (some ⟨bp, 0, none⟩), .pointer (some ⟨bf, 0, none⟩)] W fun e W' => e = .returned (.int .i64 (ds.getD t 0)) ∧ TellI W' p va ba bm bp bf b ds ∧ W.grownBy W' (some b) := by
  intro k
  induction k with
  | zero => intro t W h; omega
  | succ k ih =>
    intro t W hfk htn hT
    have hds := hD.2 t htn
    rw [← topE_is hG] at hds
    have HDS := hide hds
    have HIN := hide (fun e (he : e ∈ p.edges) => hG.ins e he)
    have HDI := hide (fun (u : Nat) (hu : u < n) => dep_in hG hD u hu)
    have IH := fun (e : EdgeL) (he : e ∈ p.edges) (hd : e.dst = (t : Int)) (u : Nat) (hu : e.fr = (u : Int)) (W' : World) (h : TellI W' p va ba bm bp bf b ds) => hide (ih u W' (by
      have h1 := hf e.fr e.dst (reach_one he) (hG.ins e he).1 (hG.ins e he).2.1
      rw [hd, hu] at h1
      omega) (by have := (hG.ins e he).2.1; omega) h)
    clear ih hds hf hD hG hfk
    obtain ⟨aa, ca, rfl, sga⟩ := ownsRow_shape hT.row
    obtain ⟨c1, c2, c3⟩ := tell_cells hT
    rcases look_memo hT.memo t with hlk | hlk
    · obtain ⟨p1, p2, p3, p4, es⟩ := p
      dsimp only at hT hl HDS HIN IH c2 sga
      have ST := hide hT
      clear hT
      obtain ⟨dt, hdt⟩ : ∃ dt, dt = ds.getD t 0 := ⟨_, rfl⟩
      rw [← hdt]
      rw [← hdt] at HDS
      have HDT := hide hdt
      clear hdt
      unfold tellV at c3
      go_enter Try.func56, Try.ntmps56
      go_wp2
      clear hlk c1 c2 c3
      go_loopw [8, 22] (fun d i wr => ∃ k : Nat, k ≤ es.length ∧ i = .int .i64 k ∧ d = .int .i64 (topE ds (t : Int) (es.take k)) ∧ Hid (TellI wr ⟨p1, p2, p3, p4, es⟩ (.slice aa es.length ca) ba bm bp bf b ds) ∧ Hid (W.grownBy wr (some b)))
        (fun _ i _ => es.length - (intOf i).toNat)
      case atStart => exact ⟨0, Nat.zero_le _, rfl, rfl, ST, hide (grown_none W _)⟩
      case round =>
        clear ST
        obtain ⟨k, hk, rfl, rfl, ST, HGR⟩ := hrel
        by_cases hlt : k < es.length
        · obtain ⟨ga, rfl⟩ := sga (by omega)
          have hk0 : (0 : Int) ≤ (k : Int) := Int.natCast_nonneg _
          have hk1 : (k : Int) < (es.length : Int) := by omega
          obtain ⟨e1, e2⟩ := edgesC_cell (unhide ST).row hlt
          have HS := hide (List.take_succ_eq_append_getElem hlt)
          have IH1 := IH es[k] (List.getElem_mem hlt)
          have hin := unhide HIN es[k] (List.getElem_mem hlt)
          have htop := topE_in ds (t : Int) (m := 12) (by omega) (es.take k) (fun e he => by
            have h1 := unhide HIN e (List.mem_of_mem_take he)
            have h2 := (unhide HDI e.fr.toNat (by omega)).2
            omega)
          generalize es[k] = q at e1 e2 HS IH1 hin
          obtain ⟨qa, qb⟩ := q
          dsimp only at e1 e2 hin IH1
          obtain ⟨a, rfl⟩ : ∃ a : Nat, qa = (a : Int) := ⟨qa.toNat, by omega⟩
          have hda := unhide HDI a (by omega)
          have HN : Hid (topE ds (t : Int) (es.take (k + 1)) = upE ds (t : Int) (topE ds (t : Int) (es.take k)) ⟨(a : Int), qb⟩) := hide (by rw [unhide HS, topE_snoc])
          generalize topE ds (t : Int) (es.take k) = m0 at HN htop ⊢
          have S1 := hide (tell_alloc (unhide ST) (Obj.cells #[.int .i64 (a : Int), .int .i64 qb] 69))
          have G1 := hide ((unhide HGR).trans (World.grownBy_alloc wr (Obj.cells #[.int .i64 (a : Int), .int .i64 qb] 69) (some b)))
          clear HS hin ST HGR IH HIN sga HDI
          by_cases hq : qb = (t : Int)
          · subst hq
            have IH2 := IH1 rfl a rfl
            clear IH1
            obtain ⟨c1, c2, c3⟩ := tell_cells (unhide S1)
            unfold tellV at c3
            have R : Hid (Value.int .i64 (if m0 < ds.getD a 0 + 1 then ds.getD a 0 + 1 else m0) = .int .i64 (topE ds (t : Int) (es.take (k + 1)))) := hide (by rw [unhide HN]; simp [upE])
            generalize ds.getD a 0 = da at hda IH2 R
            have hm2 := fun ats ty (W : World) => max_two ats ty m0 (da + 1) W
            clear HN
            go_wp2_with fail
            refine (unhide (IH2 _ (unhide S1))).mono ?_
            rintro e w2 ⟨rfl, hS2, hg2⟩
            have S2 := hide hS2
            have G2 := hide ((unhide G1).trans hg2)
            clear IH2 hS2 hg2 S1 G1 e1 e2 c1 c2 c3
            go_wp2
            go_roundw
            case rel => exact ⟨k + 1, by omega, by go_num, unhide R, S2, G2⟩
            case measure => simp [intOf]; omega
          · have hq1 : (qb == (t : Int)) = false := by simp [hq]
            have R : Hid (Value.int .i64 m0 = .int .i64 (topE ds (t : Int) (es.take (k + 1)))) := hide (by rw [unhide HN]; unfold upE; rw [if_neg hq])
            clear HN hq IH1
            go_wp2
            go_roundw
            case rel => exact ⟨k + 1, by omega, by go_num, unhide R, S1, G1⟩
            case measure => simp [intOf]; omega
        · have hke : es.take k = es := List.take_of_length_le (by omega)
          rw [hke, ← unhide HDS]
          obtain ⟨c1, c2, c3⟩ := tell_cells (unhide ST)
          obtain ⟨W2, hrun, hM2, hg2⟩ := upd_memo (unhide ST).memo t
          rw [← unhide HDT] at hrun
          have S2 := hide (tell_grown (unhide ST) hg2 hM2)
          have G2 := hide ((unhide HGR).trans hg2)
          clear hke ST HGR IH HIN sga HDI hM2 hg2 c2 c3
          go_wp2
          go_ret
          exact ⟨rfl, unhide S2, unhide G2⟩
    · have ST := hide hT
      obtain ⟨dt, hdt⟩ : ∃ dt, dt = ds.getD t 0 := ⟨_, rfl⟩
      rw [← hdt] at hlk ⊢
      clear hdt hT HDS HIN HDI IH sga c2 c3
      go_enter Try.func56, Try.ntmps56
      go_wp2
      go_ret
      exact ⟨rfl, unhide ST, grown_none W _⟩
set_option maxRecDepth 100000 in
set_option maxHeartbeats 1600000 in
theorem implTeller_any (va : Value) (ba : Nat) (p : PlanL) (ds : List Int) (w : World) (hA : w.ownsRow ba 69 2 va p.edges.length (edgesC p.edges)) :
    Calls Try.prog 38 #[planV p va] w fun e w' => e = .returned (tellV (w.heap.size + 2) w.heap.size (w.heap.size + 3)) ∧ TellI w' p va ba (w.heap.size + 2) w.heap.size (w.heap.size + 3) (w.heap.size + 1) ds ∧ Below w.heap.size w w' := by
  obtain ⟨p1, p2, p3, p4, es⟩ := p
  unfold planV
  simp only at hA ⊢
  obtain ⟨aa, ca, rfl, -⟩ := ownsRow_shape hA
  have HA := hide hA
  clear hA
  have hmm := make_memo
  have hmf : ∀ (fn : Fn) (first cap : Array Value) (w : World), (Instr.makeFunc fn first cap).run Try.prog w = .ok (.func fn first cap) w := fun _ _ _ _ => rfl
  go_enter Try.func38, Try.ntmps38
  go_wp2
  obtain ⟨W1, h1⟩ : ∃ W1, W1 = w.alloc (Obj.cells #[.int .i64 p1, .int .i64 p2, .int .i64 p3, .int .i64 p4, .slice aa es.length ca] 26) := ⟨_, rfl⟩
  obtain ⟨W2, h2⟩ : ∃ W2, W2 = W1.alloc (Obj.map #[] 0) := ⟨_, rfl⟩
  obtain ⟨W3, h3⟩ : ∃ W3, W3 = W2.alloc (Obj.cells #[.map (some (w.heap.size + 1))] 78) := ⟨_, rfl⟩
  obtain ⟨W4, h4⟩ : ∃ W4, W4 = W3.alloc (Obj.cells #[tellV (w.heap.size + 2) w.heap.size (w.heap.size + 3)] 56) := ⟨_, rfl⟩
  have z1 : W1.heap.size = w.heap.size + 1 := by rw [h1]; simp
  have z2 : W2.heap.size = w.heap.size + 2 := by rw [h2]; simp [z1]
  have z3 : W3.heap.size = w.heap.size + 3 := by rw [h3]; simp [z2]
  have b1 : Below w.heap.size w W1 := by rw [h1]; exact (Below.refl _ _).alloc (Nat.le_refl _) _
  have b2 : Below W1.heap.size W1 W2 := by rw [h2]; exact (Below.refl _ _).alloc (Nat.le_refl _) _
  have b3 : Below W2.heap.size W2 W3 := by rw [h3]; exact (Below.refl _ _).alloc (Nat.le_refl _) _
  have b4 : Below W3.heap.size W3 W4 := by rw [h4]; exact (Below.refl _ _).alloc (Nat.le_refl _) _
  have x1 : W1.heap[w.heap.size]? = some (.cells #[.int .i64 p1, .int .i64 p2, .int .i64 p3, .int .i64 p4, .slice aa es.length ca] 26 (0, 0)) := by rw [h1]; exact heap_alloc_new _ _
  have x2 : W2.heap[w.heap.size + 1]? = some (.map #[] 0) := by rw [h2]; exact alloc_atP _ _ _ z1
  have x3 : W3.heap[w.heap.size + 2]? = some (.cells #[.map (some (w.heap.size + 1))] 78 (0, 0)) := by rw [h3]; exact alloc_atP _ _ _ z2
  have x4 : W4.heap[w.heap.size + 3]? = some (.cells #[tellV (w.heap.size + 2) w.heap.size (w.heap.size + 3)] 56 (0, 0)) := by rw [h4]; exact alloc_atP _ _ _ z3
  have b13 := b1.trans ((b2.trans (b3.mono b2.size)).mono b1.size)
  have b14 := b13.trans (b4.mono b13.size)
  have R : Hid (TellI W4 ⟨p1, p2, p3, p4, es⟩ (.slice aa es.length ca) ba (w.heap.size + 2) w.heap.size (w.heap.size + 3) (w.heap.size + 1) ds) := hide
    ⟨heapLater b4 x3, heapLater b4 (heapLater b3 (heapLater b2 x1)), x4, ⟨#[], 0, heapLater b4 (heapLater b3 x2), fun x hx => by simp at hx⟩, ownsRow_below (unhide HA) b14⟩
  have e4 : ((((w.alloc (Obj.cells #[.int .i64 p1, .int .i64 p2, .int .i64 p3, .int .i64 p4, .slice aa es.length ca] 26)).alloc (Obj.map #[] 0)).alloc (Obj.cells #[.map (some (w.heap.size + 1))] 78)).alloc (Obj.cells #[tellV (w.heap.size + 2) w.heap.size (w.heap.size + 3)] 56)) = W4 := by rw [h4, h3, h2, h1]
  unfold tellV at e4
  rw [e4]
  clear h1 h2 h3 h4 e4 x1 x2 x3 x4 b1 b2 b3 b4 b13
  go_ret
  exact ⟨rfl, unhide R, b14⟩
/-- The list that DepthOf makes, beside the teller's variables. -/
structure DepI (w W : World) (p : PlanL) (va : Value) (ba s b : Nat) (ds : List Int) (gl cl : Nat) (ls : List Int) : Prop where
  tell : TellI W p va ba (s + 2) s (s + 3) (s + 1) ds
  lst : W.ownsRow (w.heap.size + 1) 3 1 (.slice (some ⟨gl, 0, none⟩) ls.length cl) ls.length (intC ls)
  below : Below w.heap.size w W
  sb : w.heap.size ≤ s
  old : ∀ x, va.ownBlock = some x → x < w.heap.size
theorem depI_call {w W W' : World} {p : PlanL} {va : Value} {ba s b gl cl : Nat} {ds ls : List Int} (h : DepI w W p va ba s b ds gl cl ls) (ht : TellI W' p va ba (s + 2) s (s + 3) (s + 1) ds) (hg : W.grownBy W' (some (s + 1))) : DepI w W' p va ba s b ds gl cl ls :=
  ⟨ht, World.ownsRow.kept h.lst hg (row_not_map h.lst h.tell.memo), h.below.trans (below_of_grown hg h.below.size (fun y hy => by cases hy; have := h.sb; omega)), h.sb, h.old⟩
theorem depI_app {w W W' : World} {p : PlanL} {va : Value} {ba s b gl cl gl' cl' : Nat} {ds ls : List Int} {x : Int} {o : Obj} (h : DepI w W p va ba s b ds gl cl ls) (hg : (W.alloc o).grownBy W' (some gl))
    (ho : W'.ownsRow (w.heap.size + 1) 3 1 (.slice (some ⟨gl', 0, none⟩) (ls.length + 1) cl') (ls.length + 1) (intC ls ++ [.int .i64 x])) : DepI w W' p va ba s b ds gl' cl' (ls ++ [x]) := by
  have hgl := (h.lst.lt gl rfl).1
  have keep : ∀ {g : Nat} {ob : Obj}, W.heap[g]? = some ob → gl ≠ g → W'.heap[g]? = some ob := fun {g ob} hh hne => by
    have hlt := (Array.getElem?_eq_some_iff.1 hh).1
    rw [hg.block _ (by simp; omega) (by intro e; simp only [Option.some.injEq] at e; exact hne e.symm), Below.heap_alloc W _ _ hlt]; exact hh
  have hnm : gl ≠ s + 1 := by
    rcases row_not_map h.lst h.tell.memo with e | e
    · cases e
    · intro e2; exact e (by rw [← e2]; rfl)
  refine ⟨⟨keep h.tell.mc (row_not_arr h.lst h.tell.mc (by decide)), keep h.tell.box (row_not_arr h.lst h.tell.box (by decide)), keep h.tell.fc (row_not_arr h.lst h.tell.fc (by decide)), ?_, World.ownsRow.kept (World.ownsRow.alloc h.tell.row o) hg ?_⟩, ?_, (h.below.alloc h.below.size o).grown hg (by have := h.below.size; simp; omega) (fun k hk => by cases hk; omega), h.sb, h.old⟩
  · obtain ⟨es, clock, h1, h2⟩ := h.tell.memo
    exact ⟨es, clock, keep h1 hnm, h2⟩
  · cases hv : va.ownBlock with
    | none => exact .inl rfl
    | some y => exact .inr (fun e => by cases e; have := h.old _ hv; omega)
  · rw [List.length_append, intC_append]; exact ho
set_option maxRecDepth 100000 in
set_option maxHeartbeats 6400000 in
theorem implDepth_good (va : Value) (ba n : Nat) (p : PlanL) (ds : List Int) (w : World) (hA : w.ownsRow ba 69 2 va p.edges.length (edgesC p.edges)) (hr : FaultIs p 0) (ht : p.tasks = (n : Int)) (hD : DepIs p.edges n ds) :
    Calls Try.prog 12 #[planV p va] w fun e w' => ∃ v, e = .returned v ∧ w'.ownsRow w.heap.size 3 1 v ds.length (intC ds) ∧ Below w.heap.size w w' := by
  obtain ⟨j0, hj0, hy0, hy1, hy2⟩ := info_parts info3
  have hm := (fault_none hr).1
  have hG := goodP_of hr ht
  have old : ∀ x, va.ownBlock = some x → x < w.heap.size := fun x hx => (hA.lt x hx).2
  have hn12 : n ≤ 12 := by have := hm.2.1; omega
  have hel : p.edges.length ≤ 30 := hm.2.2.1
  obtain ⟨f, hf, hfn⟩ := anc_ex hG
  have PF := fun (W : World) (h : W.ownsRow ba 69 2 va p.edges.length (edgesC p.edges)) => hide (implFault_is va ba p 0 W h (by omega) hr)
  have TM := fun (W : World) (h : W.ownsRow ba 69 2 va p.edges.length (edgesC p.edges)) => hide (implTeller_any va ba p ds W h)
  have TC := fun (s t : Nat) (W : World) (htn : t < n) (h : TellI W p va ba (s + 2) s (s + 3) (s + 1) ds) => hide (tell_any va ba (s + 2) s (s + 3) (s + 1) n p ds f hG hn12 (by omega) hD hf (f (t : Int) + 1) t W (by omega) htn h)
  have hdl := hD.1
  have HDL := hide hdl
  clear hf hfn hD hG hdl
  obtain ⟨p1, p2, p3, p4, es⟩ := p
  dsimp only [planV] at hA ht hel PF TM TC ⊢
  subst ht
  obtain ⟨aa, ca, rfl, -⟩ := ownsRow_shape hA
  have HA := hide hA
  clear hA hm hr
  obtain ⟨W, hW⟩ : ∃ W, W = (w.alloc (Obj.cells #[.int .i64 p1, .int .i64 p2, .int .i64 p3, .int .i64 (n : Int), .slice aa es.length ca] 26)).alloc (Obj.cells #[] 3) := ⟨_, rfl⟩
  have hb0 : Below w.heap.size w W := by rw [hW]; exact ((Below.refl _ _).alloc (Nat.le_refl _) _).alloc (by simp) _
  have x1 : W.heap[w.heap.size]? = some (.cells #[.int .i64 p1, .int .i64 p2, .int .i64 p3, .int .i64 (n : Int), .slice aa es.length ca] 26 (0, 0)) := by rw [hW, Below.heap_alloc _ _ _ (by simp)]; exact heap_alloc_new w _
  have x2 : W.ownsRow (w.heap.size + 1) 3 1 (.slice (some ⟨w.heap.size + 1, 0, none⟩) 0 0) 0 (intC []) := by
    rw [hW]
    have h := World.ownsRow_lit (base := w.heap.size + 1) (e := 3) (size := 1) (w.alloc (Obj.cells #[.int .i64 p1, .int .i64 p2, .int .i64 p3, .int .i64 (n : Int), .slice aa es.length ca] 26)) #[] 0 (by simp) (by decide) rfl
    rw [show (w.alloc (Obj.cells #[.int .i64 p1, .int .i64 p2, .int .i64 p3, .int .i64 (n : Int), .slice aa es.length ca] 26)).heap.size = w.heap.size + 1 from by simp] at h
    exact h
  go_enter Try.func12, Try.ntmps12
  go_wp2_with fail
  rw [← hW]
  clear hW
  refine (unhide (PF _ (ownsRow_below (unhide HA) hb0))).mono ?_
  rintro e w1 ⟨rfl, b1⟩
  obtain ⟨c0, c1, c2, c3, c4⟩ := box_cells x1 b1
  have y1 := heapLater b1 x1
  have y2 := ownsRow_below x2 b1
  have hb1 := hb0.trans (b1.mono hb0.size)
  have y3 := ownsRow_below (unhide HA) hb1
  clear x1 x2 hb0 b1 PF HA
  go_wp2_with fail
  refine (unhide (TM _ y3)).mono ?_
  rintro e w2 ⟨rfl, hT2, b2⟩
  clear c0 c1 c2 c3 c4 TM y3
  obtain ⟨c0, c1, c2, c3, c4⟩ := box_cells y1 b2
  have ST0 : Hid (DepI w w2 ⟨p1, p2, p3, (n : Int), es⟩ (.slice aa es.length ca) ba w1.heap.size 0 ds (w.heap.size + 1) 0 []) := hide
    ⟨hT2, ownsRow_below y2 b2, hb1.trans (b2.mono hb1.size), hb1.size, old⟩
  clear hT2 b2 hb1 y1 y2
  generalize w1.heap.size = s at ST0 ⊢
  unfold tellV
  go_wp2
  clear c0 c1 c2 c3 c4
  go_loopw [3, 15] (fun l x wr => ∃ (t gl cl : Nat), t ≤ n ∧ x = .int .i64 t ∧ l = .slice (some ⟨gl, 0, none⟩) (ds.take t).length cl ∧ Hid (DepI w wr ⟨p1, p2, p3, (n : Int), es⟩ (.slice aa es.length ca) ba s 0 ds gl cl (ds.take t)))
    (fun _ x _ => n - (intOf x).toNat)
  case atStart => exact ⟨0, w.heap.size + 1, 0, Nat.zero_le _, rfl, rfl, ST0⟩
  case round =>
    clear ST0
    obtain ⟨t, gl, cl, htn, rfl, rfl, ST⟩ := hrel
    by_cases hlt : t < n
    · have hlt1 : (t : Int) < (n : Int) := by omega
      have ht0 : (0 : Int) ≤ (t : Int) := Int.natCast_nonneg _
      have hll : t < ds.length := by rw [unhide HDL]; exact hlt
      have HS : Hid (ds.take (t + 1) = ds.take t ++ [ds.getD t 0]) := hide (by rw [List.take_succ_eq_append_getElem hll, List.getD_eq_getElem?_getD, List.getElem?_eq_getElem hll]; rfl)
      have HLL : (ds.take t).length ≤ 12 := by rw [List.length_take]; omega
      have TC1 := fun W h => TC s t W hlt h
      generalize ds.getD t 0 = dt at HS TC1
      generalize ds.take t = ls at ST HS HLL ⊢
      clear hll TC
      go_wp2_with fail
      refine (unhide (TC1 _ (unhide ST).tell)).mono ?_
      rintro e w3 ⟨rfl, hT3, hg3⟩
      have S3 := hide (depI_call (unhide ST) hT3 hg3)
      clear hT3 hg3 ST TC1
      have hsz := (unhide S3).lst.lt gl rfl
      go_wp2_with (at_builtin; refine wpList_append_lies _ (by rfl) _ _ _ (by rfl) (w.heap.size + 1) 3 j0 _ 1 8 Try.underlying28 hj0 hy0 hy1 hy2 rfl (by omega) _ ls.length _ (by rfl) ((unhide S3).lst.alloc _) ⟨w3.heap.size, 0, none⟩ 1 1 [.int .i64 dt] (by rfl) (by rfl) (World.news_of_block (cs := #[.int .i64 dt]) (t := 3) (fr := (0, 0)) (heap_alloc_new w3 _)) (by simp [Value.oneCell']) (by omega) (by unfold maxLen; omega) (by omega) (by simp; omega) (w3.heap.size + 1) (by simp) ?_)
      intro gl2 cl2 W5 ho5 hg5 hat5 hlt5
      have S5 := hide (depI_app (unhide S3) hg5 ho5)
      rw [← unhide HS] at S5
      have HLEN : Hid (ls.length + 1 = (ds.take (t + 1)).length) := hide (by rw [unhide HS]; simp)
      clear ho5 hg5 hat5 hlt5 S3 hsz
      go_wp2
      go_roundw
      case rel => exact ⟨t + 1, gl2, cl2, by omega, by go_num, by rw [← unhide HLEN], S5⟩
      case measure => simp [intOf]; omega
    · have hlt1 : ¬ (t : Int) < (n : Int) := by omega
      have hle : ds.take t = ds := List.take_of_length_le (by rw [unhide HDL]; omega)
      rw [hle] at ST ⊢
      have ho := ownsRow_baseE (unhide ST).lst (B' := w.heap.size) (by omega)
      have hb := (unhide ST).below
      clear ST hle TC
      go_wp2
      go_ret
      exact ⟨_, rfl, ho, hb⟩
set_option maxRecDepth 100000 in
set_option maxHeartbeats 1600000 in
theorem implDepth_any (va : Value) (ba : Nat) (p : PlanL) (r : Int) (ds : List Int) (w : World) (hA : w.ownsRow ba 69 2 va p.edges.length (edgesC p.edges)) (hl : p.edges.length ≤ 2000000) (hr : FaultIs p r) (hr0 : 0 ≤ r) (hr4 : r ≤ 4) (ho : DepAns p r ds) :
    Calls Try.prog 12 #[planV p va] w fun e w' => ∃ v, e = .returned v ∧ w'.ownsRow w.heap.size 3 1 v ds.length (intC ds) ∧ Below w.heap.size w w' := by
  by_cases h0 : r = 0
  · subst h0
    have hm := (fault_none hr).1
    have hn : p.tasks = (p.tasks.toNat : Int) := by have := hm.1; omega
    refine implDepth_good va ba p.tasks.toNat p ds w hA hr hn ?_
    rcases ho with ⟨h, _⟩ | ⟨_, h⟩
    · exact absurd rfl h
    · exact h
  · have h0' : (r != 0) = true := by simp [h0]
    have hout : ds = [] := by
      rcases ho with ⟨_, h⟩ | ⟨h, _⟩
      · exact h
      · exact absurd h h0
    subst hout
    have FT := fun (W' : World) (h : W'.ownsRow ba 69 2 va p.edges.length (edgesC p.edges)) => hide (implFault_is va ba p r W' h hl hr)
    obtain ⟨p1, p2, p3, p4, es⟩ := p
    dsimp only [planV] at hA FT hl ⊢
    obtain ⟨aa, ca, rfl, -⟩ := ownsRow_shape hA
    have HA := hide hA
    clear hr ho hA
    go_enter Try.func12, Try.ntmps12
    go_wp2_with fail
    refine (unhide (FT _ (((unhide HA).alloc _).alloc _))).mono ?_
    rintro e w1 ⟨rfl, hb1⟩
    have hB0 : Below w.heap.size w ((w.alloc (Obj.cells #[.int .i64 p1, .int .i64 p2, .int .i64 p3, .int .i64 p4, .slice aa es.length ca] 26)).alloc (Obj.cells #[] 3)) := ((Below.refl _ _).alloc (Nat.le_refl _) _).alloc (by simp) _
    have hB1 : Below w.heap.size w w1 := hB0.trans (hb1.mono hB0.size)
    have h := World.ownsRow_lit (base := w.heap.size) (e := 3) (size := 1) (w.alloc (Obj.cells #[.int .i64 p1, .int .i64 p2, .int .i64 p3, .int .i64 p4, .slice aa es.length ca] 26)) #[] 0 (by simp) (by decide) rfl
    rw [show (w.alloc (Obj.cells #[.int .i64 p1, .int .i64 p2, .int .i64 p3, .int .i64 p4, .slice aa es.length ca] 26)).heap.size = w.heap.size + 1 from by simp] at h
    have R1 := ownsRow_below h hb1
    clear FT HA hb1 h hB0
    go_wp2
    go_ret
    exact ⟨_, rfl, R1, hB1⟩
end Go.Proofs.Ytohibgdgncbcoaa
