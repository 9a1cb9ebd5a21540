/- The walk of the program's RunNew; what the program's functions of chapter 9 answer, in one form. -/
import Derived.Test.YtnpfboligmnhpaaImplRun1
import Derived.Test.YtnpfboligmnhpaaImplTin
import Derived.Test.YtnpfboligmnhpaaSpecRunX
import Derived.Deep.DeepCutAuto
namespace Go.Proofs.Ytnpfboligmnhpaa
open Go.RowKit
open scoped Classical
set_option linter.unusedVariables false
set_option linter.unusedSimpArgs false
attribute [local go_sem ↓] Go.wp_at_zero Go.wp_at_succ

/-- The plan as it came, and the answer, empty yet. -/
structure NB (w V : World) (p : PlanL) (va : Value) : Prop where
  bx : V.heap[w.heap.size]? = some (.cells #[.int .i64 p.prio, .int .i64 p.most, .int .i64 p.wait, .int .i64 p.tasks, va] 26 (0, 0))
  br : V.heap[w.heap.size + 1]? = some (.cells zeroR 29 (0, 0))
  below : Below w.heap.size w V
  sz : w.heap.size + 2 ≤ V.heap.size
theorem nb_below {w V V' : World} {p : PlanL} {va : Value} (h : NB w V p va) (hb : Below V.heap.size V V') : NB w V' p va :=
  ⟨heapLater hb h.bx, heapLater hb h.br, h.below.trans (hb.mono h.below.size), Nat.le_trans h.sz hb.size⟩
theorem nb_cells {w V : World} {p : PlanL} {va : Value} (h : NB w V p va) : V.cell? ⟨w.heap.size, 0, none⟩ = some (.int .i64 p.prio) ∧ V.cell? ⟨w.heap.size, 1, none⟩ = some (.int .i64 p.most) ∧ V.cell? ⟨w.heap.size, 2, none⟩ = some (.int .i64 p.wait) ∧ V.cell? ⟨w.heap.size, 3, none⟩ = some (.int .i64 p.tasks) ∧ V.cell? ⟨w.heap.size, 4, none⟩ = some va :=
  ⟨cellIn (i := 0) h.bx rfl, cellIn (i := 1) h.bx rfl, cellIn (i := 2) h.bx rfl, cellIn (i := 3) h.bx rfl, cellIn (i := 4) h.bx rfl⟩
/-- The run is laid into its variable. -/
theorem laid_new {w V : World} {o n : Nat} {vE vT va : Value} {id : Int} {p : PlanL} (h : NB w V p va) (hE : V.ownsRow (w.heap.size + 2) 96 2 vE p.edges.length (edgesC p.edges)) (hT : V.ownsRow (w.heap.size + 2) 40 4 vT n (quadsC (List.replicate n quad0))) (hO : V.heap[o]? = some (.cells zeroR 29 (0, 0))) (ho : w.heap.size + 2 ≤ o) :
    NB w (setMany V o [(0, .int .i64 id), (1, .int .i64 p.prio), (2, .int .i64 p.most), (3, .int .i64 p.wait), (4, .int .i64 p.tasks), (5, vE), (6, .int .i64 0), (7, vT)]) p va ∧
    RB (setMany V o [(0, .int .i64 id), (1, .int .i64 p.prio), (2, .int .i64 p.most), (3, .int .i64 p.wait), (4, .int .i64 p.tasks), (5, vE), (6, .int .i64 0), (7, vT)]) (w.heap.size + 2) o vE vT ⟨id, p, 0, List.replicate n quad0⟩ := by
  obtain ⟨h5, G⟩ := setMany_is [(0, .int .i64 id), (1, .int .i64 p.prio), (2, .int .i64 p.most), (3, .int .i64 p.wait), (4, .int .i64 p.tasks), (5, vE), (6, .int .i64 0), (7, vT)] V _ hO
  have hE2 := hE.kept G (far_run hE hO (by decide))
  have hT2 := hT.kept G (far_run hT hO (by decide))
  refine ⟨⟨heapBut G h.bx (by omega), heapBut G h.br (by omega), h.below.grown G h.below.size (fun j hj => by cases hj; omega), Nat.le_trans h.sz G.size⟩, ⟨?_, ⟨hE2, ?_⟩, ho, Nat.le_trans h.sz G.size⟩⟩
  · rw [h5]; unfold zeroR; rw [put8]; rfl
  · simpa using hT2
theorem made_tasks {V : World} {base n : Nat} {v : Value} (h : V.ownsRow base 40 4 v n (madeCells (Value.agg #[.int .i64 0, .int .i64 0, .int .i64 0, .int .i64 0]).cells (n * 4)).toList) : V.ownsRow base 40 4 v n (quadsC (List.replicate n quad0)) := by
  rw [← made_quads]
  have e := made_many2 #[.int .i64 0, .int .i64 0, .int .i64 0, .int .i64 0] n
  rw [← show #[Value.int .i64 0, .int .i64 0, .int .i64 0, .int .i64 0].toList = [Value.int .i64 0, .int .i64 0, .int .i64 0, .int .i64 0] from rfl, ← e]
  exact h
theorem rep_states {n : Nat} {p : PlanL} (hn : p.tasks = (n : Int)) (t : Nat) : needL (List.replicate n quad0) (befL p (t : Int)) = (befL p (t : Int)).length := by
  unfold needL
  rw [List.countP_eq_length]
  intro u hu
  have e : (List.replicate n quad0).getD u.toNat quad0 = quad0 := by
    rw [List.getD_eq_getElem?_getD, List.getElem?_replicate]
    split <;> rfl
  rw [e]; rfl
theorem newT_get (p : PlanL) (n t : Nat) (h : t < (newT p n).length) : (newT p n)[t] = newQ (befL p (t : Int)).length := by simp [newT]
theorem waitQ_new (m : Nat) : waitQ quad0 (m : Int) = newQ m := by
  unfold waitQ newQ
  by_cases h : m = 0
  · subst h; rfl
  · rw [if_neg (by omega), if_pos (by omega)]; rfl
theorem partQ_getD (es : List QuadL) (k : Nat) (h : k < es.length) : (partQ es k).getD k quad0 = quad0 := by
  unfold partQ
  rw [List.getD_eq_getElem?_getD, List.getElem?_append_right (by simp; omega), List.getElem?_replicate]
  split <;> rfl
set_option maxRecDepth 100000 in
set_option maxHeartbeats 6400000 in
theorem implRunNew_any (va : Value) (ba : Nat) (id : Int) (p : PlanL) (r2 : RunL) (ok : Bool) (hN : NewIs id p r2 ok) (w : World) (hA : w.ownsRow ba 96 2 va p.edges.length (edgesC p.edges)) (hl : p.edges.length ≤ 2000000) :
    Calls Try.prog 12 #[.int .i64 id, planV p va] w fun e w' => ∃ ve vt, e = .returned (.tuple #[runV r2 ve vt, .bool ok]) ∧ RunOwn w' w.heap.size ve vt r2 ∧ Below w.heap.size w w' := by
  obtain ⟨i0, hi0, hz0, hz1, hz2⟩ := info_parts infoTask
  have old : ∀ x, va.ownBlock = some x → x < w.heap.size := fun x hx => (hA.lt x hx).2
  obtain ⟨f, hf, f0, f4⟩ := fault_ex p
  have FT := fun (W' : World) (h : W'.ownsRow ba 96 2 va p.edges.length (edgesC p.edges)) => hide (implFault_is va ba p f W' h hl hf)
  have PC := fun (W' : World) (h : W'.ownsRow ba 96 2 va p.edges.length (edgesC p.edges)) => hide (implPCopy_any va ba p W' h hl)
  have DQ : Hid (((1 ≤ id ∧ id ≤ 9999) ∧ FaultIs p 0) ↔ ((1 ≤ id ∧ id ≤ 9999) ∧ f = 0)) := hide ⟨fun h => ⟨h.1, fault_one hf h.2⟩, fun h => ⟨h.1, h.2 ▸ hf⟩⟩
  have HN := hide hN
  unfold NewIs at HN
  clear hN
  obtain ⟨W, hW⟩ : ∃ W, W = (w.alloc (Obj.cells #[.int .i64 p.prio, .int .i64 p.most, .int .i64 p.wait, .int .i64 p.tasks, va] 26)).alloc (Obj.cells zeroR 29) := ⟨_, rfl⟩
  have hx : W.heap[w.heap.size]? = some (.cells #[.int .i64 p.prio, .int .i64 p.most, .int .i64 p.wait, .int .i64 p.tasks, va] 26 (0, 0)) := by rw [hW, Below.heap_alloc _ _ _ (by simp)]; exact heap_alloc_new _ _
  have hr : W.heap[w.heap.size + 1]? = some (.cells zeroR 29 (0, 0)) := by rw [hW]; exact allocAt _ _ _ (by simp)
  have hb0 : Below w.heap.size w W := by rw [hW]; exact ((Below.refl _ _).alloc (Nat.le_refl _) _).alloc (by simp) _
  have hsz : W.heap.size = w.heap.size + 2 := by rw [hW]; simp
  have HSZ := hide hsz
  clear hsz
  unfold zeroR at hW
  by_cases hid : 1 ≤ id ∧ id ≤ 9999
  · have IY := fun W => hide (wi_yes id 1 9999 W hid.1 hid.2)
    by_cases hf0 : f = 0
    · have HN2 := (unhide HN).1 ((unhide DQ).2 ⟨hid, hf0⟩)
      obtain ⟨rfl, rfl⟩ := HN2
      subst hf0
      have hm := (fault_none hf).1
      obtain ⟨n, hn⟩ : ∃ n : Nat, p.tasks = (n : Int) := ⟨p.tasks.toNat, by have := hm.1; omega⟩
      have hn12 : n ≤ 12 := by have := hm.2.1; omega
      have hin : ∀ e ∈ p.edges, edgeIn n e := fun e he => by have := (fault_none hf).2.1 e he; rwa [hn] at this
      have NT : Hid (∀ t : Nat, needT (List.replicate n quad0) p.edges t = (befL p (t : Int)).length) := hide (fun t => (needT_risen hn hin (fault_none hf).2.2.1 t).trans (rep_states hn t))
      have EL : Hid (∀ t : Nat, (befL p (t : Int)).length ≤ 12) := hide (fun t => by have := risen_len (fun b => hasE p.edges b (t : Int)) p.tasks.toNat; unfold befL; omega)
      have ND := fun (o : Nat) (vE vT : Value) (W' : World) (h : RB W' (w.heap.size + 2) o vE vT ⟨id, p, 1, List.replicate n quad0⟩) => hide (implNeeds_any vE vT (w.heap.size + 2) (w.heap.size + 2) n ⟨id, p, 1, List.replicate n quad0⟩ W' h.ow.edges h.ow.tasks hl (by simp) (by omega) hin)
      have RS := fun (o : Nat) (vE vT : Value) (W' : World) (h : RB W' (w.heap.size + 2) o vE vT ⟨id, p, 0, List.replicate n quad0⟩) => hide (rbecome_any (w.heap.size + 2) o vE vT ⟨id, p, 0, List.replicate n quad0⟩ 1 W' h)
      have TW := fun (o g k : Nat) (vE : Value) (ts : List QuadL) (nd : Int) (W' : World) (h : RB W' (w.heap.size + 2) o vE (.slice (some ⟨g, 0, none⟩) n n) ⟨id, p, 1, ts⟩) (hk : k < ts.length) => hide (twait_any (w.heap.size + 2) o g n n k vE ⟨id, p, 1, ts⟩ nd W' h hk)
      have ENEW : Hid (newR id p = ⟨id, p, 1, newT p n⟩) := hide (by unfold newR; rw [hn]; rfl)
      have NSL := hide (newT_len p n)
      have NG := hide (newT_get p n)
      obtain ⟨r2, hr2⟩ : ∃ r2, r2 = newR id p := ⟨_, rfl⟩
      rw [← hr2] at ENEW ⊢
      clear hr2 hm hf DQ HN hid hin
      have NB0 := hide (fun (W : World) => NB.mk (w := w) (V := W) (p := p) (va := va))
      obtain ⟨p1, p2, p3, p4, es⟩ := p
      dsimp only [planV] at hA FT PC hl NT EL ND RS TW hn hx hW ENEW NSL NG NB0 ⊢
      subst hn
      obtain ⟨aa, ca, rfl, -⟩ := ownsRow_shape hA
      have HA := hide hA
      clear hA
      go_enter Try.func12, Try.ntmps12
      go_wp2_with fail
      rw [← hW]
      clear hW
      refine (unhide (IY _)).mono ?_
      rintro e w1 ⟨rfl, hw1⟩
      rw [hw1]
      clear hw1 w1
      have c0 := cellIn (i := 0) hx rfl
      have c1 := cellIn (i := 1) hx rfl
      have c2 := cellIn (i := 2) hx rfl
      have c3 := cellIn (i := 3) hx rfl
      have c4 := cellIn (i := 4) hx rfl
      go_wp2_with fail
      refine (unhide (FT _ (ownsRow_below (unhide HA) hb0))).mono ?_
      rintro e w2 ⟨rfl, b2⟩
      clear c0 c1 c2 c3 c4
      have HS0 := hide (unhide NB0 w2 (heapLater b2 hx) (heapLater b2 hr) (hb0.trans (b2.mono hb0.size)) (by have := unhide HSZ; have := b2.size; omega))
      obtain ⟨c0, c1, c2, c3, c4⟩ := nb_cells (unhide HS0)
      dsimp only at c0 c1 c2 c3
      clear FT IY hx hr NB0 HSZ hb0 b2
      go_upto_region 3 with fail
      go_cut [6] from 18 to 24 (fun u wx => ∃ (o : Nat) (qe : Option Addr) (cap gT : Nat), u = .pointer (some ⟨o, 0, none⟩) ∧ wx.heap[w.heap.size + 1]? = some (.cells zeroR 29 (0, 0)) ∧ Below w.heap.size w wx ∧ RB wx (w.heap.size + 2) o (.slice qe es.length cap) (.slice (some ⟨gT, 0, none⟩) n n) ⟨id, ⟨p1, p2, p3, (n : Int), es⟩, 0, List.replicate n quad0⟩)
      case first =>
        clear ND RS TW NT EL ENEW NSL NG
        refine wp_region_held_drew (S := fun w' => w'.cell? ⟨w.heap.size, 0, none⟩ = some (.int .i64 p1) ∧ w'.cell? ⟨w.heap.size, 1, none⟩ = some (.int .i64 p2) ∧ w'.cell? ⟨w.heap.size, 2, none⟩ = some (.int .i64 p3) ∧ w'.cell? ⟨w.heap.size, 3, none⟩ = some (.int .i64 (n : Int)) ∧ w'.cell? ⟨w.heap.size, 4, none⟩ = some (.slice aa es.length ca)) (by kernel_rfl) ⟨c0, c1, c2, c3, c4⟩ (fun hS => ?_)
        obtain ⟨V0, hV0⟩ : ∃ V0, V0 = w2.drew := ⟨_, rfl⟩
        have HS := hide (show NB w V0 ⟨p1, p2, p3, (n : Int), es⟩ (.slice aa es.length ca) from nb_below (unhide HS0) (by rw [hV0]; exact (Below.refl _ _).drew))
        rw [← hV0] at hS ⊢
        clear hV0 c0 c1 c2 c3 c4 HS0
        refine wpAnyH_take (i := 0) (v := .int .i64 id) rfl (by kernel_rfl) (by kernel_rfl) (by kernel_rfl) (fun _ _ _ h => h) (Or.inl ⟨by kernel_rfl, fun w hSw => by (try dsimp only at hSw); go_split_ands; go_simp⟩) (by assumption) ?_
        simp only [Act.put, List.getElem_toArray, List.getElem_cons_zero, List.setIfInBounds_toArray, List.set_cons_zero, List.set_cons_succ]
        refine wpAnyH_take (i := 1) (v := .agg #[.int .i64 p1, .int .i64 p2, .int .i64 p3, .int .i64 (n : Int), .slice aa es.length ca]) rfl (by kernel_rfl) (by kernel_rfl) (by kernel_rfl) (fun _ _ _ h => h) (Or.inl ⟨by kernel_rfl, fun w hSw => by (try dsimp only at hSw); go_split_ands; go_simp⟩) (by assumption) ?_
        simp only [Act.put, List.getElem_toArray, List.getElem_cons_zero, List.getElem_cons_succ, List.setIfInBounds_toArray, List.set_cons_zero, List.set_cons_succ]
        refine wpAnyH_take (i := 3) (v := .pointer (some ⟨w.heap.size, 3, none⟩)) rfl (by kernel_rfl) (by kernel_rfl) (by kernel_rfl) (fun _ _ _ h => h) (Or.inl ⟨by kernel_rfl, fun w hSw => by (try dsimp only at hSw); go_split_ands; go_simp⟩) (by assumption) ?_
        simp only [Act.put, List.getElem_toArray, List.getElem_cons_zero, List.getElem_cons_succ, List.setIfInBounds_toArray, List.set_cons_zero, List.set_cons_succ]
        refine wpAnyH_take (i := 4) (v := .int .i64 (n : Int)) rfl (by kernel_rfl) (by kernel_rfl) (by kernel_rfl) (fun _ _ _ h => h) (Or.inl ⟨by kernel_rfl, fun w hSw => by (try dsimp only at hSw); go_split_ands; go_simp⟩) (by assumption) ?_
        simp only [Act.put, List.getElem_toArray, List.getElem_cons_zero, List.getElem_cons_succ, List.setIfInBounds_toArray, List.set_cons_zero, List.set_cons_succ]
        refine wpAnyH_ready (rs := [2, 5, 7]) (by kernel_rfl) (by simp) ?_
        refine (AllReadyH.cons (i := 2) rfl (fun K hK => ?_) (AllReadyH.cons (i := 5) rfl (fun K hK => ?_) (AllReadyH.cons (i := 7) rfl (fun K hK => ?_) AllReadyH.nil)))
        · go_simp
          refine (unhide (PC _ (ownsRow_below (unhide HA) (unhide HS).below))).mono ?_
          rintro e V1 ⟨qe, cap, rfl, oC, hbV⟩
          go_wp2_with fail
          have oC2 := hide (ownsRow_baseT oC (unhide HS).sz)
          have HS2 := hide (nb_below (unhide HS) hbV)
          refine hK.out _ _ (nb_cells (unhide HS2)) (fun hS => ?_)
          have HS := HS2
          clear hK hbV oC
          refine wpAnyH_ready (rs := [5, 7]) (by kernel_rfl) (by simp) ?_
          refine (AllReadyH.cons (i := 5) rfl (fun K hK => ?_) (AllReadyH.cons (i := 7) rfl (fun K hK => ?_) AllReadyH.nil))
          · obtain ⟨V2, hrun, oM, gM⟩ := run_make_full (P := Try.prog) (w := V1) (w.heap.size + 2) 27 40 i0 _ 4 Try.underlying27 hi0 hz0 hz1 .i64 .i64 n (by rw [hz2]; omega) (by unfold maxLen; omega) (unhide HS).sz
            have hbV : Below V1.heap.size V1 V2 := (Below.refl _ _).grown gM (Nat.le_refl _) (fun k hk => by cases hk)
            go_simp
            have oM2 := hide (made_tasks oM)
            have HS2 := hide (nb_below (unhide HS) hbV)
            have oC2 := hide (ownsRow_below (unhide oC2) hbV)
            refine hK.out _ _ (nb_cells (unhide HS2)) (fun hS => ?_)
            have HS := HS2
            clear hK hbV oM gM hrun
            generalize V1.heap.size = gT at oM2 ⊢
            refine wpAnyH_take (i := 6) (v := .agg #[.int .i64 id, .int .i64 p1, .int .i64 p2, .int .i64 p3, .int .i64 (n : Int), .slice qe es.length cap, .int .i64 0, .slice (some ⟨gT, 0, none⟩) n n]) rfl (by kernel_rfl) (by kernel_rfl) (by kernel_rfl) (fun _ _ _ h => h) (Or.inl ⟨by kernel_rfl, fun w hSw => by (try dsimp only at hSw); go_split_ands; go_simp⟩) (by assumption) ?_
            simp only [Act.put, List.getElem_toArray, List.getElem_cons_zero, List.getElem_cons_succ, List.setIfInBounds_toArray, List.set_cons_zero, List.set_cons_succ]
            refine wpAnyH_ready (rs := [7]) (by kernel_rfl) (by simp) ?_
            refine (AllReadyH.cons (i := 7) rfl (fun K hK => ?_) AllReadyH.nil)
            · go_simp
              obtain ⟨V3, hVn⟩ : ∃ V, V = V2.alloc (Obj.cells #[.int .i64 0, .int .i64 0, .int .i64 0, .int .i64 0, .int .i64 0, .slice none 0 0, .int .i64 0, .slice none 0 0] 29) := ⟨_, rfl⟩
              have hf : V3.heap[V2.heap.size]? = some (.cells zeroR 29 (0, 0)) := by rw [hVn]; exact heap_alloc_new _ _
              have hbV : Below V2.heap.size V2 V3 := by rw [hVn]; exact (Below.refl _ _).alloc (Nat.le_refl _) _
              have ho := (unhide HS).sz
              rw [← hVn]
              clear hVn
              have HS2 := hide (nb_below (unhide HS) hbV)
              have oC2 := hide (ownsRow_below (unhide oC2) hbV)
              have oM2 := hide (ownsRow_below (unhide oM2) hbV)
              refine hK.out _ _ (nb_cells (unhide HS2)) (fun hS => ?_)
              have HS := HS2
              clear hK hbV
              generalize V2.heap.size = o at hf ho ⊢
              have HO := hide (And.intro hf ho)
              clear hf ho
              refine wpAnyH_ready (rs := [8]) (by kernel_rfl) (by simp) ?_
              refine AllReadyH.cons (i := 8) rfl (fun K hK => ?_) AllReadyH.nil
              obtain ⟨N1, N2⟩ := laid_new (id := id) (unhide HS) (unhide oC2) (unhide oM2) (unhide HO).1 (unhide HO).2
              have hz := (unhide HO).1
              unfold zeroR at hz
              have z0 := cellIn (i := 0) hz rfl
              have u0 := softIn (i := 0) hz
              have z1 := cellIn (i := 1) hz rfl
              have u1 := softIn (i := 1) hz
              have z2 := cellIn (i := 2) hz rfl
              have u2 := softIn (i := 2) hz
              have z3 := cellIn (i := 3) hz rfl
              have u3 := softIn (i := 3) hz
              have z4 := cellIn (i := 4) hz rfl
              have u4 := softIn (i := 4) hz
              have z5 := cellIn (i := 5) hz rfl
              have u5 := softIn (i := 5) hz
              have z6 := cellIn (i := 6) hz rfl
              have u6 := softIn (i := 6) hz
              have z7 := cellIn (i := 7) hz rfl
              have u7 := softIn (i := 7) hz
              dsimp only at N1 N2
              obtain ⟨V9, hV9⟩ : ∃ V9, V9 = setMany V3 o [(0, .int .i64 id), (1, .int .i64 p1), (2, .int .i64 p2), (3, .int .i64 p3), (4, .int .i64 (n : Int)), (5, .slice qe es.length cap), (6, .int .i64 0), (7, .slice (some ⟨gT, 0, none⟩) n n)] := ⟨_, rfl⟩
              rw [← hV9] at N1 N2
              have eW : ((((((((V3).setCell ⟨o, 0, none⟩ (.int .i64 id)).setCell ⟨o, 1, none⟩ (.int .i64 p1)).setCell ⟨o, 2, none⟩ (.int .i64 p2)).setCell ⟨o, 3, none⟩ (.int .i64 p3)).setCell ⟨o, 4, none⟩ (.int .i64 (n : Int))).setCell ⟨o, 5, none⟩ (.slice qe es.length cap)).setCell ⟨o, 6, none⟩ (.int .i64 0)).setCell ⟨o, 7, none⟩ (.slice (some ⟨gT, 0, none⟩) n n) = V9 := by rw [hV9]; simp only [setMany]
              have EW := hide eW
              have N1 := hide N1
              have N2 := hide N2
              clear eW hV9 hz
              go_simp
              rw [unhide EW]
              refine hK.out _ _ (nb_cells (unhide N1)) (fun hS => ?_)
              clear hK z0 u0 z1 u1 z2 u2 z3 u3 z4 u4 z5 u5 z6 u6 z7 u7
              refine wpAnyH_done (by kernel_rfl) ?_ _
              go_wp2_with fail
              go_meet
              exact ⟨o, qe, cap, gT, rfl, (unhide N1).br, (unhide N1).below, unhide N2⟩
          · go_simp
            obtain ⟨V4, hVn⟩ : ∃ V, V = V1.alloc (Obj.cells #[.int .i64 0, .int .i64 0, .int .i64 0, .int .i64 0, .int .i64 0, .slice none 0 0, .int .i64 0, .slice none 0 0] 29) := ⟨_, rfl⟩
            have hf : V4.heap[V1.heap.size]? = some (.cells zeroR 29 (0, 0)) := by rw [hVn]; exact heap_alloc_new _ _
            have hbV : Below V1.heap.size V1 V4 := by rw [hVn]; exact (Below.refl _ _).alloc (Nat.le_refl _) _
            have ho := (unhide HS).sz
            rw [← hVn]
            clear hVn
            have HS2 := hide (nb_below (unhide HS) hbV)
            have oC2 := hide (ownsRow_below (unhide oC2) hbV)
            refine hK.out _ _ (nb_cells (unhide HS2)) (fun hS => ?_)
            have HS := HS2
            clear hK hbV
            generalize V1.heap.size = o at hf ho ⊢
            have HO := hide (And.intro hf ho)
            clear hf ho
            refine wpAnyH_ready (rs := [5]) (by kernel_rfl) (by simp) ?_
            refine (AllReadyH.cons (i := 5) rfl (fun K hK => ?_) AllReadyH.nil)
            · obtain ⟨V5, hrun, oM, gM⟩ := run_make_full (P := Try.prog) (w := V4) (w.heap.size + 2) 27 40 i0 _ 4 Try.underlying27 hi0 hz0 hz1 .i64 .i64 n (by rw [hz2]; omega) (by unfold maxLen; omega) (unhide HS).sz
              have hbV : Below V4.heap.size V4 V5 := (Below.refl _ _).grown gM (Nat.le_refl _) (fun k hk => by cases hk)
              go_simp
              have oM2 := hide (made_tasks oM)
              have HS2 := hide (nb_below (unhide HS) hbV)
              have oC2 := hide (ownsRow_below (unhide oC2) hbV)
              have HO := hide (And.intro (heapLater hbV (unhide HO).1) (unhide HO).2)
              refine hK.out _ _ (nb_cells (unhide HS2)) (fun hS => ?_)
              have HS := HS2
              clear hK hbV oM gM hrun
              generalize V4.heap.size = gT at oM2 ⊢
              refine wpAnyH_take (i := 6) (v := .agg #[.int .i64 id, .int .i64 p1, .int .i64 p2, .int .i64 p3, .int .i64 (n : Int), .slice qe es.length cap, .int .i64 0, .slice (some ⟨gT, 0, none⟩) n n]) rfl (by kernel_rfl) (by kernel_rfl) (by kernel_rfl) (fun _ _ _ h => h) (Or.inl ⟨by kernel_rfl, fun w hSw => by (try dsimp only at hSw); go_split_ands; go_simp⟩) (by assumption) ?_
              simp only [Act.put, List.getElem_toArray, List.getElem_cons_zero, List.getElem_cons_succ, List.setIfInBounds_toArray, List.set_cons_zero, List.set_cons_succ]
              refine wpAnyH_ready (rs := [8]) (by kernel_rfl) (by simp) ?_
              refine AllReadyH.cons (i := 8) rfl (fun K hK => ?_) AllReadyH.nil
              obtain ⟨N1, N2⟩ := laid_new (id := id) (unhide HS) (unhide oC2) (unhide oM2) (unhide HO).1 (unhide HO).2
              have hz := (unhide HO).1
              unfold zeroR at hz
              have z0 := cellIn (i := 0) hz rfl
              have u0 := softIn (i := 0) hz
              have z1 := cellIn (i := 1) hz rfl
              have u1 := softIn (i := 1) hz
              have z2 := cellIn (i := 2) hz rfl
              have u2 := softIn (i := 2) hz
              have z3 := cellIn (i := 3) hz rfl
              have u3 := softIn (i := 3) hz
              have z4 := cellIn (i := 4) hz rfl
              have u4 := softIn (i := 4) hz
              have z5 := cellIn (i := 5) hz rfl
              have u5 := softIn (i := 5) hz
              have z6 := cellIn (i := 6) hz rfl
              have u6 := softIn (i := 6) hz
              have z7 := cellIn (i := 7) hz rfl
              have u7 := softIn (i := 7) hz
              dsimp only at N1 N2
              obtain ⟨V9, hV9⟩ : ∃ V9, V9 = setMany V5 o [(0, .int .i64 id), (1, .int .i64 p1), (2, .int .i64 p2), (3, .int .i64 p3), (4, .int .i64 (n : Int)), (5, .slice qe es.length cap), (6, .int .i64 0), (7, .slice (some ⟨gT, 0, none⟩) n n)] := ⟨_, rfl⟩
              rw [← hV9] at N1 N2
              have eW : ((((((((V5).setCell ⟨o, 0, none⟩ (.int .i64 id)).setCell ⟨o, 1, none⟩ (.int .i64 p1)).setCell ⟨o, 2, none⟩ (.int .i64 p2)).setCell ⟨o, 3, none⟩ (.int .i64 p3)).setCell ⟨o, 4, none⟩ (.int .i64 (n : Int))).setCell ⟨o, 5, none⟩ (.slice qe es.length cap)).setCell ⟨o, 6, none⟩ (.int .i64 0)).setCell ⟨o, 7, none⟩ (.slice (some ⟨gT, 0, none⟩) n n) = V9 := by rw [hV9]; simp only [setMany]
              have EW := hide eW
              have N1 := hide N1
              have N2 := hide N2
              clear eW hV9 hz
              go_simp
              rw [unhide EW]
              refine hK.out _ _ (nb_cells (unhide N1)) (fun hS => ?_)
              clear hK z0 u0 z1 u1 z2 u2 z3 u3 z4 u4 z5 u5 z6 u6 z7 u7
              refine wpAnyH_done (by kernel_rfl) ?_ _
              go_wp2_with fail
              go_meet
              exact ⟨o, qe, cap, gT, rfl, (unhide N1).br, (unhide N1).below, unhide N2⟩
        · obtain ⟨V6, hrun, oM, gM⟩ := run_make_full (P := Try.prog) (w := V0) (w.heap.size + 2) 27 40 i0 _ 4 Try.underlying27 hi0 hz0 hz1 .i64 .i64 n (by rw [hz2]; omega) (by unfold maxLen; omega) (unhide HS).sz
          have hbV : Below V0.heap.size V0 V6 := (Below.refl _ _).grown gM (Nat.le_refl _) (fun k hk => by cases hk)
          go_simp
          have oM2 := hide (made_tasks oM)
          have HS2 := hide (nb_below (unhide HS) hbV)
          refine hK.out _ _ (nb_cells (unhide HS2)) (fun hS => ?_)
          have HS := HS2
          clear hK hbV oM gM hrun
          generalize V0.heap.size = gT at oM2 ⊢
          refine wpAnyH_ready (rs := [2, 7]) (by kernel_rfl) (by simp) ?_
          refine (AllReadyH.cons (i := 2) rfl (fun K hK => ?_) (AllReadyH.cons (i := 7) rfl (fun K hK => ?_) AllReadyH.nil))
          · go_simp
            refine (unhide (PC _ (ownsRow_below (unhide HA) (unhide HS).below))).mono ?_
            rintro e V7 ⟨qe, cap, rfl, oC, hbV⟩
            go_wp2_with fail
            have oC2 := hide (ownsRow_baseT oC (unhide HS).sz)
            have HS2 := hide (nb_below (unhide HS) hbV)
            have oM2 := hide (ownsRow_below (unhide oM2) hbV)
            refine hK.out _ _ (nb_cells (unhide HS2)) (fun hS => ?_)
            have HS := HS2
            clear hK hbV oC
            refine wpAnyH_take (i := 6) (v := .agg #[.int .i64 id, .int .i64 p1, .int .i64 p2, .int .i64 p3, .int .i64 (n : Int), .slice qe es.length cap, .int .i64 0, .slice (some ⟨gT, 0, none⟩) n n]) rfl (by kernel_rfl) (by kernel_rfl) (by kernel_rfl) (fun _ _ _ h => h) (Or.inl ⟨by kernel_rfl, fun w hSw => by (try dsimp only at hSw); go_split_ands; go_simp⟩) (by assumption) ?_
            simp only [Act.put, List.getElem_toArray, List.getElem_cons_zero, List.getElem_cons_succ, List.setIfInBounds_toArray, List.set_cons_zero, List.set_cons_succ]
            refine wpAnyH_ready (rs := [7]) (by kernel_rfl) (by simp) ?_
            refine (AllReadyH.cons (i := 7) rfl (fun K hK => ?_) AllReadyH.nil)
            · go_simp
              obtain ⟨V8, hVn⟩ : ∃ V, V = V7.alloc (Obj.cells #[.int .i64 0, .int .i64 0, .int .i64 0, .int .i64 0, .int .i64 0, .slice none 0 0, .int .i64 0, .slice none 0 0] 29) := ⟨_, rfl⟩
              have hf : V8.heap[V7.heap.size]? = some (.cells zeroR 29 (0, 0)) := by rw [hVn]; exact heap_alloc_new _ _
              have hbV : Below V7.heap.size V7 V8 := by rw [hVn]; exact (Below.refl _ _).alloc (Nat.le_refl _) _
              have ho := (unhide HS).sz
              rw [← hVn]
              clear hVn
              have HS2 := hide (nb_below (unhide HS) hbV)
              have oC2 := hide (ownsRow_below (unhide oC2) hbV)
              have oM2 := hide (ownsRow_below (unhide oM2) hbV)
              refine hK.out _ _ (nb_cells (unhide HS2)) (fun hS => ?_)
              have HS := HS2
              clear hK hbV
              generalize V7.heap.size = o at hf ho ⊢
              have HO := hide (And.intro hf ho)
              clear hf ho
              refine wpAnyH_ready (rs := [8]) (by kernel_rfl) (by simp) ?_
              refine AllReadyH.cons (i := 8) rfl (fun K hK => ?_) AllReadyH.nil
              obtain ⟨N1, N2⟩ := laid_new (id := id) (unhide HS) (unhide oC2) (unhide oM2) (unhide HO).1 (unhide HO).2
              have hz := (unhide HO).1
              unfold zeroR at hz
              have z0 := cellIn (i := 0) hz rfl
              have u0 := softIn (i := 0) hz
              have z1 := cellIn (i := 1) hz rfl
              have u1 := softIn (i := 1) hz
              have z2 := cellIn (i := 2) hz rfl
              have u2 := softIn (i := 2) hz
              have z3 := cellIn (i := 3) hz rfl
              have u3 := softIn (i := 3) hz
              have z4 := cellIn (i := 4) hz rfl
              have u4 := softIn (i := 4) hz
              have z5 := cellIn (i := 5) hz rfl
              have u5 := softIn (i := 5) hz
              have z6 := cellIn (i := 6) hz rfl
              have u6 := softIn (i := 6) hz
              have z7 := cellIn (i := 7) hz rfl
              have u7 := softIn (i := 7) hz
              dsimp only at N1 N2
              obtain ⟨V9, hV9⟩ : ∃ V9, V9 = setMany V8 o [(0, .int .i64 id), (1, .int .i64 p1), (2, .int .i64 p2), (3, .int .i64 p3), (4, .int .i64 (n : Int)), (5, .slice qe es.length cap), (6, .int .i64 0), (7, .slice (some ⟨gT, 0, none⟩) n n)] := ⟨_, rfl⟩
              rw [← hV9] at N1 N2
              have eW : ((((((((V8).setCell ⟨o, 0, none⟩ (.int .i64 id)).setCell ⟨o, 1, none⟩ (.int .i64 p1)).setCell ⟨o, 2, none⟩ (.int .i64 p2)).setCell ⟨o, 3, none⟩ (.int .i64 p3)).setCell ⟨o, 4, none⟩ (.int .i64 (n : Int))).setCell ⟨o, 5, none⟩ (.slice qe es.length cap)).setCell ⟨o, 6, none⟩ (.int .i64 0)).setCell ⟨o, 7, none⟩ (.slice (some ⟨gT, 0, none⟩) n n) = V9 := by rw [hV9]; simp only [setMany]
              have EW := hide eW
              have N1 := hide N1
              have N2 := hide N2
              clear eW hV9 hz
              go_simp
              rw [unhide EW]
              refine hK.out _ _ (nb_cells (unhide N1)) (fun hS => ?_)
              clear hK z0 u0 z1 u1 z2 u2 z3 u3 z4 u4 z5 u5 z6 u6 z7 u7
              refine wpAnyH_done (by kernel_rfl) ?_ _
              go_wp2_with fail
              go_meet
              exact ⟨o, qe, cap, gT, rfl, (unhide N1).br, (unhide N1).below, unhide N2⟩
          · go_simp
            obtain ⟨V9, hVn⟩ : ∃ V, V = V6.alloc (Obj.cells #[.int .i64 0, .int .i64 0, .int .i64 0, .int .i64 0, .int .i64 0, .slice none 0 0, .int .i64 0, .slice none 0 0] 29) := ⟨_, rfl⟩
            have hf : V9.heap[V6.heap.size]? = some (.cells zeroR 29 (0, 0)) := by rw [hVn]; exact heap_alloc_new _ _
            have hbV : Below V6.heap.size V6 V9 := by rw [hVn]; exact (Below.refl _ _).alloc (Nat.le_refl _) _
            have ho := (unhide HS).sz
            rw [← hVn]
            clear hVn
            have HS2 := hide (nb_below (unhide HS) hbV)
            have oM2 := hide (ownsRow_below (unhide oM2) hbV)
            refine hK.out _ _ (nb_cells (unhide HS2)) (fun hS => ?_)
            have HS := HS2
            clear hK hbV
            generalize V6.heap.size = o at hf ho ⊢
            have HO := hide (And.intro hf ho)
            clear hf ho
            refine wpAnyH_ready (rs := [2]) (by kernel_rfl) (by simp) ?_
            refine (AllReadyH.cons (i := 2) rfl (fun K hK => ?_) AllReadyH.nil)
            · go_simp
              refine (unhide (PC _ (ownsRow_below (unhide HA) (unhide HS).below))).mono ?_
              rintro e V10 ⟨qe, cap, rfl, oC, hbV⟩
              go_wp2_with fail
              have oC2 := hide (ownsRow_baseT oC (unhide HS).sz)
              have HS2 := hide (nb_below (unhide HS) hbV)
              have oM2 := hide (ownsRow_below (unhide oM2) hbV)
              have HO := hide (And.intro (heapLater hbV (unhide HO).1) (unhide HO).2)
              refine hK.out _ _ (nb_cells (unhide HS2)) (fun hS => ?_)
              have HS := HS2
              clear hK hbV oC
              refine wpAnyH_take (i := 6) (v := .agg #[.int .i64 id, .int .i64 p1, .int .i64 p2, .int .i64 p3, .int .i64 (n : Int), .slice qe es.length cap, .int .i64 0, .slice (some ⟨gT, 0, none⟩) n n]) rfl (by kernel_rfl) (by kernel_rfl) (by kernel_rfl) (fun _ _ _ h => h) (Or.inl ⟨by kernel_rfl, fun w hSw => by (try dsimp only at hSw); go_split_ands; go_simp⟩) (by assumption) ?_
              simp only [Act.put, List.getElem_toArray, List.getElem_cons_zero, List.getElem_cons_succ, List.setIfInBounds_toArray, List.set_cons_zero, List.set_cons_succ]
              refine wpAnyH_ready (rs := [8]) (by kernel_rfl) (by simp) ?_
              refine AllReadyH.cons (i := 8) rfl (fun K hK => ?_) AllReadyH.nil
              obtain ⟨N1, N2⟩ := laid_new (id := id) (unhide HS) (unhide oC2) (unhide oM2) (unhide HO).1 (unhide HO).2
              have hz := (unhide HO).1
              unfold zeroR at hz
              have z0 := cellIn (i := 0) hz rfl
              have u0 := softIn (i := 0) hz
              have z1 := cellIn (i := 1) hz rfl
              have u1 := softIn (i := 1) hz
              have z2 := cellIn (i := 2) hz rfl
              have u2 := softIn (i := 2) hz
              have z3 := cellIn (i := 3) hz rfl
              have u3 := softIn (i := 3) hz
              have z4 := cellIn (i := 4) hz rfl
              have u4 := softIn (i := 4) hz
              have z5 := cellIn (i := 5) hz rfl
              have u5 := softIn (i := 5) hz
              have z6 := cellIn (i := 6) hz rfl
              have u6 := softIn (i := 6) hz
              have z7 := cellIn (i := 7) hz rfl
              have u7 := softIn (i := 7) hz
              dsimp only at N1 N2
              obtain ⟨V9, hV9⟩ : ∃ V9, V9 = setMany V10 o [(0, .int .i64 id), (1, .int .i64 p1), (2, .int .i64 p2), (3, .int .i64 p3), (4, .int .i64 (n : Int)), (5, .slice qe es.length cap), (6, .int .i64 0), (7, .slice (some ⟨gT, 0, none⟩) n n)] := ⟨_, rfl⟩
              rw [← hV9] at N1 N2
              have eW : ((((((((V10).setCell ⟨o, 0, none⟩ (.int .i64 id)).setCell ⟨o, 1, none⟩ (.int .i64 p1)).setCell ⟨o, 2, none⟩ (.int .i64 p2)).setCell ⟨o, 3, none⟩ (.int .i64 p3)).setCell ⟨o, 4, none⟩ (.int .i64 (n : Int))).setCell ⟨o, 5, none⟩ (.slice qe es.length cap)).setCell ⟨o, 6, none⟩ (.int .i64 0)).setCell ⟨o, 7, none⟩ (.slice (some ⟨gT, 0, none⟩) n n) = V9 := by rw [hV9]; simp only [setMany]
              have EW := hide eW
              have N1 := hide N1
              have N2 := hide N2
              clear eW hV9 hz
              go_simp
              rw [unhide EW]
              refine hK.out _ _ (nb_cells (unhide N1)) (fun hS => ?_)
              clear hK z0 u0 z1 u1 z2 u2 z3 u3 z4 u4 z5 u5 z6 u6 z7 u7
              refine wpAnyH_done (by kernel_rfl) ?_ _
              go_wp2_with fail
              go_meet
              exact ⟨o, qe, cap, gT, rfl, (unhide N1).br, (unhide N1).below, unhide N2⟩
        · go_simp
          obtain ⟨V11, hVn⟩ : ∃ V, V = V0.alloc (Obj.cells #[.int .i64 0, .int .i64 0, .int .i64 0, .int .i64 0, .int .i64 0, .slice none 0 0, .int .i64 0, .slice none 0 0] 29) := ⟨_, rfl⟩
          have hf : V11.heap[V0.heap.size]? = some (.cells zeroR 29 (0, 0)) := by rw [hVn]; exact heap_alloc_new _ _
          have hbV : Below V0.heap.size V0 V11 := by rw [hVn]; exact (Below.refl _ _).alloc (Nat.le_refl _) _
          have ho := (unhide HS).sz
          rw [← hVn]
          clear hVn
          have HS2 := hide (nb_below (unhide HS) hbV)
          refine hK.out _ _ (nb_cells (unhide HS2)) (fun hS => ?_)
          have HS := HS2
          clear hK hbV
          generalize V0.heap.size = o at hf ho ⊢
          have HO := hide (And.intro hf ho)
          clear hf ho
          refine wpAnyH_ready (rs := [2, 5]) (by kernel_rfl) (by simp) ?_
          refine (AllReadyH.cons (i := 2) rfl (fun K hK => ?_) (AllReadyH.cons (i := 5) rfl (fun K hK => ?_) AllReadyH.nil))
          · go_simp
            refine (unhide (PC _ (ownsRow_below (unhide HA) (unhide HS).below))).mono ?_
            rintro e V12 ⟨qe, cap, rfl, oC, hbV⟩
            go_wp2_with fail
            have oC2 := hide (ownsRow_baseT oC (unhide HS).sz)
            have HS2 := hide (nb_below (unhide HS) hbV)
            have HO := hide (And.intro (heapLater hbV (unhide HO).1) (unhide HO).2)
            refine hK.out _ _ (nb_cells (unhide HS2)) (fun hS => ?_)
            have HS := HS2
            clear hK hbV oC
            refine wpAnyH_ready (rs := [5]) (by kernel_rfl) (by simp) ?_
            refine (AllReadyH.cons (i := 5) rfl (fun K hK => ?_) AllReadyH.nil)
            · obtain ⟨V13, hrun, oM, gM⟩ := run_make_full (P := Try.prog) (w := V12) (w.heap.size + 2) 27 40 i0 _ 4 Try.underlying27 hi0 hz0 hz1 .i64 .i64 n (by rw [hz2]; omega) (by unfold maxLen; omega) (unhide HS).sz
              have hbV : Below V12.heap.size V12 V13 := (Below.refl _ _).grown gM (Nat.le_refl _) (fun k hk => by cases hk)
              go_simp
              have oM2 := hide (made_tasks oM)
              have HS2 := hide (nb_below (unhide HS) hbV)
              have oC2 := hide (ownsRow_below (unhide oC2) hbV)
              have HO := hide (And.intro (heapLater hbV (unhide HO).1) (unhide HO).2)
              refine hK.out _ _ (nb_cells (unhide HS2)) (fun hS => ?_)
              have HS := HS2
              clear hK hbV oM gM hrun
              generalize V12.heap.size = gT at oM2 ⊢
              refine wpAnyH_take (i := 6) (v := .agg #[.int .i64 id, .int .i64 p1, .int .i64 p2, .int .i64 p3, .int .i64 (n : Int), .slice qe es.length cap, .int .i64 0, .slice (some ⟨gT, 0, none⟩) n n]) rfl (by kernel_rfl) (by kernel_rfl) (by kernel_rfl) (fun _ _ _ h => h) (Or.inl ⟨by kernel_rfl, fun w hSw => by (try dsimp only at hSw); go_split_ands; go_simp⟩) (by assumption) ?_
              simp only [Act.put, List.getElem_toArray, List.getElem_cons_zero, List.getElem_cons_succ, List.setIfInBounds_toArray, List.set_cons_zero, List.set_cons_succ]
              refine wpAnyH_ready (rs := [8]) (by kernel_rfl) (by simp) ?_
              refine AllReadyH.cons (i := 8) rfl (fun K hK => ?_) AllReadyH.nil
              obtain ⟨N1, N2⟩ := laid_new (id := id) (unhide HS) (unhide oC2) (unhide oM2) (unhide HO).1 (unhide HO).2
              have hz := (unhide HO).1
              unfold zeroR at hz
              have z0 := cellIn (i := 0) hz rfl
              have u0 := softIn (i := 0) hz
              have z1 := cellIn (i := 1) hz rfl
              have u1 := softIn (i := 1) hz
              have z2 := cellIn (i := 2) hz rfl
              have u2 := softIn (i := 2) hz
              have z3 := cellIn (i := 3) hz rfl
              have u3 := softIn (i := 3) hz
              have z4 := cellIn (i := 4) hz rfl
              have u4 := softIn (i := 4) hz
              have z5 := cellIn (i := 5) hz rfl
              have u5 := softIn (i := 5) hz
              have z6 := cellIn (i := 6) hz rfl
              have u6 := softIn (i := 6) hz
              have z7 := cellIn (i := 7) hz rfl
              have u7 := softIn (i := 7) hz
              dsimp only at N1 N2
              obtain ⟨V9, hV9⟩ : ∃ V9, V9 = setMany V13 o [(0, .int .i64 id), (1, .int .i64 p1), (2, .int .i64 p2), (3, .int .i64 p3), (4, .int .i64 (n : Int)), (5, .slice qe es.length cap), (6, .int .i64 0), (7, .slice (some ⟨gT, 0, none⟩) n n)] := ⟨_, rfl⟩
              rw [← hV9] at N1 N2
              have eW : ((((((((V13).setCell ⟨o, 0, none⟩ (.int .i64 id)).setCell ⟨o, 1, none⟩ (.int .i64 p1)).setCell ⟨o, 2, none⟩ (.int .i64 p2)).setCell ⟨o, 3, none⟩ (.int .i64 p3)).setCell ⟨o, 4, none⟩ (.int .i64 (n : Int))).setCell ⟨o, 5, none⟩ (.slice qe es.length cap)).setCell ⟨o, 6, none⟩ (.int .i64 0)).setCell ⟨o, 7, none⟩ (.slice (some ⟨gT, 0, none⟩) n n) = V9 := by rw [hV9]; simp only [setMany]
              have EW := hide eW
              have N1 := hide N1
              have N2 := hide N2
              clear eW hV9 hz
              go_simp
              rw [unhide EW]
              refine hK.out _ _ (nb_cells (unhide N1)) (fun hS => ?_)
              clear hK z0 u0 z1 u1 z2 u2 z3 u3 z4 u4 z5 u5 z6 u6 z7 u7
              refine wpAnyH_done (by kernel_rfl) ?_ _
              go_wp2_with fail
              go_meet
              exact ⟨o, qe, cap, gT, rfl, (unhide N1).br, (unhide N1).below, unhide N2⟩
          · obtain ⟨V14, hrun, oM, gM⟩ := run_make_full (P := Try.prog) (w := V11) (w.heap.size + 2) 27 40 i0 _ 4 Try.underlying27 hi0 hz0 hz1 .i64 .i64 n (by rw [hz2]; omega) (by unfold maxLen; omega) (unhide HS).sz
            have hbV : Below V11.heap.size V11 V14 := (Below.refl _ _).grown gM (Nat.le_refl _) (fun k hk => by cases hk)
            go_simp
            have oM2 := hide (made_tasks oM)
            have HS2 := hide (nb_below (unhide HS) hbV)
            have HO := hide (And.intro (heapLater hbV (unhide HO).1) (unhide HO).2)
            refine hK.out _ _ (nb_cells (unhide HS2)) (fun hS => ?_)
            have HS := HS2
            clear hK hbV oM gM hrun
            generalize V11.heap.size = gT at oM2 ⊢
            refine wpAnyH_ready (rs := [2]) (by kernel_rfl) (by simp) ?_
            refine (AllReadyH.cons (i := 2) rfl (fun K hK => ?_) AllReadyH.nil)
            · go_simp
              refine (unhide (PC _ (ownsRow_below (unhide HA) (unhide HS).below))).mono ?_
              rintro e V15 ⟨qe, cap, rfl, oC, hbV⟩
              go_wp2_with fail
              have oC2 := hide (ownsRow_baseT oC (unhide HS).sz)
              have HS2 := hide (nb_below (unhide HS) hbV)
              have oM2 := hide (ownsRow_below (unhide oM2) hbV)
              have HO := hide (And.intro (heapLater hbV (unhide HO).1) (unhide HO).2)
              refine hK.out _ _ (nb_cells (unhide HS2)) (fun hS => ?_)
              have HS := HS2
              clear hK hbV oC
              refine wpAnyH_take (i := 6) (v := .agg #[.int .i64 id, .int .i64 p1, .int .i64 p2, .int .i64 p3, .int .i64 (n : Int), .slice qe es.length cap, .int .i64 0, .slice (some ⟨gT, 0, none⟩) n n]) rfl (by kernel_rfl) (by kernel_rfl) (by kernel_rfl) (fun _ _ _ h => h) (Or.inl ⟨by kernel_rfl, fun w hSw => by (try dsimp only at hSw); go_split_ands; go_simp⟩) (by assumption) ?_
              simp only [Act.put, List.getElem_toArray, List.getElem_cons_zero, List.getElem_cons_succ, List.setIfInBounds_toArray, List.set_cons_zero, List.set_cons_succ]
              refine wpAnyH_ready (rs := [8]) (by kernel_rfl) (by simp) ?_
              refine AllReadyH.cons (i := 8) rfl (fun K hK => ?_) AllReadyH.nil
              obtain ⟨N1, N2⟩ := laid_new (id := id) (unhide HS) (unhide oC2) (unhide oM2) (unhide HO).1 (unhide HO).2
              have hz := (unhide HO).1
              unfold zeroR at hz
              have z0 := cellIn (i := 0) hz rfl
              have u0 := softIn (i := 0) hz
              have z1 := cellIn (i := 1) hz rfl
              have u1 := softIn (i := 1) hz
              have z2 := cellIn (i := 2) hz rfl
              have u2 := softIn (i := 2) hz
              have z3 := cellIn (i := 3) hz rfl
              have u3 := softIn (i := 3) hz
              have z4 := cellIn (i := 4) hz rfl
              have u4 := softIn (i := 4) hz
              have z5 := cellIn (i := 5) hz rfl
              have u5 := softIn (i := 5) hz
              have z6 := cellIn (i := 6) hz rfl
              have u6 := softIn (i := 6) hz
              have z7 := cellIn (i := 7) hz rfl
              have u7 := softIn (i := 7) hz
              dsimp only at N1 N2
              obtain ⟨V9, hV9⟩ : ∃ V9, V9 = setMany V15 o [(0, .int .i64 id), (1, .int .i64 p1), (2, .int .i64 p2), (3, .int .i64 p3), (4, .int .i64 (n : Int)), (5, .slice qe es.length cap), (6, .int .i64 0), (7, .slice (some ⟨gT, 0, none⟩) n n)] := ⟨_, rfl⟩
              rw [← hV9] at N1 N2
              have eW : ((((((((V15).setCell ⟨o, 0, none⟩ (.int .i64 id)).setCell ⟨o, 1, none⟩ (.int .i64 p1)).setCell ⟨o, 2, none⟩ (.int .i64 p2)).setCell ⟨o, 3, none⟩ (.int .i64 p3)).setCell ⟨o, 4, none⟩ (.int .i64 (n : Int))).setCell ⟨o, 5, none⟩ (.slice qe es.length cap)).setCell ⟨o, 6, none⟩ (.int .i64 0)).setCell ⟨o, 7, none⟩ (.slice (some ⟨gT, 0, none⟩) n n) = V9 := by rw [hV9]; simp only [setMany]
              have EW := hide eW
              have N1 := hide N1
              have N2 := hide N2
              clear eW hV9 hz
              go_simp
              rw [unhide EW]
              refine hK.out _ _ (nb_cells (unhide N1)) (fun hS => ?_)
              clear hK z0 u0 z1 u1 z2 u2 z3 u3 z4 u4 z5 u5 z6 u6 z7 u7
              refine wpAnyH_done (by kernel_rfl) ?_ _
              go_wp2_with fail
              go_meet
              exact ⟨o, qe, cap, gT, rfl, (unhide N1).br, (unhide N1).below, unhide N2⟩
      case rest =>
        obtain ⟨o, qe, cap, gT, rfl, hbr, hbl, hRB⟩ := hcut
        have RS1 := RS o _ _ wc hRB
        have HB := hide (And.intro hbr hbl)
        clear hbr hbl hRB RS c0 c1 c2 c3 c4 HS0 PC
        go_wp2_with fail
        refine (unhide RS1).mono ?_
        rintro e w3 ⟨rfl, R3, b3⟩
        have hbo := R3.bo
        unfold runC at hbo
        dsimp only at hbo
        have k0a := cellIn (i := 0) hbo rfl
        have k1a := cellIn (i := 1) hbo rfl
        have k2a := cellIn (i := 2) hbo rfl
        have k3a := cellIn (i := 3) hbo rfl
        have k4a := cellIn (i := 4) hbo rfl
        have k5a := cellIn (i := 5) hbo rfl
        have k6a := cellIn (i := 6) hbo rfl
        have k7a := cellIn (i := 7) hbo rfl
        have ND1 := ND o _ _ w3 R3
        unfold runV runC at ND1
        dsimp only at ND1
        have H3 := hide (And.intro R3 (And.intro ((b3.block _ (by omega)).trans (unhide HB).1) ((unhide HB).2.trans (b3.mono (by omega)))))
        clear hbo R3 b3 RS1 HB ND
        go_wp2_with fail
        refine (unhide ND1).mono ?_
        rintro e w4 ⟨gn, rfl, on, b4⟩
        have H4 := hide (show RB w4 (w.heap.size + 2) o (.slice qe es.length cap) (.slice (some ⟨gT, 0, none⟩) n n) ⟨id, ⟨p1, p2, p3, (n : Int), es⟩, 1, partQ (newT ⟨p1, p2, p3, (n : Int), es⟩ n) 0⟩ ∧ w4.heap[w.heap.size + 1]? = some (.cells zeroR 29 (0, 0)) ∧ Below w.heap.size w w4 ∧ w4.ownsRow w3.heap.size 3 1 (.slice (some ⟨gn, 0, none⟩) n n) n (intC (needsL (List.replicate n quad0) es n)) from
          ⟨by rw [partQ_zero, unhide NSL]; exact rb_below (unhide H3).1 b4, heapLater b4 (unhide H3).2.1, (unhide H3).2.2.trans (b4.mono (unhide H3).2.2.size), on⟩)
        clear ND1 H3 on b4 k0a k1a k2a k3a k4a k5a k6a k7a
        go_wp2
        go_loopw [29] (fun v wr => ∃ t : Nat, t ≤ n ∧ v = .int .i64 t ∧ Hid (RB wr (w.heap.size + 2) o (.slice qe es.length cap) (.slice (some ⟨gT, 0, none⟩) n n) ⟨id, ⟨p1, p2, p3, (n : Int), es⟩, 1, partQ (newT ⟨p1, p2, p3, (n : Int), es⟩ n) t⟩ ∧ wr.heap[w.heap.size + 1]? = some (.cells zeroR 29 (0, 0)) ∧ Below w.heap.size w wr ∧ wr.ownsRow w3.heap.size 3 1 (.slice (some ⟨gn, 0, none⟩) n n) n (intC (needsL (List.replicate n quad0) es n))))
          (fun v _ => n - (intOf v).toNat)
        case atStart => exact ⟨0, Nat.zero_le _, rfl, H4⟩
        case round =>
          clear H4
          obtain ⟨t, htn, rfl, HH⟩ := hrel
          by_cases hlt : t < n
          · have ht0 : (0 : Int) ≤ (t : Int) := Int.natCast_nonneg _
            have ht1 : (t : Int) < (n : Int) := by omega
            have cn := intC_cell (unhide HH).2.2.2 (by rw [needsL_len]) (k := t) (by rw [needsL_len]; exact hlt)
            rw [needsL_get, unhide NT t] at cn
            have hkp : t < (partQ (newT ⟨p1, p2, p3, (n : Int), es⟩ n) t).length := by rw [partQ_length, unhide NSL]; exact hlt
            have D := TW o gT t _ _ ((befL ⟨p1, p2, p3, (n : Int), es⟩ (t : Int)).length : Int) wr (unhide HH).1 hkp
            try dsimp only at D
            have hgt := unhide NG t (by rw [unhide NSL]; exact hlt)
            have hps := partQ_set (newT ⟨p1, p2, p3, (n : Int), es⟩ n) t (by rw [unhide NSL]; exact hlt)
            rw [hgt] at hps
            rw [partQ_getD _ t (by rw [unhide NSL]; exact hlt), waitQ_new, hps] at D
            have d7 : wr.cell? ⟨o, 7, none⟩ = some (.slice (some ⟨gT, 0, none⟩) n n) := cellIn (i := 7) (unhide HH).1.bo rfl
            generalize (befL ⟨p1, p2, p3, (n : Int), es⟩ (t : Int)).length = nd at cn D
            clear hgt hps hkp
            go_wp2_with fail
            refine (unhide D).mono ?_
            rintro e w5 ⟨rfl, R5, b5, g5⟩
            have ow := (unhide HH).1.ow.tasks
            try dsimp only at ow
            have HH2 := hide (And.intro R5 (And.intro ((b5.block _ (by omega)).trans (unhide HH).2.1) (And.intro ((unhide HH).2.2.1.trans (b5.mono (by omega))) (rowFar (v := .slice (some ⟨gT, 0, none⟩) n n) g5 ow (unhide HH).2.2.2 (by decide)))))
            clear R5 b5 g5 ow D d7 cn HH
            go_wp2
            go_roundw
            case rel => exact ⟨t + 1, by omega, by go_num, HH2⟩
            case measure => simp [intOf]; omega
          · have hte : t = n := by omega
            subst hte
            have hpa := partQ_all (newT ⟨p1, p2, p3, (t : Int), es⟩ t) t (by rw [unhide NSL]; omega)
            rw [hpa] at HH
            obtain ⟨AN1, AN2, AN3⟩ := answered (unhide HH).1 (unhide HH).2.1 (unhide HH).2.2.1
            have hk := (unhide HH).1.bo
            have hr := (unhide HH).2.1
            unfold runC at hk
            unfold zeroR at hr
            dsimp only at hk AN1 AN2 AN3
            obtain ⟨W5, hW5⟩ : ∃ W5, W5 = setMany wr (w.heap.size + 1) [(0, .int .i64 id), (1, .int .i64 p1), (2, .int .i64 p2), (3, .int .i64 p3), (4, .int .i64 (t : Int)), (5, .slice qe es.length cap), (6, .int .i64 1), (7, .slice (some ⟨gT, 0, none⟩) t t)] := ⟨_, rfl⟩
            rw [← hW5] at AN1 AN2 AN3
            have eW : ((((((((wr).setCell ⟨w.heap.size + 1, 0, none⟩ (.int .i64 id)).setCell ⟨w.heap.size + 1, 1, none⟩ (.int .i64 p1)).setCell ⟨w.heap.size + 1, 2, none⟩ (.int .i64 p2)).setCell ⟨w.heap.size + 1, 3, none⟩ (.int .i64 p3)).setCell ⟨w.heap.size + 1, 4, none⟩ (.int .i64 (t : Int))).setCell ⟨w.heap.size + 1, 5, none⟩ (.slice qe es.length cap)).setCell ⟨w.heap.size + 1, 6, none⟩ (.int .i64 1)).setCell ⟨w.heap.size + 1, 7, none⟩ (.slice (some ⟨gT, 0, none⟩) t t) = W5 := by rw [hW5]; simp only [setMany]
            have EW := hide eW
            have ER := hide (And.intro AN1 (And.intro AN2 AN3))
            clear eW hW5 AN1 AN2 AN3 HH hpa
            have z0 := cellIn (i := 0) hr rfl
            have z1 := cellIn (i := 1) hr rfl
            have z2 := cellIn (i := 2) hr rfl
            have z3 := cellIn (i := 3) hr rfl
            have z4 := cellIn (i := 4) hr rfl
            have z5 := cellIn (i := 5) hr rfl
            have z6 := cellIn (i := 6) hr rfl
            have z7 := cellIn (i := 7) hr rfl
            have u0 := softIn (i := 0) hr
            have u1 := softIn (i := 1) hr
            have u2 := softIn (i := 2) hr
            have u3 := softIn (i := 3) hr
            have u4 := softIn (i := 4) hr
            have u5 := softIn (i := 5) hr
            have u6 := softIn (i := 6) hr
            have u7 := softIn (i := 7) hr
            have k0b := cellIn (i := 0) hk rfl
            have k1b := cellIn (i := 1) hk rfl
            have k2b := cellIn (i := 2) hk rfl
            have k3b := cellIn (i := 3) hk rfl
            have k4b := cellIn (i := 4) hk rfl
            have k5b := cellIn (i := 5) hk rfl
            have k6b := cellIn (i := 6) hk rfl
            have k7b := cellIn (i := 7) hk rfl
            clear hr hk
            go_wp2
            rw [unhide EW]
            obtain ⟨Q3, Q1, Q2⟩ := unhide ER
            unfold runC at Q3
            have r0 := cellIn (i := 0) Q3 rfl
            have r1 := cellIn (i := 1) Q3 rfl
            have r2_ := cellIn (i := 2) Q3 rfl
            have r3 := cellIn (i := 3) Q3 rfl
            have r4 := cellIn (i := 4) Q3 rfl
            have r5 := cellIn (i := 5) Q3 rfl
            have r6 := cellIn (i := 6) Q3 rfl
            have r7 := cellIn (i := 7) Q3 rfl
            refine bodyPost_ret (v := .tuple #[.agg #[.int .i64 id, .int .i64 p1, .int .i64 p2, .int .i64 p3, .int .i64 (t : Int), .slice qe es.length cap, .int .i64 1, .slice (some ⟨gT, 0, none⟩) t t], .bool true]) (by simp [results, Try.results12, go_sem, r0, r1, r2_, r3, r4, r5, r6, r7]) rfl ⟨.slice qe es.length cap, .slice (some ⟨gT, 0, none⟩) t t, by rw [unhide ENEW]; rfl, by rw [unhide ENEW]; exact Q1, Q2⟩
    · have HN2 := (unhide HN).2 (fun h => hf0 ((unhide DQ).1 h).2)
      obtain ⟨rfl, rfl⟩ := HN2
      have d0 : (f != 0) = true := by simp [hf0]
      clear hf0 DQ HN hf hid
      obtain ⟨p1, p2, p3, p4, es⟩ := p
      dsimp only [planV] at hA FT hl hx hW ⊢
      obtain ⟨aa, ca, rfl, -⟩ := ownsRow_shape hA
      have HA := hide hA
      clear hA PC
      go_enter Try.func12, Try.ntmps12
      go_wp2_with fail
      rw [← hW]
      clear hW
      refine (unhide (IY _)).mono ?_
      rintro e w1 ⟨rfl, rfl⟩
      have c0 := cellIn (i := 0) hx rfl
      have c1 := cellIn (i := 1) hx rfl
      have c2 := cellIn (i := 2) hx rfl
      have c3 := cellIn (i := 3) hx rfl
      have c4 := cellIn (i := 4) hx rfl
      go_wp2_with fail
      refine (unhide (FT _ (ownsRow_below (unhide HA) hb0))).mono ?_
      rintro e w2 ⟨rfl, b2⟩
      clear c0 c1 c2 c3 c4
      have hr2 := heapLater b2 hr
      have t2 := hb0.trans (b2.mono hb0.size)
      unfold zeroR at hr2
      clear FT IY hx hr HA hb0 b2
      obtain ⟨hr5, G5⟩ := setMany_is [(0, .int .i64 0), (1, .int .i64 0), (2, .int .i64 0), (3, .int .i64 0), (4, .int .i64 0), (5, .slice none 0 0), (6, .int .i64 0), (7, .slice none 0 0)] w2 _ hr2
      have t5 : Below w.heap.size w (setMany w2 (w.heap.size + 1) [(0, .int .i64 0), (1, .int .i64 0), (2, .int .i64 0), (3, .int .i64 0), (4, .int .i64 0), (5, .slice none 0 0), (6, .int .i64 0), (7, .slice none 0 0)]) := t2.grown G5 t2.size (fun j hj => by cases hj; omega)
      have hr5' : (setMany w2 (w.heap.size + 1) [(0, .int .i64 0), (1, .int .i64 0), (2, .int .i64 0), (3, .int .i64 0), (4, .int .i64 0), (5, .slice none 0 0), (6, .int .i64 0), (7, .slice none 0 0)]).heap[w.heap.size + 1]? = some (.cells #[.int .i64 0, .int .i64 0, .int .i64 0, .int .i64 0, .int .i64 0, .slice none 0 0, .int .i64 0, .slice none 0 0] 29 (0, 0)) := by rw [hr5, put8]
      have o5 : RunOwn (setMany w2 (w.heap.size + 1) [(0, .int .i64 0), (1, .int .i64 0), (2, .int .i64 0), (3, .int .i64 0), (4, .int .i64 0), (5, .slice none 0 0), (6, .int .i64 0), (7, .slice none 0 0)]) w.heap.size (.slice none 0 0) (.slice none 0 0) noRun := ⟨World.ownsRow_nil _ _ _ _, World.ownsRow_nil _ _ _ _⟩
      have ER := hide (And.intro o5 (And.intro t5 hr5'))
      have z0 := cellIn (i := 0) hr2 rfl
      have u0 := softIn (i := 0) hr2
      have z1 := cellIn (i := 1) hr2 rfl
      have u1 := softIn (i := 1) hr2
      have z2 := cellIn (i := 2) hr2 rfl
      have u2 := softIn (i := 2) hr2
      have z3 := cellIn (i := 3) hr2 rfl
      have u3 := softIn (i := 3) hr2
      have z4 := cellIn (i := 4) hr2 rfl
      have u4 := softIn (i := 4) hr2
      have z5 := cellIn (i := 5) hr2 rfl
      have u5 := softIn (i := 5) hr2
      have z6 := cellIn (i := 6) hr2 rfl
      have u6 := softIn (i := 6) hr2
      have z7 := cellIn (i := 7) hr2 rfl
      have u7 := softIn (i := 7) hr2
      obtain ⟨W5, hW5⟩ : ∃ W5, W5 = setMany w2 (w.heap.size + 1) [(0, .int .i64 0), (1, .int .i64 0), (2, .int .i64 0), (3, .int .i64 0), (4, .int .i64 0), (5, .slice none 0 0), (6, .int .i64 0), (7, .slice none 0 0)] := ⟨_, rfl⟩
      rw [← hW5] at ER
      have eW : ((((((((w2).setCell ⟨w.heap.size + 1, 0, none⟩ (.int .i64 0)).setCell ⟨w.heap.size + 1, 1, none⟩ (.int .i64 0)).setCell ⟨w.heap.size + 1, 2, none⟩ (.int .i64 0)).setCell ⟨w.heap.size + 1, 3, none⟩ (.int .i64 0)).setCell ⟨w.heap.size + 1, 4, none⟩ (.int .i64 0)).setCell ⟨w.heap.size + 1, 5, none⟩ (.slice none 0 0)).setCell ⟨w.heap.size + 1, 6, none⟩ (.int .i64 0)).setCell ⟨w.heap.size + 1, 7, none⟩ (.slice none 0 0) = W5 := by rw [hW5]; simp only [setMany]
      have EW := hide eW
      clear eW hW5 hr5 G5 t5 hr5' o5 hr2 t2 
      go_wp2
      rw [unhide EW]
      obtain ⟨Q1, Q2, Q3⟩ := unhide ER
      have r0 := cellIn (i := 0) Q3 rfl
      have r1 := cellIn (i := 1) Q3 rfl
      have r2 := cellIn (i := 2) Q3 rfl
      have r3 := cellIn (i := 3) Q3 rfl
      have r4 := cellIn (i := 4) Q3 rfl
      have r5 := cellIn (i := 5) Q3 rfl
      have r6 := cellIn (i := 6) Q3 rfl
      have r7 := cellIn (i := 7) Q3 rfl
      refine bodyPost_ret (v := .tuple #[.agg #[.int .i64 0, .int .i64 0, .int .i64 0, .int .i64 0, .int .i64 0, .slice none 0 0, .int .i64 0, .slice none 0 0], .bool false]) (by simp [results, Try.results12, go_sem, r0, r1, r2, r3, r4, r5, r6, r7]) rfl ⟨_, _, rfl, Q1, Q2⟩
  · have HN2 := (unhide HN).2 (fun h => hid h.1)
    obtain ⟨rfl, rfl⟩ := HN2
    have IN := fun W => hide (wi_no id 1 9999 W hid)
    clear DQ HN hf hid FT PC
    obtain ⟨p1, p2, p3, p4, es⟩ := p
    dsimp only [planV] at hA hl hx hW ⊢
    obtain ⟨aa, ca, rfl, -⟩ := ownsRow_shape hA
    clear hA
    go_enter Try.func12, Try.ntmps12
    go_wp2_with fail
    rw [← hW]
    clear hW
    refine (unhide (IN _)).mono ?_
    rintro e w1 ⟨rfl, rfl⟩
    unfold zeroR at hr
    clear IN hx
    obtain ⟨hr5, G5⟩ := setMany_is [(0, .int .i64 0), (1, .int .i64 0), (2, .int .i64 0), (3, .int .i64 0), (4, .int .i64 0), (5, .slice none 0 0), (6, .int .i64 0), (7, .slice none 0 0)] w1 _ hr
    have t5 : Below w.heap.size w (setMany w1 (w.heap.size + 1) [(0, .int .i64 0), (1, .int .i64 0), (2, .int .i64 0), (3, .int .i64 0), (4, .int .i64 0), (5, .slice none 0 0), (6, .int .i64 0), (7, .slice none 0 0)]) := hb0.grown G5 hb0.size (fun j hj => by cases hj; omega)
    have hr5' : (setMany w1 (w.heap.size + 1) [(0, .int .i64 0), (1, .int .i64 0), (2, .int .i64 0), (3, .int .i64 0), (4, .int .i64 0), (5, .slice none 0 0), (6, .int .i64 0), (7, .slice none 0 0)]).heap[w.heap.size + 1]? = some (.cells #[.int .i64 0, .int .i64 0, .int .i64 0, .int .i64 0, .int .i64 0, .slice none 0 0, .int .i64 0, .slice none 0 0] 29 (0, 0)) := by rw [hr5, put8]
    have o5 : RunOwn (setMany w1 (w.heap.size + 1) [(0, .int .i64 0), (1, .int .i64 0), (2, .int .i64 0), (3, .int .i64 0), (4, .int .i64 0), (5, .slice none 0 0), (6, .int .i64 0), (7, .slice none 0 0)]) w.heap.size (.slice none 0 0) (.slice none 0 0) noRun := ⟨World.ownsRow_nil _ _ _ _, World.ownsRow_nil _ _ _ _⟩
    have ER := hide (And.intro o5 (And.intro t5 hr5'))
    have z0 := cellIn (i := 0) hr rfl
    have u0 := softIn (i := 0) hr
    have z1 := cellIn (i := 1) hr rfl
    have u1 := softIn (i := 1) hr
    have z2 := cellIn (i := 2) hr rfl
    have u2 := softIn (i := 2) hr
    have z3 := cellIn (i := 3) hr rfl
    have u3 := softIn (i := 3) hr
    have z4 := cellIn (i := 4) hr rfl
    have u4 := softIn (i := 4) hr
    have z5 := cellIn (i := 5) hr rfl
    have u5 := softIn (i := 5) hr
    have z6 := cellIn (i := 6) hr rfl
    have u6 := softIn (i := 6) hr
    have z7 := cellIn (i := 7) hr rfl
    have u7 := softIn (i := 7) hr
    obtain ⟨W5, hW5⟩ : ∃ W5, W5 = setMany w1 (w.heap.size + 1) [(0, .int .i64 0), (1, .int .i64 0), (2, .int .i64 0), (3, .int .i64 0), (4, .int .i64 0), (5, .slice none 0 0), (6, .int .i64 0), (7, .slice none 0 0)] := ⟨_, rfl⟩
    rw [← hW5] at ER
    have eW : ((((((((w1).setCell ⟨w.heap.size + 1, 0, none⟩ (.int .i64 0)).setCell ⟨w.heap.size + 1, 1, none⟩ (.int .i64 0)).setCell ⟨w.heap.size + 1, 2, none⟩ (.int .i64 0)).setCell ⟨w.heap.size + 1, 3, none⟩ (.int .i64 0)).setCell ⟨w.heap.size + 1, 4, none⟩ (.int .i64 0)).setCell ⟨w.heap.size + 1, 5, none⟩ (.slice none 0 0)).setCell ⟨w.heap.size + 1, 6, none⟩ (.int .i64 0)).setCell ⟨w.heap.size + 1, 7, none⟩ (.slice none 0 0) = W5 := by rw [hW5]; simp only [setMany]
    have EW := hide eW
    clear eW hW5 hr5 G5 t5 hr5' o5 hr hb0 
    go_wp2
    rw [unhide EW]
    obtain ⟨Q1, Q2, Q3⟩ := unhide ER
    have r0 := cellIn (i := 0) Q3 rfl
    have r1 := cellIn (i := 1) Q3 rfl
    have r2 := cellIn (i := 2) Q3 rfl
    have r3 := cellIn (i := 3) Q3 rfl
    have r4 := cellIn (i := 4) Q3 rfl
    have r5 := cellIn (i := 5) Q3 rfl
    have r6 := cellIn (i := 6) Q3 rfl
    have r7 := cellIn (i := 7) Q3 rfl
    refine bodyPost_ret (v := .tuple #[.agg #[.int .i64 0, .int .i64 0, .int .i64 0, .int .i64 0, .int .i64 0, .slice none 0 0, .int .i64 0, .slice none 0 0], .bool false]) (by simp [results, Try.results12, go_sem, r0, r1, r2, r3, r4, r5, r6, r7]) rfl ⟨_, _, rfl, Q1, Q2⟩
theorem implDoneX (ve vt : Value) (lo hi : Nat) (r r2 : RunL) (t : Int) (hL : DoneIs r t r2) (w : World) (h : RunX w lo hi ve vt r) (hl : r.plan.edges.length ≤ 2000000) (hm : r.tasks.length ≤ 2000000) :
    Calls Try.prog 17 #[runV r ve vt, .int .i64 t] w fun e w' => ∃ ve vt, e = .returned (runV r2 ve vt) ∧ RunOwn w' w.heap.size ve vt r2 ∧ Below w.heap.size w w' := implDone_any ve vt lo lo r r2 t hL w h.ed.own h.tk.own hl hm
theorem implFailX (ve vt : Value) (lo hi : Nat) (r r2 : RunL) (t : Int) (hL : FailIs r t r2) (w : World) (h : RunX w lo hi ve vt r) (hl : r.plan.edges.length ≤ 2000000) (hm : r.tasks.length ≤ 2000000) :
    Calls Try.prog 18 #[runV r ve vt, .int .i64 t] w fun e w' => ∃ ve vt, e = .returned (runV r2 ve vt) ∧ RunOwn w' w.heap.size ve vt r2 ∧ Below w.heap.size w w' := implFail_any ve vt lo lo r r2 t hL w h.ed.own h.tk.own hl hm
theorem implLeftX (ve vt : Value) (lo hi : Nat) (r r2 : RunL) (hL : LeftIs r r2) (w : World) (h : RunX w lo hi ve vt r) (hl : r.plan.edges.length ≤ 2000000) (hm : r.tasks.length ≤ 2000000) :
    Calls Try.prog 22 #[runV r ve vt] w fun e w' => ∃ ve vt, e = .returned (runV r2 ve vt) ∧ RunOwn w' w.heap.size ve vt r2 ∧ Below w.heap.size w w' := implLeft_any ve vt lo lo r r2 hL w h.ed.own h.tk.own hl hm
theorem implOkX (ve vt : Value) (lo hi : Nat) (r : RunL) (w : World) (h : RunX w lo hi ve vt r) (hl : r.plan.edges.length ≤ 2000000) (hm : r.tasks.length ≤ 2000000) :
    Calls Try.prog 13 #[runV r ve vt] w fun e w' => e = .returned (.bool (decide (RunOkA r))) ∧ Below w.heap.size w w' := implRunOk_any ve vt lo lo r w h.ed.own h.tk.own hl hm
theorem implTinX (ve vt : Value) (lo hi : Nat) (r : RunL) (st : Int) (w : World) (h : RunX w lo hi ve vt r) (hm : r.tasks.length ≤ 2000000) :
    Calls Try.prog 14 #[runV r ve vt, .int .i64 st] w fun e w' => ∃ v, e = .returned v ∧ w'.ownsRow w.heap.size 3 1 v (tinA r.tasks st).length (intC (tinA r.tasks st)) ∧ Below w.heap.size w w' :=
  (implTasksIn_any ve vt lo r st w h.tk.own hm).mono (fun e w' ⟨g, c, he, o, b⟩ => ⟨_, he, o, b⟩)
theorem implNewX (va : Value) (ba : Nat) (id : Int) (p : PlanL) (r2 : RunL) (ok : Bool) (hN : NewIs id p r2 ok) (w : World) (hA : w.ownsRow ba 96 2 va p.edges.length (edgesC p.edges)) (hl : p.edges.length ≤ 2000000) :
    Calls Try.prog 12 #[.int .i64 id, planV p va] w fun e w' => ∃ ve vt, e = .returned (.tuple #[runV r2 ve vt, .bool ok]) ∧ RunOwn w' w.heap.size ve vt r2 ∧ Below w.heap.size w w' := implRunNew_any va ba id p r2 ok hN w hA hl
end Go.Proofs.Ytnpfboligmnhpaa
