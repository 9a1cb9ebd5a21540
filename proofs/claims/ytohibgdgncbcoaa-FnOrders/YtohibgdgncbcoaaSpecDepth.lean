/- The walk of the specification's DepthOf. -/
import Derived.Test.YtohibgdgncbcoaaSpecOrder
import Derived.Test.YtohibgdgncbcoaaDepBase
namespace Go.Proofs.Ytohibgdgncbcoaa
open Go.RowKit
open scoped Classical
set_option linter.unusedVariables false
attribute [local go_sem ↓] Go.wp_at_zero Go.wp_at_succ

/-- The variables of DepthOf: the plan, the depths, the order. -/
structure DepSt (w W : World) (p : PlanL) (va : Value) (ba n gd go co : Nat) (ds ord : List Int) : Prop where
  box : W.heap[w.heap.size]? = some (.cells #[.int .i64 p.prio, .int .i64 p.most, .int .i64 p.wait, .int .i64 p.tasks, va] 26 (0, 0))
  row : W.ownsRow ba 69 2 va p.edges.length (edgesC p.edges)
  out : W.ownsRow (w.heap.size + 1) 3 1 (.slice (some ⟨gd, 0, none⟩) n n) n (intC ds)
  ordr : W.ownsRow (w.heap.size + 1) 3 1 (.slice (some ⟨go, 0, none⟩) n co) n (intC ord)
  ne : go ≠ gd
  below : Below w.heap.size w W
  old : ∀ x, va.ownBlock = some x → x < w.heap.size
theorem dep_below {w W W' : World} {p : PlanL} {va : Value} {ba n gd go co : Nat} {ds ord : List Int} (h : DepSt w W p va ba n gd go co ds ord) (hb : Below W.heap.size W W') : DepSt w W' p va ba n gd go co ds ord :=
  ⟨heapLater hb h.box, ownsRow_below h.row hb, ownsRow_below h.out hb, ownsRow_below h.ordr hb, h.ne, h.below.trans (hb.mono h.below.size), h.old⟩
theorem dep_put {w W : World} {p : PlanL} {va : Value} {ba n gd go co : Nat} {ds ord : List Int} (h : DepSt w W p va ba n gd go co ds ord) (d : Nat) (x : Int) : DepSt w (W.setCell ⟨gd, d, none⟩ (.int .i64 x)) p va ba n gd go co (ds.set d x) ord := by
  have S := h.out.stored d (.int .i64 x)
  rw [intC_set] at S
  have hgd := (h.out.lt gd rfl).1
  refine ⟨?_, World.ownsRow.kept h.row S.2 ?_, S.1, World.ownsRow.kept h.ordr S.2 (.inr ?_), h.ne, h.below.setCell (p := ⟨gd, d, none⟩) (by show _ ≤ gd; omega) _, h.old⟩
  · rw [heap_setCell_other W ⟨gd, d, none⟩ w.heap.size _ (by show w.heap.size ≠ gd; omega)]; exact h.box
  · cases hv : va.ownBlock with
    | none => exact .inl rfl
    | some x => exact .inr (fun e => by cases e; have := h.old _ hv; omega)
  · intro e; simp only [Value.ownBlock, Option.some.injEq] at e; exact h.ne e
theorem dep_cells {w W : World} {p : PlanL} {va : Value} {ba n gd go co : Nat} {ds ord : List Int} (h : DepSt w W p va ba n gd go co ds ord) : W.cell? ⟨w.heap.size, 0, none⟩ = some (.int .i64 p.prio) ∧ W.cell? ⟨w.heap.size, 1, none⟩ = some (.int .i64 p.most) ∧ W.cell? ⟨w.heap.size, 2, none⟩ = some (.int .i64 p.wait) ∧ W.cell? ⟨w.heap.size, 3, none⟩ = some (.int .i64 p.tasks) ∧ W.cell? ⟨w.heap.size, 4, none⟩ = some va :=
  ⟨cellIn h.box rfl, cellIn h.box rfl, cellIn h.box rfl, cellIn h.box rfl, cellIn h.box rfl⟩
theorem int_cell {w : World} {base n g cap k : Nat} {zs : List Int} (h : w.ownsRow base 3 1 (.slice (some ⟨g, 0, none⟩) n cap) n (intC zs)) (hn : n = zs.length) (hk : k < n) : w.cell? ⟨g, k, none⟩ = some (.int .i64 (zs.getD k 0)) := by
  have hk2 : k < zs.length := by omega
  have := intC_cell h hn hk2
  rw [this, List.getD_eq_getElem?_getD, List.getElem?_eq_getElem hk2]; rfl
theorem set_getD (l : List Int) (i : Nat) : l.set i (l.getD i 0) = l := by
  refine List.ext_getElem (by simp) (fun j h1 h2 => ?_)
  rw [List.getElem_set]
  split
  · rename_i e; subst e; rw [List.getD_eq_getElem?_getD, List.getElem?_eq_getElem h2]; rfl
  · rfl
set_option maxRecDepth 100000 in
set_option maxHeartbeats 6400000 in
theorem specDepth_good (va : Value) (ba n : Nat) (p : PlanL) (ord : List Int) (w : World) (hA : w.ownsRow ba 69 2 va p.edges.length (edgesC p.edges)) (hr : FaultIs p 0) (ht : p.tasks = (n : Int)) (hord : OrdIs p.edges n ord) :
    Calls Try.prog 16 #[planV p va] w fun e w' => ∃ v, e = .returned v ∧ w'.ownsRow w.heap.size 3 1 v (depGo p.edges n ord).length (intC (depGo p.edges n ord)) ∧ Below w.heap.size w w' := by
  obtain ⟨j0, hj0, hy0, hy1, hy2⟩ := info_parts info3
  have hm := (fault_none hr).1
  have hnd : p.edges.Nodup := (fault_none hr).2.2.1
  have hG := goodP_of hr ht
  have old : ∀ x, va.ownBlock = some x → x < w.heap.size := fun x hx => (hA.lt x hx).2
  have hn12 : n ≤ 12 := by have := hm.2.1; omega
  have hn1 : 1 ≤ n := by have := hm.1; omega
  have hel : p.edges.length ≤ 30 := hm.2.2.1
  have INV := hide (depGo_inv hG hord.2)
  have hol := hord.1
  have HO := hide hord
  have PF := fun (W : World) (h : W.ownsRow ba 69 2 va p.edges.length (edgesC p.edges)) => hide (specFault_is va ba p 0 W h (by omega) hr)
  have OF := fun (W : World) (h : W.ownsRow ba 69 2 va p.edges.length (edgesC p.edges)) => hide (specOrder_good va ba n p ord W h hr ht hord)
  have BE := fun (W : World) (a : Int) (h : W.ownsRow ba 69 2 va p.edges.length (edgesC p.edges)) => hide (specBef_any va ba n p a W h ht hn12 hel hnd)
  clear hord
  obtain ⟨p1, p2, p3, p4, es⟩ := p
  dsimp only [planV] at hA ht hel hnd hG PF OF BE INV HO ⊢
  subst ht
  rw [hol] at OF
  have HOL := hide hol
  clear hol
  obtain ⟨aa, ca, rfl, -⟩ := ownsRow_shape hA
  have HG := hide hG
  have HA := hide hA
  clear hA hm hnd hG hr
  obtain ⟨W, hW⟩ : ∃ W, W = w.alloc (Obj.cells #[.int .i64 p1, .int .i64 p2, .int .i64 p3, .int .i64 (n : Int), .slice aa es.length ca] 26) := ⟨_, rfl⟩
  have hb0 : Below w.heap.size w W := by rw [hW]; exact (Below.refl _ _).alloc (Nat.le_refl _) _
  have x1 : W.heap[w.heap.size]? = some (.cells #[.int .i64 p1, .int .i64 p2, .int .i64 p3, .int .i64 (n : Int), .slice aa es.length ca] 26 (0, 0)) := by rw [hW]; exact heap_alloc_new w _
  go_enter Try.func16, Try.ntmps16
  go_wp2_with fail
  rw [← hW]
  clear hW
  refine (unhide (PF _ (ownsRow_below (unhide HA) hb0))).mono ?_
  rintro e w1 ⟨rfl, b1⟩
  have y1 := heapLater b1 x1
  have hb1 := hb0.trans (b1.mono hb0.size)
  have y3 := ownsRow_below (unhide HA) hb1
  have c3 := cellIn (i := 3) y1 rfl
  have sz1 : w.heap.size < w1.heap.size := (Array.getElem?_eq_some_iff.1 y1).1
  clear x1 hb0 b1 PF HA
  go_wp2_with (at_make; refine wpList_make_full _ rfl _ _ 28 rfl (w.heap.size + 1) 3 j0 _ 1 Try.underlying28 hj0 hy0 hy1 .i64 .i64 _ _ n rfl rfl rfl rfl (by rw [hy2]; omega) (by unfold maxLen; omega) (by omega) ?_)
  intro w2 ho2 hg2
  have hb2 : Below w1.heap.size w1 w2 := (Below.refl _ _).grown hg2 (Nat.le_refl _) (fun k hk => by cases hk)
  have z1 := heapLater hb2 y1
  have z3 := ownsRow_below y3 hb2
  have z4 : w2.ownsRow (w.heap.size + 1) 3 1 (.slice (some ⟨w1.heap.size, 0, none⟩) n n) n (intC (List.replicate n 0)) := by
    rw [toList_madeCells_one] at ho2; simpa [intC] using ho2
  have hB2 := hb1.trans (hb2.mono hb1.size)
  have p0 := cellIn (i := 0) z1 rfl
  have p1' := cellIn (i := 1) z1 rfl
  have p2' := cellIn (i := 2) z1 rfl
  have p3' := cellIn (i := 3) z1 rfl
  have p4' := cellIn (i := 4) z1 rfl
  have hlt2 := (z4.lt _ rfl).2
  clear y1 y3 c3 ho2 hg2 hb2 hb1
  generalize w1.heap.size = gd at z4 hlt2 sz1 ⊢
  go_wp2_with fail
  refine (unhide (OF _ z3)).mono ?_
  rintro e w3 ⟨v, rfl, o3, b3⟩
  obtain ⟨ao, co, rfl, sgo⟩ := ownsRow_shape o3
  obtain ⟨go, rfl⟩ := sgo (by omega)
  have ST0 : Hid (DepSt w w3 ⟨p1, p2, p3, (n : Int), es⟩ (.slice aa es.length ca) ba n gd go co (depGo es n (ord.take 0)) ord) := hide
    ⟨heapLater b3 z1, ownsRow_below z3 b3, ownsRow_below z4 b3, ownsRow_baseE o3 (by omega), by have := (o3.lt go rfl).1; omega, hB2.trans (b3.mono hB2.size), old⟩
  clear o3 b3 z1 z3 z4 hB2 p0 p1' p2' p3' p4' hlt2 OF sgo
  go_wp2
  go_loopw [5] (fun x wr => ∃ i : Nat, i ≤ n ∧ x = .int .i64 i ∧ Hid (DepSt w wr ⟨p1, p2, p3, (n : Int), es⟩ (.slice aa es.length ca) ba n gd go co (depGo es n (ord.take i)) ord))
    (fun x _ => n - (intOf x).toNat)
  case atStart => exact ⟨0, Nat.zero_le _, rfl, ST0⟩
  case round =>
    clear ST0
    obtain ⟨i, hi, rfl, ST⟩ := hrel
    by_cases hlt : i < n
    · have hlt1 : (i : Int) < (n : Int) := by omega
      have hi0 : (0 : Int) ≤ (i : Int) := Int.natCast_nonneg _
      have hil : i < ord.length := by rw [unhide HOL]; exact hlt
      obtain ⟨c0, c1, c2, c3, c4⟩ := dep_cells (unhide ST)
      dsimp only at c0 c1 c2 c3 c4
      have d1 := intC_cell (unhide ST).ordr (by rw [unhide HOL]) hil
      obtain ⟨⟨t0, t1⟩, t2, -⟩ := (unhide HO).2 i hil
      obtain ⟨n1, n2⟩ := (ready_iff es n _ _).1 t2
      obtain ⟨v1, v2, v3, v4⟩ := unhide INV i (by omega)
      have NX := hide (depGo_take es n ord i hil)
      obtain ⟨t, htt⟩ : ∃ t : Nat, ord[i] = (t : Int) := ⟨(ord[i]).toNat, by omega⟩
      rw [htt] at d1 t0 t1 t2 n1 n2 NX
      rw [Int.toNat_natCast] at NX
      have htn : t < n := by omega
      have ZT := hide (v3 t n1)
      have BIN : Hid (∀ b ∈ bef es n (t : Int), 0 ≤ b ∧ b < (n : Int) ∧ ¬ b = (t : Int)) := hide (fun b hb => by
        have := (risen_mem _ _ _).1 hb
        exact ⟨this.1, this.2.1, fun e => n1 (by rw [← e]; exact n2 b hb)⟩)
      have V4 := hide v4
      generalize depGo es n (ord.take i) = ds at ST NX ZT V4 v1
      have HTT := hide htt
      clear v2 v3 v4 n1 n2 t2 htt
      have BE1 := fun W h => BE W (t : Int) h
      obtain ⟨bs, hbs⟩ : ∃ bs, bs = risen (fun b => hasE es b (t : Int)) n := ⟨_, rfl⟩
      have hbl : bs.length ≤ 12 := by rw [hbs]; have := risen_len (fun b => hasE es b (t : Int)) n; omega
      unfold bef at BIN NX
      rw [← hbs] at BE1 BIN NX
      clear hbs
      go_wp2_with fail
      go_region_held3 (fun w' => w'.cell? ⟨w.heap.size, 0, none⟩ = some (.int .i64 p1) ∧ w'.cell? ⟨w.heap.size, 1, none⟩ = some (.int .i64 p2) ∧ w'.cell? ⟨w.heap.size, 2, none⟩ = some (.int .i64 p3) ∧ w'.cell? ⟨w.heap.size, 3, none⟩ = some (.int .i64 (n : Int)) ∧ w'.cell? ⟨w.heap.size, 4, none⟩ = some (.slice aa es.length ca) ∧ w'.cell? ⟨go, i, none⟩ = some (.int .i64 (t : Int)))
        (refine ⟨?_, ?_, ?_, ?_, ?_, ?_⟩ <;> first | go_keep | exact cell_later b4 (c0) | exact cell_later b4 (c1) | exact cell_later b4 (c2) | exact cell_later b4 (c3) | exact cell_later b4 (c4) | exact cell_later b4 (d1))
        ((go_at_call 40; refine (unhide (BE1 _ (World.ownsRow.drew (unhide ST).row))).mono ?_; rintro e w4 ⟨g3, c3', rfl, o4, b4⟩))
      have b4w : Below wr.heap.size wr w4 := ((Below.refl _ _).drew).trans b4
      have S4 := hide (dep_below (unhide ST) b4w)
      have hne3 : g3 ≠ gd := by have h1 := (o4.lt g3 rfl).1; have h2 := ((unhide ST).out.lt gd rfl).2; have h3 : wr.drew.heap.size = wr.heap.size := rfl; omega
      have O4 := hide (ownsRow_baseE o4 (B' := w.heap.size + 1) (by have h2 := ((unhide ST).out.lt gd rfl); have h3 : wr.drew.heap.size = wr.heap.size := rfl; omega))
      clear o4 b4 b4w ST BE1 c0 c1 c2 c3 c4 d1
      generalize c3' = c3 at O4 ⊢
      go_wp2
      go_loopw [7] (fun x wr => ∃ k : Nat, k ≤ bs.length ∧ x = .int .i64 k ∧ Hid (DepSt w wr ⟨p1, p2, p3, (n : Int), es⟩ (.slice aa es.length ca) ba n gd go co (ds.set t (topD ds (bs.take k))) ord) ∧ Hid (wr.ownsRow (w.heap.size + 1) 3 1 (.slice (some ⟨g3, 0, none⟩) bs.length c3) bs.length (intC bs)))
        (fun x _ => bs.length - (intOf x).toNat)
      case atStart => exact ⟨0, Nat.zero_le _, rfl, by
        have : ds.set t (topD ds (bs.take 0)) = ds := by
          have h0 : topD ds (bs.take 0) = ds.getD t 0 := by rw [unhide ZT]; rfl
          rw [h0]; exact set_getD ds t
        rw [this]; exact S4, O4⟩
      case round =>
        clear S4 O4
        obtain ⟨k, hk, rfl, ST, O5⟩ := hrel
        by_cases hkl : k < bs.length
        · have hk0 : (0 : Int) ≤ (k : Int) := Int.natCast_nonneg _
          have hk1 : (k : Int) < (bs.length : Int) := by omega
          have e1 := intC_cell (unhide ST).ordr (by rw [unhide HOL]) hil
          rw [unhide HTT] at e1
          have e2 := intC_cell (unhide O5) rfl hkl
          obtain ⟨m1, m2, m3⟩ := unhide BIN _ (List.getElem_mem hkl)
          have TK := hide (topD_take ds bs k hkl)
          obtain ⟨b, hb⟩ : ∃ b : Nat, bs[k] = (b : Int) := ⟨(bs[k]).toNat, by omega⟩
          rw [hb] at e2 m1 m2 m3 TK
          have HBK := hide hb
          have hbn : b < n := by omega
          have hbt : ¬ t = b := fun e => m3 (by rw [e])
          have hset : (ds.set t (topD ds (bs.take k))).length = n := by rw [List.length_set]; exact v1
          have e3 := int_cell (unhide ST).out hset.symm hbn
          rw [getD_set _ _ _ _ (by omega), if_neg hbt] at e3
          have e4 := int_cell (unhide ST).out hset.symm htn
          rw [getD_set _ _ _ _ (by omega), if_pos rfl] at e4
          have f4 := World.ownsRow.frozenAt (unhide ST).out t
          have hdb := unhide V4 b
          have hb0 : (0 : Int) ≤ (b : Int) := Int.natCast_nonneg _
          have hb1 : (b : Int) < (n : Int) := by omega
          have ht0 : (0 : Int) ≤ (t : Int) := Int.natCast_nonneg _
          have ht1 : (t : Int) < (n : Int) := by omega
          have UP : Hid (topD ds (bs.take (k + 1)) = if topD ds (bs.take k) < ds.getD b 0 + 1 then ds.getD b 0 + 1 else topD ds (bs.take k)) := hide (by rw [unhide TK]; unfold upD; rw [Int.toNat_natCast])
          have PUT := fun (x : Int) (W' : World) (h : DepSt w W' ⟨p1, p2, p3, (n : Int), es⟩ (.slice aa es.length ca) ba n gd go co (ds.set t (topD ds (bs.take k))) ord) => hide (dep_put h t x)
          simp only [List.set_set] at PUT
          obtain ⟨db, hdbe⟩ : ∃ x, x = ds.getD b 0 := ⟨_, rfl⟩
          rw [← hdbe] at e3 hdb UP
          have HDB := hide hdbe
          have HBT := hide hbt
          have hne4 := (unhide ST).ne
          clear hdbe
          generalize topD ds (bs.take k) = tk at e4 UP ST PUT
          obtain ⟨hdb0, hdb1⟩ := hdb
          have hwr : IntKind.i64.wrap (db + 1) = db + 1 := IntWalk.i64_in _ ⟨by omega, by omega⟩
          clear hb m1 m2 m3 TK hset hbt
          by_cases hgt : tk < db + 1
          · have hgt1 : decide (tk < db + 1) = true := by simp [hgt]
            have R : Hid (topD ds (bs.take (k + 1)) = db + 1) := hide (by rw [unhide UP, if_pos hgt])
            have S2 := hide (dep_below (unhide ST) ((Below.refl _ _).drew))
            have O6 := hide (World.ownsRow.drew (unhide O5))
            clear UP ST O5
            go_wp2_with fail
            go_region_held3 (fun w' => w'.cell? ⟨go, i, none⟩ = some (.int .i64 (t : Int)) ∧ w'.cell? ⟨g3, k, none⟩ = some (.int .i64 (b : Int)) ∧ w'.cell? ⟨gd, b, none⟩ = some (.int .i64 db) ∧ w'.cell? ⟨gd, t, none⟩ = some (.int .i64 tk)) (go_keep) (fail)
            go_upto_region 13 with fail
            replace e1 : wr.drew.cell? ⟨go, i, none⟩ = some (.int .i64 (t : Int)) := e1
            replace e2 : wr.drew.cell? ⟨g3, k, none⟩ = some (.int .i64 (b : Int)) := e2
            replace e3 : wr.drew.cell? ⟨gd, b, none⟩ = some (.int .i64 db) := e3
            replace e4 : wr.drew.cell? ⟨gd, t, none⟩ = some (.int .i64 tk) := e4
            replace f4 : wr.drew.frozen? ⟨gd, t, none⟩ = false := f4
            generalize wr.drew = W5 at S2 O6 e1 e2 e3 e4 f4 ⊢
            have S6 := PUT (db + 1) W5.drew (dep_below (unhide S2) ((Below.refl _ _).drew))
            have O7 : Hid ((W5.drew.setCell ⟨gd, t, none⟩ (.int .i64 (db + 1))).ownsRow (w.heap.size + 1) 3 1 (.slice (some ⟨g3, 0, none⟩) bs.length c3) bs.length (intC bs)) := hide (World.ownsRow.kept (World.ownsRow.drew (unhide O6)) (gset W5.drew ⟨gd, t, none⟩ _) (.inr (by intro e; simp only [Value.ownBlock, Option.some.injEq] at e; exact hne3 e)))
            have S14 : Hid ((W5.drew.setCell ⟨gd, t, none⟩ (.int .i64 (db + 1))).cell? ⟨go, i, none⟩ = some (.int .i64 (t : Int)) ∧ (W5.drew.setCell ⟨gd, t, none⟩ (.int .i64 (db + 1))).cell? ⟨g3, k, none⟩ = some (.int .i64 (b : Int)) ∧ (W5.drew.setCell ⟨gd, t, none⟩ (.int .i64 (db + 1))).cell? ⟨gd, b, none⟩ = some (.int .i64 db)) := hide (by
              refine ⟨?_, ?_, ?_⟩
              · have h := intC_cell (unhide S6).ordr (by rw [unhide HOL]) hil
                rw [unhide HTT] at h; exact h
              · have h := intC_cell (unhide O7) rfl hkl
                rw [unhide HBK] at h; exact h
              · have h := int_cell (unhide S6).out (by rw [List.length_set]; exact v1.symm) hbn
                rw [getD_set _ _ _ _ (by omega), if_neg (unhide HBT), ← unhide HDB] at h; exact h)
            have e5 : W5.drew.cell? ⟨gd, t, none⟩ = some (.int .i64 tk) := e4
            have f5 : W5.drew.frozen? ⟨gd, t, none⟩ = false := f4
            clear PUT S2 O6
            refine wp_region_held_drew (S := fun w' => w'.cell? ⟨go, i, none⟩ = some (.int .i64 (t : Int)) ∧ w'.cell? ⟨g3, k, none⟩ = some (.int .i64 (b : Int)) ∧ w'.cell? ⟨gd, b, none⟩ = some (.int .i64 db)) (by kernel_rfl) ⟨e1, e2, e3⟩ (fun hS => ?_)
            refine wpAnyH_take (i := 0) (v := .slice (some ⟨gd, 0, none⟩) n n) rfl (by kernel_rfl) (by kernel_rfl) (by kernel_rfl) (fun _ _ _ h => h) (Or.inl ⟨by kernel_rfl, fun w hSw => by (try dsimp only at hSw); go_split_ands; go_simp⟩) (by assumption) ?_
            simp only [Act.put, List.getElem_toArray, List.getElem_cons_zero, List.setIfInBounds_toArray, List.set_cons_zero, List.set_cons_succ]
            refine wpAnyH_take (i := 1) (v := .slice (some ⟨go, 0, none⟩) n co) rfl (by kernel_rfl) (by kernel_rfl) (by kernel_rfl) (fun _ _ _ h => h) (Or.inl ⟨by kernel_rfl, fun w hSw => by (try dsimp only at hSw); go_split_ands; go_simp⟩) (by assumption) ?_
            simp only [Act.put, List.getElem_toArray, List.getElem_cons_zero, List.getElem_cons_succ, List.setIfInBounds_toArray, List.set_cons_zero, List.set_cons_succ]
            refine wpAnyH_take (i := 2) (v := .int .i64 (i : Int)) rfl (by kernel_rfl) (by kernel_rfl) (by kernel_rfl) (fun _ _ _ h => h) (Or.inl ⟨by kernel_rfl, fun w hSw => by (try dsimp only at hSw); go_split_ands; go_simp⟩) (by assumption) ?_
            simp only [Act.put, List.getElem_toArray, List.getElem_cons_zero, List.getElem_cons_succ, List.setIfInBounds_toArray, List.set_cons_zero, List.set_cons_succ]
            refine wpAnyH_take (i := 3) (v := .pointer (some ⟨go, i, none⟩)) rfl (by kernel_rfl) (by kernel_rfl) (by kernel_rfl) (fun _ _ _ h => h) (Or.inl ⟨by kernel_rfl, fun w hSw => by (try dsimp only at hSw); go_split_ands; go_simp⟩) (by assumption) ?_
            simp only [Act.put, List.getElem_toArray, List.getElem_cons_zero, List.getElem_cons_succ, List.setIfInBounds_toArray, List.set_cons_zero, List.set_cons_succ]
            refine wpAnyH_take (i := 4) (v := .int .i64 (t : Int)) rfl (by kernel_rfl) (by kernel_rfl) (by kernel_rfl) (fun _ _ _ h => h) (Or.inl ⟨by kernel_rfl, fun w hSw => by (try dsimp only at hSw); go_split_ands; go_simp⟩) (by assumption) ?_
            simp only [Act.put, List.getElem_toArray, List.getElem_cons_zero, List.getElem_cons_succ, List.setIfInBounds_toArray, List.set_cons_zero, List.set_cons_succ]
            refine wpAnyH_take (i := 5) (v := .slice (some ⟨gd, 0, none⟩) n n) rfl (by kernel_rfl) (by kernel_rfl) (by kernel_rfl) (fun _ _ _ h => h) (Or.inl ⟨by kernel_rfl, fun w hSw => by (try dsimp only at hSw); go_split_ands; go_simp⟩) (by assumption) ?_
            simp only [Act.put, List.getElem_toArray, List.getElem_cons_zero, List.getElem_cons_succ, List.setIfInBounds_toArray, List.set_cons_zero, List.set_cons_succ]
            refine wpAnyH_take (i := 6) (v := .slice (some ⟨g3, 0, none⟩) bs.length c3) rfl (by kernel_rfl) (by kernel_rfl) (by kernel_rfl) (fun _ _ _ h => h) (Or.inl ⟨by kernel_rfl, fun w hSw => by (try dsimp only at hSw); go_split_ands; go_simp⟩) (by assumption) ?_
            simp only [Act.put, List.getElem_toArray, List.getElem_cons_zero, List.getElem_cons_succ, List.setIfInBounds_toArray, List.set_cons_zero, List.set_cons_succ]
            refine wpAnyH_take (i := 7) (v := .int .i64 (k : Int)) rfl (by kernel_rfl) (by kernel_rfl) (by kernel_rfl) (fun _ _ _ h => h) (Or.inl ⟨by kernel_rfl, fun w hSw => by (try dsimp only at hSw); go_split_ands; go_simp⟩) (by assumption) ?_
            simp only [Act.put, List.getElem_toArray, List.getElem_cons_zero, List.getElem_cons_succ, List.setIfInBounds_toArray, List.set_cons_zero, List.set_cons_succ]
            refine wpAnyH_take (i := 8) (v := .pointer (some ⟨g3, k, none⟩)) rfl (by kernel_rfl) (by kernel_rfl) (by kernel_rfl) (fun _ _ _ h => h) (Or.inl ⟨by kernel_rfl, fun w hSw => by (try dsimp only at hSw); go_split_ands; go_simp⟩) (by assumption) ?_
            simp only [Act.put, List.getElem_toArray, List.getElem_cons_zero, List.getElem_cons_succ, List.setIfInBounds_toArray, List.set_cons_zero, List.set_cons_succ]
            refine wpAnyH_take (i := 9) (v := .int .i64 (b : Int)) rfl (by kernel_rfl) (by kernel_rfl) (by kernel_rfl) (fun _ _ _ h => h) (Or.inl ⟨by kernel_rfl, fun w hSw => by (try dsimp only at hSw); go_split_ands; go_simp⟩) (by assumption) ?_
            simp only [Act.put, List.getElem_toArray, List.getElem_cons_zero, List.getElem_cons_succ, List.setIfInBounds_toArray, List.set_cons_zero, List.set_cons_succ]
            refine wpAnyH_take (i := 10) (v := .pointer (some ⟨gd, b, none⟩)) rfl (by kernel_rfl) (by kernel_rfl) (by kernel_rfl) (fun _ _ _ h => h) (Or.inl ⟨by kernel_rfl, fun w hSw => by (try dsimp only at hSw); go_split_ands; go_simp⟩) (by assumption) ?_
            simp only [Act.put, List.getElem_toArray, List.getElem_cons_zero, List.getElem_cons_succ, List.setIfInBounds_toArray, List.set_cons_zero, List.set_cons_succ]
            refine wpAnyH_take (i := 11) (v := .int .i64 db) rfl (by kernel_rfl) (by kernel_rfl) (by kernel_rfl) (fun _ _ _ h => h) (Or.inl ⟨by kernel_rfl, fun w hSw => by (try dsimp only at hSw); go_split_ands; go_simp⟩) (by assumption) ?_
            simp only [Act.put, List.getElem_toArray, List.getElem_cons_zero, List.getElem_cons_succ, List.setIfInBounds_toArray, List.set_cons_zero, List.set_cons_succ]
            refine wpAnyH_take (i := 12) (v := .int .i64 (db + 1)) rfl (by kernel_rfl) (by kernel_rfl) (by kernel_rfl) (fun _ _ _ h => h) (Or.inl ⟨by kernel_rfl, fun w hSw => by (try dsimp only at hSw); go_split_ands; go_simp⟩) (by assumption) ?_
            simp only [Act.put, List.getElem_toArray, List.getElem_cons_zero, List.getElem_cons_succ, List.setIfInBounds_toArray, List.set_cons_zero, List.set_cons_succ]
            refine wpAnyH_take (i := 13) (v := .pointer (some ⟨gd, t, none⟩)) rfl (by kernel_rfl) (by kernel_rfl) (by kernel_rfl) (fun _ _ _ h => h) (Or.inl ⟨by kernel_rfl, fun w hSw => by (try dsimp only at hSw); go_split_ands; go_simp⟩) (by assumption) ?_
            simp only [Act.put, List.getElem_toArray, List.getElem_cons_zero, List.getElem_cons_succ, List.setIfInBounds_toArray, List.set_cons_zero, List.set_cons_succ]
            refine wpAnyH_ready (rs := [14]) (by kernel_rfl) (by simp) ?_
            refine AllReadyH.cons (i := 14) rfl (fun K hK => ?_) AllReadyH.nil
            go_simp
            refine hK.out _ _ (unhide S14) (fun hHeld => ?_)
            clear hK
            refine wpAnyH_done (by kernel_rfl) ?_ _
            clear hS hHeld
            go_wp2
            go_roundw
            case rel => exact ⟨k + 1, by omega, by go_num, by rw [unhide R]; exact S6, O7⟩
            case measure => simp [intOf]; omega
          · have hgt1 : decide (tk < db + 1) = false := by simp; omega
            have R : Hid (topD ds (bs.take (k + 1)) = tk) := hide (by rw [unhide UP, if_neg hgt])
            have S2 := hide (dep_below (unhide ST) ((Below.refl _ _).drew))
            have O6 := hide (World.ownsRow.drew (unhide O5))
            clear UP ST O5
            go_wp2_with fail
            go_region_held3 (fun w' => w'.cell? ⟨go, i, none⟩ = some (.int .i64 (t : Int)) ∧ w'.cell? ⟨g3, k, none⟩ = some (.int .i64 (b : Int)) ∧ w'.cell? ⟨gd, b, none⟩ = some (.int .i64 db) ∧ w'.cell? ⟨gd, t, none⟩ = some (.int .i64 tk)) (go_keep) (fail)
            go_wp2
            go_roundw
            case rel => exact ⟨k + 1, by omega, by go_num, by rw [unhide R]; exact S2, O6⟩
            case measure => simp [intOf]; omega
        · have hk1 : ¬ (k : Int) < (bs.length : Int) := by omega
          have R : Hid (DepSt w wr ⟨p1, p2, p3, (n : Int), es⟩ (.slice aa es.length ca) ba n gd go co (depGo es n (ord.take (i + 1))) ord) := by
            rw [List.take_of_length_le (by omega)] at ST
            rw [unhide NX]; exact ST
          clear ST O5
          go_wp2
          go_roundw
          case rel => exact ⟨i + 1, by omega, by go_num, R⟩
          case measure => simp [intOf]; omega
    · have hlt1 : ¬ (i : Int) < (n : Int) := by omega
      have hst := unhide ST
      have hi2 : ord.take i = ord := List.take_of_length_le (by rw [unhide HOL]; omega)
      have hln := (unhide INV ord.length (Nat.le_refl _)).1
      rw [List.take_length] at hln
      have ho := ownsRow_baseE hst.out (B' := w.heap.size) (by omega)
      have hb := hst.below
      rw [hi2] at ho
      have HLN := hide hln
      clear hst ST hi2 hln
      go_wp2
      go_ret
      exact ⟨_, rfl, by rw [unhide HLN]; exact ho, hb⟩
/-- What DepthOf answers: nothing where the plan has a fault, else the depths. -/
def DepAns (p : PlanL) (r : Int) (ds : List Int) : Prop := (¬ r = 0 ∧ ds = []) ∨ (r = 0 ∧ DepIs p.edges p.tasks.toNat ds)
theorem depAns_ex {p : PlanL} {r : Int} (hr : FaultIs p r) : ∃ ds, DepAns p r ds ∧ ds.length ≤ 12 := by
  by_cases h0 : r = 0
  · subst h0
    have hm := (fault_none hr).1
    have hG := goodP_of hr (n := p.tasks.toNat) (by have := hm.1; omega)
    obtain ⟨out, h⟩ := ord_ex hG
    have hd := depGo_is hG h
    exact ⟨_, .inr ⟨rfl, hd⟩, by rw [hd.1]; have := hm.2.1; omega⟩
  · exact ⟨[], .inl ⟨h0, rfl⟩, by simp⟩
set_option maxRecDepth 100000 in
set_option maxHeartbeats 1600000 in
theorem specDepth_any (va : Value) (ba : Nat) (p : PlanL) (r : Int) (ds : List Int) (w : World) (hA : w.ownsRow ba 69 2 va p.edges.length (edgesC p.edges)) (hl : p.edges.length ≤ 2000000) (hr : FaultIs p r) (hr0 : 0 ≤ r) (hr4 : r ≤ 4) (ho : DepAns p r ds) :
    Calls Try.prog 16 #[planV p va] w fun e w' => ∃ v, e = .returned v ∧ w'.ownsRow w.heap.size 3 1 v ds.length (intC ds) ∧ Below w.heap.size w w' := by
  by_cases h0 : r = 0
  · subst h0
    have hm := (fault_none hr).1
    have hn : p.tasks = (p.tasks.toNat : Int) := by have := hm.1; omega
    have hG := goodP_of hr hn
    obtain ⟨out, h⟩ := ord_ex hG
    have e : ds = depGo p.edges p.tasks.toNat out := by
      rcases ho with ⟨h1, _⟩ | ⟨_, h1⟩
      · exact absurd rfl h1
      · exact dep_one hG h1 (depGo_is hG h)
    rw [e]
    exact specDepth_good va ba p.tasks.toNat p out w hA hr hn h
  · have h0' : (r != 0) = true := by simp [h0]
    have hout : ds = [] := by
      rcases ho with ⟨_, h⟩ | ⟨h, _⟩
      · exact h
      · exact absurd h h0
    subst hout
    have FT := fun (W' : World) (h : W'.ownsRow ba 69 2 va p.edges.length (edgesC p.edges)) => hide (specFault_is va ba p r W' h hl hr)
    obtain ⟨p1, p2, p3, p4, es⟩ := p
    dsimp only [planV] at hA FT hl ⊢
    obtain ⟨aa, ca, rfl, -⟩ := ownsRow_shape hA
    have HA := hide hA
    clear hr ho hA
    go_enter Try.func16, Try.ntmps16
    go_wp2_with fail
    refine (unhide (FT _ ((unhide HA).alloc _))).mono ?_
    rintro e w1 ⟨rfl, hb1⟩
    have hB1 : Below w.heap.size w w1 := ((Below.refl _ _).alloc (Nat.le_refl _) _).trans (hb1.mono (by simp))
    have R1 : (w1.alloc (Obj.cells #[] 3)).ownsRow w.heap.size 3 1 (.slice (some ⟨w1.heap.size, 0, none⟩) 0 0) 0 (intC []) := World.ownsRow_lit w1 #[] 0 hB1.size (by decide) rfl
    clear FT HA hb1
    go_wp2
    go_ret
    exact ⟨_, rfl, R1, hB1.alloc hB1.size _⟩
end Go.Proofs.Ytohibgdgncbcoaa
