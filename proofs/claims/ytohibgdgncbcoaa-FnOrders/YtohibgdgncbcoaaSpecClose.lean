/- The walk of the specification's CloseOf. -/
import Derived.Test.YtohibgdgncbcoaaSpecOrder
namespace Go.Proofs.Ytohibgdgncbcoaa
open Go.RowKit
open scoped Classical
set_option linter.unusedVariables false
attribute [local go_sem ↓] Go.wp_at_zero Go.wp_at_succ

theorem risen_same (f g : Int → Bool) (n : Nat) (h : ∀ t : Int, 0 ≤ t → t < (n : Int) → f t = g t) : risen f n = risen g n := by
  induction n with
  | zero => rfl
  | succ n ih => rw [risen_succ, risen_succ, ih (fun t h0 h1 => h t h0 (by omega)), h (n : Int) (by omega) (by omega)]
/-- What CloseOf answers: the task and all that it reaches, rising; nothing where it is no task or the plan has a fault. -/
def CloseAns (p : PlanL) (r a : Int) (out : List Int) : Prop :=
  (¬ (r = 0 ∧ 0 ≤ a ∧ a < p.tasks) ∧ out = []) ∨ ((r = 0 ∧ 0 ≤ a ∧ a < p.tasks) ∧ ∃ f : Int → Bool, (∀ t : Int, 0 ≤ t → t < p.tasks → (f t = true ↔ t = a ∨ Reach p.edges a t)) ∧ out = risen f p.tasks.toNat)
theorem closeAns_ex {p : PlanL} {r : Int} (a : Int) (hr : FaultIs p r) : ∃ out, CloseAns p r a out ∧ out.length ≤ 12 := by
  by_cases h : r = 0 ∧ 0 ≤ a ∧ a < p.tasks
  · refine ⟨_, .inr ⟨h, fun t => decide (t = a ∨ Reach p.edges a t), fun t _ _ => by simp, rfl⟩, ?_⟩
    have h1 := h.1
    subst h1
    have := risen_len (fun t => decide (t = a ∨ Reach p.edges a t)) p.tasks.toNat
    have := (fault_none hr).1.2.1
    omega
  · exact ⟨[], .inl ⟨h, rfl⟩, by simp⟩
theorem closeAns_one {p : PlanL} {r a : Int} {x y : List Int} (hr : FaultIs p r) (h : CloseAns p r a x) (k : CloseAns p r a y) : x = y := by
  rcases h with ⟨h1, rfl⟩ | ⟨h1, f, hf, rfl⟩
  · rcases k with ⟨k1, rfl⟩ | ⟨k1, _⟩
    · rfl
    · exact absurd k1 h1
  · rcases k with ⟨k1, _⟩ | ⟨k1, g, hg, rfl⟩
    · exact absurd h1 k1
    · refine risen_same f g _ (fun t h0 hlt => ?_)
      have e1 := h1.1
      subst e1
      have := (fault_none hr).1.1
      have i1 := hf t h0 (by omega)
      have i2 := hg t h0 (by omega)
      cases hft : f t <;> cases hgt : g t <;> simp_all
set_option maxRecDepth 100000 in
set_option maxHeartbeats 3200000 in
theorem specClose_any (va : Value) (ba : Nat) (p : PlanL) (r a : Int) (out : List Int) (w : World) (hA : w.ownsRow ba 69 2 va p.edges.length (edgesC p.edges)) (hl : p.edges.length ≤ 2000000) (hr : FaultIs p r) (hr0 : 0 ≤ r) (hr4 : r ≤ 4) (ho : CloseAns p r a out) :
    Calls Try.prog 33 #[planV p va, .int .i64 a] w fun e w' => ∃ v, e = .returned v ∧ w'.ownsRow w.heap.size 3 1 v out.length (intC out) ∧ Below w.heap.size w w' := by
  obtain ⟨j0, hj0, hy0, hy1, hy2⟩ := info_parts info3
  have old : ∀ x, va.ownBlock = some x → x < w.heap.size := fun x hx => (hA.lt x hx).2
  have FT := fun (W' : World) (h : W'.ownsRow ba 69 2 va p.edges.length (edgesC p.edges)) => hide (specFault_is va ba p r W' h hl hr)
  have FR := fun (h0 : r = 0) (n : Nat) (hn : p.tasks = (n : Int)) (W' : World) (h : W'.ownsRow ba 69 2 va p.edges.length (edgesC p.edges)) => hide (specFrom_any va ba n p a W' h hn (by subst h0; have := (fault_none hr).1.2.1; omega) (by subst h0; exact (fault_none hr).1.2.2.1) (by subst h0; exact (fault_none hr).2.1))
  have HM := hide (fun h0 : r = 0 => (show 1 ≤ p.tasks ∧ p.tasks ≤ 12 by subst h0; exact ⟨(fault_none hr).1.1, (fault_none hr).1.2.1⟩))
  have HONE := hide (fun (y : List Int) (hy : CloseAns p r a y) => closeAns_one hr hy ho)
  clear hr ho
  obtain ⟨p1, p2, p3, p4, es⟩ := p
  dsimp only [planV] at hA FT FR hl HM HONE ⊢
  obtain ⟨aa, ca, rfl, -⟩ := ownsRow_shape hA
  have HA := hide hA
  clear hA
  obtain ⟨W, hW⟩ : ∃ W, W = (w.alloc (Obj.cells #[.int .i64 p1, .int .i64 p2, .int .i64 p3, .int .i64 p4, .slice aa es.length ca] 26)).alloc (Obj.cells #[] 3) := ⟨_, rfl⟩
  have hb0 : Below w.heap.size w W := by rw [hW]; exact ((Below.refl _ _).alloc (Nat.le_refl _) _).alloc (by simp) _
  have x1 : W.heap[w.heap.size]? = some (.cells #[.int .i64 p1, .int .i64 p2, .int .i64 p3, .int .i64 p4, .slice aa es.length ca] 26 (0, 0)) := by rw [hW, Below.heap_alloc _ _ _ (by simp)]; exact heap_alloc_new w _
  have x2 : W.ownsRow (w.heap.size + 1) 3 1 (.slice (some ⟨w.heap.size + 1, 0, none⟩) 0 0) 0 (intC []) := by
    rw [hW]
    have h := World.ownsRow_lit (base := w.heap.size + 1) (e := 3) (size := 1) (w.alloc (Obj.cells #[.int .i64 p1, .int .i64 p2, .int .i64 p3, .int .i64 p4, .slice aa es.length ca] 26)) #[] 0 (by simp) (by decide) rfl
    rw [show (w.alloc (Obj.cells #[.int .i64 p1, .int .i64 p2, .int .i64 p3, .int .i64 p4, .slice aa es.length ca] 26)).heap.size = w.heap.size + 1 from by simp] at h
    exact h
  go_enter Try.func33, Try.ntmps33
  go_wp2_with fail
  rw [← hW]
  clear hW
  refine (unhide (FT _ (ownsRow_below (unhide HA) hb0))).mono ?_
  rintro e w1 ⟨rfl, b1⟩
  have y1 := heapLater b1 x1
  have y2 := ownsRow_below x2 b1
  have hb1 := hb0.trans (b1.mono hb0.size)
  have y3 := ownsRow_below (unhide HA) hb1
  have c3 := cellIn (i := 3) y1 rfl
  clear x1 x2 hb0 b1 FT HA
  by_cases h0 : r = 0
  · subst h0
    obtain ⟨hm1, hm2⟩ := unhide HM rfl
    have FR0 := FR rfl
    clear FR
    go_wp2_with fail
    by_cases ha : 0 ≤ a ∧ a ≤ p4 - 1
    · refine (in_yes a 0 (p4 - 1) _ ha.1 ha.2).mono ?_
      rintro e w1' ⟨rfl, rfl⟩
      obtain ⟨n, hn⟩ : ∃ n : Nat, p4 = (n : Int) := ⟨p4.toNat, by omega⟩
      subst hn
      have FR1 := FR0 n rfl
      clear FR0
      have p0 := cellIn (i := 0) y1 rfl
      have p1' := cellIn (i := 1) y1 rfl
      have p2' := cellIn (i := 2) y1 rfl
      have p4' := cellIn (i := 4) y1 rfl
      go_wp2_with fail
      refine (unhide (FR1 _ y3)).mono ?_
      rintro e w2 ⟨gt, tb, rfl, htl, hiff, ht, b2⟩
      have ST0 : Hid (OrdSt w w2 ⟨p1, p2, p3, (n : Int), es⟩ (.slice aa es.length ca) ba n gt tb (w.heap.size + 1) 0 []) := hide
        ⟨heapLater b2 y1, ownsRow_below y3 b2, ownsRow_baseE ht (by have h : w.heap.size + 1 < w1'.heap.size := (y2.lt _ rfl).2; omega), ownsRow_below y2 b2, hb1.trans (b2.mono hb1.size), old⟩
      have HIF := hide hiff
      have HTL := hide htl
      clear hiff htl ht b2 y1 y2 y3 hb1 c3 p0 p1' p2' p4' FR1
      go_wp2
      go_loopw [5, 7] (fun l x wr => ∃ (t gl cl : Nat) (ls : List Int), t ≤ n ∧ x = .int .i64 t ∧ l = .slice (some ⟨gl, 0, none⟩) ls.length cl ∧ ls.length ≤ t ∧ Hid (ls = risen (fun u => u == a || tb.getD u.toNat false) t) ∧ Hid (OrdSt w wr ⟨p1, p2, p3, (n : Int), es⟩ (.slice aa es.length ca) ba n gt tb gl cl ls))
        (fun _ x _ => n - (intOf x).toNat)
      case atStart => exact ⟨0, w.heap.size + 1, 0, [], Nat.zero_le _, rfl, rfl, by simp, hide rfl, ST0⟩
      case round =>
        clear ST0
        obtain ⟨t, gl, cl, ls, htn, rfl, rfl, hll, HL, ST⟩ := hrel
        obtain ⟨c0, c1, c2, c3, c4⟩ := ord_cells (unhide ST)
        dsimp only at c0 c1 c2 c3 c4
        by_cases hlt : t < n
        · have hlt1 : (t : Int) < (n : Int) := by omega
          have ht0 : (0 : Int) ≤ (t : Int) := Int.natCast_nonneg _
          have d1 := boolC_cell (unhide ST).told (unhide HTL).symm (k := t) (by rw [unhide HTL]; exact hlt)
          have HS := hide (risen_succ (fun u => u == a || tb.getD u.toNat false) t)
          have hg : tb.getD t false = tb[t]'(by rw [unhide HTL]; exact hlt) := by rw [List.getD_eq_getElem?_getD, List.getElem?_eq_getElem]; rfl
          have HV : Hid (((t : Int) == a || tb.getD (t : Int).toNat false) = ((t : Int) == a || tb[t]'(by rw [unhide HTL]; exact hlt))) := hide (by rw [Int.toNat_natCast, hg])
          rw [unhide HV, ← unhide HL] at HS
          generalize tb[t]'(by rw [unhide HTL]; exact hlt) = tv at d1 HS
          clear hg HV
          have hsz := (unhide ST).lst.lt gl rfl
          by_cases hta : ((t : Int) == a || tv) = true
          · rw [hta, if_pos rfl] at HS
            have hcase : ((t : Int) == a) = true ∨ (((t : Int) == a) = false ∧ tv = true) := by
              cases h1 : ((t : Int) == a)
              · rw [h1] at hta; exact .inr ⟨rfl, by simpa using hta⟩
              · exact .inl rfl
            have HS1 := hide (unhide HS).symm
            clear hta HS HL
            rcases hcase with k1 | ⟨k1, k2⟩
            · go_upto_region 9 with fail
              go_wp2_with (at_builtin; refine wpList_append_lies _ (by rfl) _ _ _ (by rfl) (w.heap.size + 1) 3 j0 _ 1 8 Try.underlying28 hj0 hy0 hy1 hy2 rfl (by omega) _ ls.length _ (by rfl) ((unhide ST).lst.alloc _) ⟨wr.heap.size, 0, none⟩ 1 1 [.int .i64 (t : Int)] (by rfl) (by rfl) (World.news_of_block (cs := #[.int .i64 (t : Int)]) (t := 3) (fr := (0, 0)) (heap_alloc_new wr _)) (by simp [Value.oneCell']) (by omega) (by unfold maxLen; omega) (by omega) (by simp; omega) (wr.heap.size + 1) (by simp) ?_)
              intro gl2 cl2 W5 ho5 hg5 hat5 hlt5
              have S5 := hide (ord_app (unhide ST) hg5 ho5)
              clear ho5 hg5 hat5 hlt5 ST hsz c0 c1 c2 c3 c4 d1
              go_wp2
              go_roundw
              case rel => exact ⟨t + 1, gl2, cl2, ls ++ [(t : Int)], by omega, by go_num, by simp, by simp; omega, HS1, S5⟩
              case measure => simp [intOf]; omega
            · subst k2
              go_upto_region 9 with fail
              go_wp2_with (at_builtin; refine wpList_append_lies _ (by rfl) _ _ _ (by rfl) (w.heap.size + 1) 3 j0 _ 1 8 Try.underlying28 hj0 hy0 hy1 hy2 rfl (by omega) _ ls.length _ (by rfl) ((unhide ST).lst.alloc _) ⟨wr.heap.size, 0, none⟩ 1 1 [.int .i64 (t : Int)] (by rfl) (by rfl) (World.news_of_block (cs := #[.int .i64 (t : Int)]) (t := 3) (fr := (0, 0)) (heap_alloc_new wr _)) (by simp [Value.oneCell']) (by omega) (by unfold maxLen; omega) (by omega) (by simp; omega) (wr.heap.size + 1) (by simp) ?_)
              intro gl2 cl2 W5 ho5 hg5 hat5 hlt5
              have S5 := hide (ord_app (unhide ST) hg5 ho5)
              clear ho5 hg5 hat5 hlt5 ST hsz c0 c1 c2 c3 c4 d1
              go_wp2
              go_roundw
              case rel => exact ⟨t + 1, gl2, cl2, ls ++ [(t : Int)], by omega, by go_num, by simp, by simp; omega, HS1, S5⟩
              case measure => simp [intOf]; omega
          · have hta2 : ((t : Int) == a || tv) = false := by simpa using hta
            rw [hta2, if_neg (by decide)] at HS
            rw [Bool.or_eq_false_iff] at hta2
            obtain ⟨k1, k2⟩ := hta2
            subst k2
            have HS1 : Hid (ls = risen (fun u => u == a || tb.getD u.toNat false) (t + 1)) := hide (by rw [unhide HS, List.append_nil])
            clear hta HS HL hsz
            go_wp2
            go_roundw
            case rel => exact ⟨t + 1, gl, cl, ls, by omega, by go_num, rfl, by omega, HS1, ST⟩
            case measure => simp [intOf]; omega
        · have hlt1 : ¬ (t : Int) < (n : Int) := by omega
          have etn : t = n := by omega
          have he := unhide HONE ls (.inr ⟨⟨rfl, ha.1, by show a < (n : Int); omega⟩, fun u => u == a || tb.getD u.toNat false, fun u u0 u1 => by
            dsimp only at u1 ⊢
            have hul : u.toNat < tb.length := by rw [unhide HTL]; omega
            have hi := unhide HIF u.toNat hul
            rw [Int.toNat_of_nonneg u0] at hi
            rw [Bool.or_eq_true, List.getD_eq_getElem?_getD, List.getElem?_eq_getElem hul, beq_iff_eq]
            exact or_congr Iff.rfl hi, by rw [unhide HL, etn]; rfl⟩)
          have HEQ := hide he
          have hlst := ownsRow_baseE (unhide ST).lst (B' := w.heap.size) (by omega)
          have hbel := (unhide ST).below
          clear ST HL he etn
          go_wp2
          go_ret
          exact ⟨_, rfl, by rw [← unhide HEQ]; exact hlst, hbel⟩
    · refine (in_no a 0 (p4 - 1) _ ha).mono ?_
      rintro e w1' ⟨rfl, rfl⟩
      have he := unhide HONE [] (.inl ⟨fun h => ha ⟨h.2.1, by have := h.2.2; dsimp only at this; omega⟩, rfl⟩)
      subst he
      have hlst := ownsRow_baseE y2 (B' := w.heap.size) (by omega)
      clear y1 y3 FR0 HONE y2
      go_wp2
      go_ret
      exact ⟨_, rfl, hlst, hb1⟩
  · have h0' : (r != 0) = true := by simp [h0]
    have he := unhide HONE [] (.inl ⟨fun h => h0 h.1, rfl⟩)
    subst he
    have hlst := ownsRow_baseE y2 (B' := w.heap.size) (by omega)
    clear y1 y3 FR HONE y2
    go_wp2
    go_ret
    exact ⟨_, rfl, hlst, hb1⟩
end Go.Proofs.Ytohibgdgncbcoaa
