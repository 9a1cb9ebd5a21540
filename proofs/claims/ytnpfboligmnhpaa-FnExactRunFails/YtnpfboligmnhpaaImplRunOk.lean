/- The walk of the program's RunOk. -/
import Derived.Test.YtnpfboligmnhpaaImplNeeds
import Derived.Test.YtnpfboligmnhpaaImplFits
import Derived.Deep.RegionHeld3
import Derived.Deep.DeepCutAuto
namespace Go.Proofs.Ytnpfboligmnhpaa
open Go.RowKit
open scoped Classical
set_option linter.unusedVariables false
set_option linter.unusedSimpArgs false
attribute [local go_sem ↓] Go.wp_at_zero Go.wp_at_succ

set_option maxRecDepth 100000 in
set_option maxHeartbeats 6400000 in
theorem implRunOk_any (ve vt : Value) (ba bt : Nat) (r : RunL) (w : World) (hA : w.ownsRow ba 96 2 ve r.plan.edges.length (edgesC r.plan.edges)) (hT : w.ownsRow bt 40 4 vt r.tasks.length (quadsC r.tasks)) (hl : r.plan.edges.length ≤ 2000000) (hm : r.tasks.length ≤ 2000000) :
    Calls Try.prog 13 #[runV r ve vt] w fun e w' => e = .returned (.bool (decide (RunOkA r))) ∧ Below w.heap.size w w' := by
  obtain ⟨f, hf, f0, f4⟩ := fault_ex r.plan
  obtain ⟨PF, hPF⟩ : ∃ P, P = RunOkA r := ⟨_, rfl⟩
  rw [← hPF]
  obtain ⟨id, p, s0, ts⟩ := r
  simp only at hA hT hl hm hf
  have TF : Hid (PF ↔ ((1 ≤ id ∧ id ≤ 9999) ∧ FaultIs p 0 ∧ (ts.length : Int) = p.tasks ∧ (∀ x ∈ ts, 1 ≤ x.a ∧ x.a ≤ 6) ∧ (∀ (k : Nat) (h : k < ts.length), TaskFits p.most ts[k] (needL ts (befL p (k : Int)))) ∧ s0 = stateA ts ∧ s0 ≠ 0)) := hide (by rw [hPF]; rfl)
  obtain ⟨ae, ce, rfl, -⟩ := ownsRow_shape hA
  obtain ⟨at_, ct, rfl, sgt⟩ := ownsRow_shape hT
  have FT := fun (W : World) (h : W.ownsRow ba 96 2 (.slice ae p.edges.length ce) p.edges.length (edgesC p.edges)) => hide (implFault_is _ ba p f W h hl hf)
  have ND := fun (hin : ∀ e ∈ p.edges, edgeIn ts.length e) (W : World) (h1 : W.ownsRow ba 96 2 (.slice ae p.edges.length ce) p.edges.length (edgesC p.edges)) (h2 : W.ownsRow bt 40 4 (.slice at_ ts.length ct) ts.length (quadsC ts)) => hide (implNeeds_any _ _ ba bt ts.length ⟨id, p, s0, ts⟩ W h1 h2 hl rfl hm hin)
  have FI2 := fun (hin : ∀ x ∈ ts, 1 ≤ x.a ∧ x.a ≤ 6) (W : World) (h2 : W.ownsRow bt 40 4 (.slice at_ ts.length ct) ts.length (quadsC ts)) => hide (implFits_any s0 _ bt ts W h2 hm hin)
  have FN : Hid (f = 0 → manyOk p ∧ edgesIn p ∧ onceOk p ∧ noCycle p) := hide (fun e => by rw [e] at hf; exact fault_none hf)
  have FO : Hid (f ≠ 0 → ¬ FaultIs p 0) := hide (fun e h => e (fault_one hf h))
  have FI : Hid (f = 0 → FaultIs p 0) := hide (fun e => by rw [e] at hf; exact hf)
  have NT : Hid (∀ (n : Nat), p.tasks = (n : Int) → (∀ e ∈ p.edges, edgeIn n e) → p.edges.Nodup → ∀ t : Nat, needT ts p.edges t = needL ts (befL p (t : Int))) := hide (fun n hn hin hnd t => needT_risen hn hin hnd t)
  have HA := hide (And.intro hA hT)
  clear hA hT hf hPF
  obtain ⟨p1, p2, p3, p4, es⟩ := p
  unfold planV at FT
  unfold runV runC at ND ⊢
  simp only at FT ND TF hl HA ⊢
  have C0 := fun lo hi W => hide (wi_any id lo hi W)
  by_cases hid : 1 ≤ id ∧ id ≤ 9999
  · have q0 : decide (1 ≤ id ∧ id ≤ 9999) = true := decide_eq_true hid
    have C1 := fun W => C0 1 9999 W
    rw [q0] at C1
    clear C0 q0
    have HI := hide hid
    clear hid
    go_enter Try.func13, Try.ntmps13
    go_wp2_with fail
    obtain ⟨W, hW⟩ : ∃ W, W = w.alloc (Obj.cells #[.int .i64 id, .int .i64 p1, .int .i64 p2, .int .i64 p3, .int .i64 p4, .slice ae es.length ce, .int .i64 s0, .slice at_ ts.length ct] 29) := ⟨_, rfl⟩
    have HX := hide (show W.heap[w.heap.size]? = some (.cells #[.int .i64 id, .int .i64 p1, .int .i64 p2, .int .i64 p3, .int .i64 p4, .slice ae es.length ce, .int .i64 s0, .slice at_ ts.length ct] 29 (0, 0)) by rw [hW]; exact heap_alloc_new _ _)
    have hb0 : Below w.heap.size w W := by rw [hW]; exact (Below.refl _ _).alloc (Nat.le_refl _) _
    rw [← hW]
    clear hW
    refine (unhide (C1 _)).mono ?_
    rintro e w0 ⟨rfl, hw0⟩
    rw [hw0]
    clear hw0 w0 C1
    have y1a := cellIn (i := 1) (unhide HX) rfl
    have y2a := cellIn (i := 2) (unhide HX) rfl
    have y3a := cellIn (i := 3) (unhide HX) rfl
    have y4a := cellIn (i := 4) (unhide HX) rfl
    have y5a := cellIn (i := 5) (unhide HX) rfl
    go_wp2_with fail
    refine (unhide (FT _ (ownsRow_below (unhide HA).1 hb0))).mono ?_
    rintro e w1 ⟨rfl, hb1⟩
    have t1 := hb0.trans (hb1.mono hb0.size)
    clear FT y1a y2a y3a y4a y5a
    have y0b := cellIn (i := 0) (boxR (unhide HX) hb1) rfl
    have y1b := cellIn (i := 1) (boxR (unhide HX) hb1) rfl
    have y2b := cellIn (i := 2) (boxR (unhide HX) hb1) rfl
    have y3b := cellIn (i := 3) (boxR (unhide HX) hb1) rfl
    have y4b := cellIn (i := 4) (boxR (unhide HX) hb1) rfl
    have y5b := cellIn (i := 5) (boxR (unhide HX) hb1) rfl
    have y6b := cellIn (i := 6) (boxR (unhide HX) hb1) rfl
    have y7b := cellIn (i := 7) (boxR (unhide HX) hb1) rfl
    by_cases hf0 : f = 0
    · have FN1 := hide (unhide FN hf0)
      have FI1 := hide (unhide FI hf0)
      subst hf0
      by_cases hlen : (ts.length : Int) = p4
      · have el : ((ts.length : Int) != p4) = false := by rw [bne_eq_false_iff_eq]; exact hlen
        have HLEN := hide hlen
        clear hlen
        obtain ⟨fm, fi, fo, -⟩ := unhide FN1
        have hin : ∀ e ∈ es, edgeIn ts.length e := fun e he => by have := fi e he; rwa [show (⟨p1, p2, p3, p4, es⟩ : PlanL).tasks = (ts.length : Int) from (unhide HLEN).symm] at this
        have HNT := hide (fun t => unhide NT ts.length (unhide HLEN).symm hin fo t)
        have ND1 := ND hin
        have hmo : 1 ≤ p2 ∧ p2 ≤ 5 := ⟨fm.2.2.2.2.2.1, fm.2.2.2.2.2.2.1⟩
        have t12 : ts.length ≤ 12 := by have h1 := fm.2.1; have h2 := unhide HLEN; dsimp only at h1; omega
        clear fm fi fo hin ND NT FN FO FI
        have HMO := hide hmo
        clear hmo
        go_wp2_with fail
        refine (unhide (ND1 _ (ownsRow_below (unhide HA).1 t1) (ownsRow_below (unhide HA).2 t1))).mono ?_
        rintro e w2 ⟨g, rfl, on, hb2⟩
        have hb12 := hb1.trans (hb2.mono hb1.size)
        have t2 := hb0.trans (hb12.mono hb0.size)
        clear ND1 hb1 hb2 t1 y0b y1b y2b y3b y4b y5b y6b y7b el
        have HON := hide on
        clear on
        go_wp2
        go_loopw [27] (fun v wr => ∃ k : Nat, k ≤ ts.length ∧ v = .int .i64 k ∧ Below w2.heap.size w2 wr ∧ Hid (∀ (j : Nat) (h : j < ts.length), j < k → (1 ≤ ts[j].a ∧ ts[j].a ≤ 6) ∧ TaskFits p2 ts[j] (needL ts (befL ⟨p1, p2, p3, p4, es⟩ (j : Int)))))
          (fun v _ => ts.length - (intOf v).toNat)
        case atStart => exact ⟨0, Nat.zero_le _, rfl, Below.refl _ _, hide (fun j h h2 => by omega)⟩
        case round =>
          obtain ⟨k, hk, rfl, hb, hat⟩ := hrel
          have hbX := hb12.trans (hb.mono hb12.size)
          have tX := hb0.trans (hbX.mono hb0.size)
          by_cases hlt : k < ts.length
          · obtain ⟨gt, rfl⟩ := sgt (by omega)
            have hk0 : (0 : Int) ≤ (k : Int) := Int.natCast_nonneg _
            have hk1 : (k : Int) < (ts.length : Int) := by omega
            obtain ⟨c1, c2, c3, c4⟩ := quadsC_cell (ownsRow_below (unhide HA).2 tX) hlt
            have cn := intC_cell (ownsRow_below (unhide HON) hb) (by rw [needsL_len]) (k := k) (by rw [needsL_len]; exact hlt)
            rw [needsL_get, unhide HNT k] at cn
            have x7 := cellIn (i := 7) (boxR (unhide HX) hbX) rfl
            have x2 := cellIn (i := 2) (boxR (unhide HX) hbX) rfl
            have HA1 : ((1 ≤ ts[k].a ∧ ts[k].a ≤ 6) ∧ TaskFits p2 ts[k] (needL ts (befL ⟨p1, p2, p3, p4, es⟩ (k : Int)))) → Hid (∀ (j : Nat) (h : j < ts.length), j < k + 1 → (1 ≤ ts[j].a ∧ ts[j].a ≤ 6) ∧ TaskFits p2 ts[j] (needL ts (befL ⟨p1, p2, p3, p4, es⟩ (j : Int)))) := fun h => hide (fun j hj hj2 => by
              rcases Nat.lt_or_ge j k with h3 | h3
              · exact unhide hat j hj h3
              · have e : j = k := by omega
                subst e; exact h)
            have HA2 : ¬ ((1 ≤ ts[k].a ∧ ts[k].a ≤ 6) ∧ TaskFits p2 ts[k] (needL ts (befL ⟨p1, p2, p3, p4, es⟩ (k : Int)))) → Hid (¬ PF) := fun h => hide (by rw [unhide TF]; exact fun g => h ⟨g.2.2.2.1 _ (List.getElem_mem hlt), g.2.2.2.2.1 k hlt⟩)
            generalize needL ts (befL ⟨p1, p2, p3, p4, es⟩ (k : Int)) = nd at cn HA1 HA2
            have C := fun (R : Bool) (hR : R = true ↔ (1 ≤ ts[k].a ∧ ts[k].a ≤ 6) ∧ TaskFits p2 ts[k] nd) (W : World) => hide (implRight_is ts[k] nd p2 R W (unhide HMO) hR)
            generalize ts[k] = x at c1 c2 c3 c4 HA1 HA2 C
            obtain ⟨xa, xb, xc, xd⟩ := x
            unfold quadV at C
            simp only at c1 c2 c3 c4 C
            have HBX := hide (And.intro hb tX)
            have hsz := hb.size
            clear hat hbX tX hb
            by_cases hq : (1 ≤ xa ∧ xa ≤ 6) ∧ TaskFits p2 ⟨xa, xb, xc, xd⟩ nd
            · have C := C true (by simp [hq])
              have hat2 := HA1 hq
              clear HA1 HA2 hq
              go_upto_region 6 with fail
              go_region_held3 (fun w' => w'.cell? ⟨w.heap.size, 7, none⟩ = some (.slice (some ⟨gt, 0, none⟩) ts.length ct) ∧ w'.cell? ⟨w.heap.size, 2, none⟩ = some (.int .i64 p2) ∧ w'.cell? ⟨gt, k * 4, none⟩ = some (.int .i64 xa) ∧ w'.cell? ⟨gt, k * 4 + 1, none⟩ = some (.int .i64 xb) ∧ w'.cell? ⟨gt, k * 4 + 2, none⟩ = some (.int .i64 xc) ∧ w'.cell? ⟨gt, k * 4 + 3, none⟩ = some (.int .i64 xd))
                (first | go_keep | exact ⟨cell_later hb3 (by assumption), cell_later hb3 (by assumption), cell_later hb3 (by assumption), cell_later hb3 (by assumption), cell_later hb3 (by assumption), cell_later hb3 (by assumption)⟩)
                ((go_at_call 46; refine (unhide (C _)).mono ?_; rintro e w3 ⟨rfl, hb3⟩))
              all_goals
                have hbn := hide (((unhide HBX).1.drew).trans (hb3.mono hsz))
                clear C hb3 x7 x2 c1 c2 c3 c4 cn
                go_wp2
                go_roundw
                case rel => exact ⟨k + 1, by omega, by go_num, unhide hbn, hat2⟩
                case measure => simp [intOf]; omega
            · have C := C false (by simp [hq])
              have HE := HA2 hq
              clear HA1 HA2 hq
              go_upto_region 6 with fail
              go_region_held3 (fun w' => w'.cell? ⟨w.heap.size, 7, none⟩ = some (.slice (some ⟨gt, 0, none⟩) ts.length ct) ∧ w'.cell? ⟨w.heap.size, 2, none⟩ = some (.int .i64 p2) ∧ w'.cell? ⟨gt, k * 4, none⟩ = some (.int .i64 xa) ∧ w'.cell? ⟨gt, k * 4 + 1, none⟩ = some (.int .i64 xb) ∧ w'.cell? ⟨gt, k * 4 + 2, none⟩ = some (.int .i64 xc) ∧ w'.cell? ⟨gt, k * 4 + 3, none⟩ = some (.int .i64 xd))
                (first | go_keep | exact ⟨cell_later hb3 (by assumption), cell_later hb3 (by assumption), cell_later hb3 (by assumption), cell_later hb3 (by assumption), cell_later hb3 (by assumption), cell_later hb3 (by assumption)⟩)
                ((go_at_call 46; refine (unhide (C _)).mono ?_; rintro e w3 ⟨rfl, hb3⟩))
              all_goals
                have hbn := hide (((unhide HBX).2.drew).trans (hb3.mono (unhide HBX).2.size))
                clear C hb3 x7 x2 c1 c2 c3 c4 cn
                go_wp2
                go_ret
                exact ⟨by rw [decide_eq_false (unhide HE)]; rfl, unhide hbn⟩
          · have x7 := cellIn (i := 7) (boxR (unhide HX) hbX) rfl
            have x6 := cellIn (i := 6) (boxR (unhide HX) hbX) rfl
            have hall : ∀ x ∈ ts, 1 ≤ x.a ∧ x.a ≤ 6 := fun x hx => by
              obtain ⟨j, hj, rfl⟩ := List.mem_iff_getElem.1 hx
              exact (unhide hat j hj (by omega)).1
            have HE : Hid (PF ↔ fitsS s0 ts = true) := hide (by
              rw [unhide TF, fitsS_iff hall]
              exact ⟨fun h => h.2.2.2.2.2, fun h => ⟨unhide HI, unhide FI1, unhide HLEN, hall, fun j hj => (unhide hat j hj (by omega)).2, h⟩⟩)
            have FF := hide (unhide (FI2 hall _ (ownsRow_below (unhide HA).2 tX)))
            have HTX := hide tX
            clear FI2 hall hat hbX tX hb TF
            go_wp2_with fail
            refine (unhide FF).mono ?_
            rintro e w3 ⟨rfl, hb3⟩
            have hbn := hide ((unhide HTX).trans (hb3.mono (unhide HTX).size))
            clear FF hb3 x7 x6
            generalize hbb : fitsS s0 ts = bb at HE
            go_wp2
            go_ret
            refine ⟨?_, unhide hbn⟩
            have := unhide HE
            first
              | (rw [hbb]; cases bb <;> simp_all)
              | (cases bb <;> simp_all)
      · have el : ((ts.length : Int) != p4) = true := by simp; exact hlen
        have HE : Hid (¬ PF) := hide (by rw [unhide TF]; exact fun g => hlen g.2.2.1)
        clear hlen
        go_wp2
        go_ret
        exact ⟨by rw [decide_eq_false (unhide HE)]; rfl, t1⟩
    · have ef : (f != 0) = true := by simp; exact hf0
      have HE : Hid (¬ PF) := hide (by rw [unhide TF]; exact fun g => unhide FO hf0 g.2.1)
      clear hf0
      go_wp2
      go_ret
      exact ⟨by rw [decide_eq_false (unhide HE)]; rfl, t1⟩
  · have q0 : decide (1 ≤ id ∧ id ≤ 9999) = false := decide_eq_false hid
    have C1 := fun W => C0 1 9999 W
    rw [q0] at C1
    have HE : Hid (¬ PF) := hide (by rw [unhide TF]; exact fun g => hid g.1)
    clear C0 q0 hid FT ND FI2
    go_enter Try.func13, Try.ntmps13
    go_wp2_with fail
    obtain ⟨W, hW⟩ : ∃ W, W = w.alloc (Obj.cells #[.int .i64 id, .int .i64 p1, .int .i64 p2, .int .i64 p3, .int .i64 p4, .slice ae es.length ce, .int .i64 s0, .slice at_ ts.length ct] 29) := ⟨_, rfl⟩
    have hb0 : Below w.heap.size w W := by rw [hW]; exact (Below.refl _ _).alloc (Nat.le_refl _) _
    rw [← hW]
    clear hW
    refine (unhide (C1 _)).mono ?_
    rintro e w0 ⟨rfl, hw0⟩
    rw [hw0]
    clear hw0 w0 C1
    go_wp2
    go_ret
    exact ⟨by rw [decide_eq_false (unhide HE)]; rfl, hb0⟩
end Go.Proofs.Ytnpfboligmnhpaa
