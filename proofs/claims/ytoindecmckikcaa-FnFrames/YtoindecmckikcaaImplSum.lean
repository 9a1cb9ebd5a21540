/- The walks of the program's own sumTable and SumOf: the sum of the text's bytes, by a table for half a byte. -/
import Derived.Test.YtoindecmckikcaaInfo
import Derived.Test.YtoindecmckikcaaSumBase
namespace Go.Proofs.Ytoindecmckikcaa
open Go.RowKit
set_option linter.unusedVariables false

theorem infoTab : (Try.prog.info? 66).map (·.size) = some 16 := by kernel_rfl
/-- The cells of the table when the first k halves are made. -/
def tabC (k : Nat) : Array Value := Array.ofFn (n := 16) fun i => .int .u32 ((if i.val < k then steps 4 i.val else 0 : Nat) : Int)
theorem tabC_size (k : Nat) : (tabC k).size = 16 := by simp [tabC]
theorem tabC_zero : tabC 0 = #[.int .u32 0, .int .u32 0, .int .u32 0, .int .u32 0, .int .u32 0, .int .u32 0, .int .u32 0, .int .u32 0, .int .u32 0, .int .u32 0, .int .u32 0, .int .u32 0, .int .u32 0, .int .u32 0, .int .u32 0, .int .u32 0] := by rfl
theorem tabC_get (k j : Nat) (h : j < 16) : (tabC k)[j]? = some (.int .u32 ((if j < k then steps 4 j else 0 : Nat) : Int)) := by
  rw [tabC, Array.getElem?_ofFn]; simp [h]
theorem tabC_set (k : Nat) (h : k < 16) : (tabC k).setIfInBounds k (.int .u32 ((steps 4 k : Nat) : Int)) = tabC (k + 1) := by
  apply Array.ext_getElem?
  intro j
  rw [Array.getElem?_setIfInBounds]
  by_cases hj : j < 16
  · rw [tabC_get _ j hj, tabC_get _ j hj, tabC_size]
    by_cases e : k = j
    · subst e; rw [if_pos rfl, if_pos (by omega), if_pos (by omega)]
    · rw [if_neg e]
      by_cases h2 : j < k
      · rw [if_pos h2, if_pos (by omega)]
      · rw [if_neg h2, if_neg (by omega)]
  · rw [if_neg (by omega), Array.getElem?_eq_none (by rw [tabC_size]; omega), Array.getElem?_eq_none (by rw [tabC_size]; omega)]
theorem tabC_one (k : Nat) : (tabC k).all (·.oneCell') = true := by
  rw [Array.all_eq_true]
  intro i hi
  simp [tabC, Value.oneCell']
theorem store_at {w : World} {g j : Nat} {cur : Array Value} {T : TypeId} (h : w.heap[g]? = some (.cells cur T (0, 0))) (u : Value) :
    (w.setCell ⟨g, j, none⟩ u).heap[g]? = some (.cells (cur.setIfInBounds j u) T (0, 0)) ∧ w.grownBy (w.setCell ⟨g, j, none⟩ u) (some g) :=
  ⟨heap_setCell_same w g j cur T u h, ⟨rfl, rfl, rfl, by simp, fun k _ hk => heap_setCell_other w ⟨g, j, none⟩ k u (fun e => hk (by simp [e]))⟩⟩
theorem two_new (w : World) (o o' : Obj) : ((w.alloc o).alloc o').heap[w.heap.size]? = some o ∧ ((w.alloc o).alloc o').heap[w.heap.size + 1]? = some o' := by
  have hs : (w.alloc o).heap.size = w.heap.size + 1 := by simp
  refine ⟨?_, ?_⟩
  · rw [Below.heap_alloc (w.alloc o) o' w.heap.size (by omega)]; exact heap_alloc_new w o
  · rw [← hs]; exact heap_alloc_new (w.alloc o) o'
theorem below_row {B g : Nat} {w0 w : World} (hb : Below B w0 w) (hBg : B ≤ g) (cs : Array Value) : Below B w0 (w.setRow g cs) :=
  hb.trans ⟨rfl, rfl, rfl, by simp [World.setRow], fun k hk => setRow_other w g k cs (by omega)⟩
theorem xor_poly32 (y : Nat) (h : y < 4294967296) : bits .xor .u32 ((y : Int) / 2) 3988292384 = ((y / 2 ^^^ 3988292384 : Nat) : Int) := by
  have := u32_xor_nat (y / 2) 3988292384 (by omega) (by omega)
  rw [show (y : Int) / 2 = ((y / 2 : Nat) : Int) from by omega]; exact this
theorem and_one32 (y : Nat) (h : y < 4294967296) : bits .and .u32 (y : Int) 1 = ((y % 2 : Nat) : Int) := by
  have := u32_and_nat y 1 h (by omega)
  rw [Nat.and_one_is_mod] at this; exact this
theorem and_fifteen32 (y : Nat) (h : y < 4294967296) : bits .and .u32 (y : Int) 15 = ((y % 16 : Nat) : Int) := by
  have := u32_and_nat y 15 h (by omega)
  rw [show (15 : Nat) = 2 ^ 4 - 1 from rfl, Nat.and_two_pow_sub_one_eq_mod] at this; exact this

set_option maxRecDepth 100000 in
set_option maxHeartbeats 3200000 in
theorem sumTable_any (w : World) :
    Calls Try.prog 46 #[] w fun e w' => e = .returned (.agg (tabC 16)) ∧ Below w.heap.size w w' := by
  go_enter Try.func46, Try.ntmps46
  go_wp2
  go_loopw [5] (fun i wr => ∃ k : Nat, k ≤ 16 ∧ i = .int .i64 (k : Int) ∧ wr.heap[w.heap.size + 1]? = some (.cells (tabC k) 66 (0, 0)) ∧ wr.heap[w.heap.size]? = some (.cells (tabC 0) 66 (0, 0)) ∧ Below w.heap.size w wr)
    (fun i _ => 16 - (intOf i).toNat)
  case atStart =>
    refine ⟨0, by omega, rfl, ?_, ?_, ?_⟩
    · rw [← tabC_zero]
      exact (two_new w _ _).2
    · rw [← tabC_zero]
      exact (two_new w _ _).1
    · exact ((Below.refl _ _).alloc (Nat.le_refl _) _).alloc (by simp) _
  case round =>
    obtain ⟨k, hk, rfl, hT, hR, hb⟩ := hrel
    by_cases hlt : k < 16
    · have hj0 : (0 : Int) ≤ (k : Int) := by omega
      have hj1 : (k : Int) < 16 := by omega
      go_wp2
      go_loop [3, 10] (fun x i => ∃ (j v : Nat), j ≤ 4 ∧ i = .int .i64 (j : Int) ∧ x = .int .u32 (v : Int) ∧ v < 4294967296 ∧ Hid (steps j k = v))
        (fun _ i => 4 - (intOf i).toNat)
      case atStart => exact ⟨0, k, by omega, rfl, rfl, by omega, hide rfl⟩
      case round =>
        obtain ⟨j, v, hj, rfl, rfl, hv, hD⟩ := hrel
        by_cases hj4 : j < 4
        · have hv2 := step1_lt v hv
          have hD2 : Hid (steps (j + 1) k = step1 v) := by rw [steps, unhide hD]; exact hide rfl
          have ha := and_one32 v hv
          by_cases hodd : v % 2 = 1
          · rw [hodd] at ha
            have hxp := xor_poly32 v hv
            have e : step1 v = v / 2 ^^^ 3988292384 := by unfold step1; rw [if_pos hodd]
            rw [e] at hD2 hv2
            clear hD e hT hR
            go_wp2
            go_round
            case rel => exact ⟨j + 1, _, by omega, by go_num, rfl, hv2, hD2⟩
            case measure => simp [intOf]; omega
          · rw [show v % 2 = 0 from by omega] at ha
            have e : step1 v = v / 2 := by unfold step1; rw [if_neg hodd]
            rw [e] at hD2 hv2
            clear hD e hT hR
            go_wp2
            go_round
            case rel => exact ⟨j + 1, v / 2, by omega, by go_num, by go_num, hv2, hD2⟩
            case measure => simp [intOf]; omega
        · have hj9 : j = 4 := by omega
          subst hj9
          have c0 : wr.cell? ⟨w.heap.size + 1, k, none⟩ = some (.int .u32 0) := by
            rw [cell_of_row wr _ k _ _ _ hT, tabC_get k k hlt, if_neg (by omega)]; rfl
          have f0 : wr.frozen? ⟨w.heap.size + 1, k, none⟩ = false := by simp [World.frozen?, hT]
          obtain ⟨H1, G1⟩ := store_at (j := k) hT (.int .u32 (v : Int))
          have e : (tabC k).setIfInBounds k (.int .u32 (v : Int)) = tabC (k + 1) := by rw [← unhide hD]; exact tabC_set k hlt
          rw [e] at H1
          have H2 : (wr.setCell ⟨w.heap.size + 1, k, none⟩ (.int .u32 (v : Int))).heap[w.heap.size]? = some (.cells (tabC 0) 66 (0, 0)) := by
            rw [G1.block w.heap.size (Array.getElem?_eq_some_iff.1 hR).1 (by simp)]; exact hR
          have H3 : Below w.heap.size w (wr.setCell ⟨w.heap.size + 1, k, none⟩ (.int .u32 (v : Int))) := hb.trans (below_of_grown G1 hb.size (fun g hg => by cases hg; omega))
          have HH := hide (And.intro H1 (And.intro H2 H3))
          clear hD hT hR hb H1 H2 H3 e G1
          go_wp2
          go_roundw
          case rel => exact ⟨k + 1, by omega, by go_num, (unhide HH).1, (unhide HH).2.1, (unhide HH).2.2⟩
          case measure => simp [intOf]; omega
    · have hk6 : k = 16 := by omega
      subst hk6
      have hI : (Try.prog.info? 66).map (·.size) = some (tabC 16).size := by rw [tabC_size]; exact infoTab
      have hS := hide (setRow_heap wr w.heap.size _ (tabC 16) _ _ hR)
      have hB2 := hide (below_row hb (Nat.le_refl _) (tabC 16))
      go_wp2_with (first | (refine wpList_load_row rfl 66 _ rfl (w.heap.size + 1) rfl 66 (tabC 16) (0, 0) _ hT Try.underlying66 rfl hI ?_) | (refine wpList_store_row rfl 66 _ _ rfl w.heap.size (tabC 16) rfl rfl 66 (tabC 0) hR hI (by rw [tabC_size, tabC_size]) (tabC_one 16) ?_))
      refine bodyPost_ret (v := .agg (tabC 16)) (results_cell_row Try.results46 _ _ w.heap.size 66 (tabC 16) (0, 0) _ rfl (unhide hS) Try.underlying66 rfl hI) rfl ⟨rfl, unhide hB2⟩
/-- Four steps, by the table's cell. -/
theorem tab_xor (z : Nat) (h : z < 4294967296) : bits .xor .u32 ((z : Int) / 16) ((steps 4 (z % 16) : Nat) : Int) = ((steps 4 z : Nat) : Int) := by
  have := u32_xor_nat (z / 16) (steps 4 (z % 16)) (by omega) (steps_lt 4 _ (by omega))
  rw [show (z : Int) / 16 = ((z / 16 : Nat) : Int) from by omega, this, steps_four z]
set_option maxRecDepth 100000 in
set_option maxHeartbeats 3200000 in
theorem implSumOf_any (s : ByteArray) (w : World) (hs : s.size ≤ 1048576) :
    Calls Try.prog 34 #[.string s] w fun e w' => e = .returned (.int .i64 (crc s.data.toList : Int)) ∧ Below w.heap.size w w' := by
  have hI : (Try.prog.info? 66).map (·.size) = some (tabC 16).size := by rw [tabC_size]; exact infoTab
  have C := hide (sumTable_any w)
  go_enter Try.func34, Try.ntmps34
  go_wp2_with (first | (go_at_call 46; refine (unhide C).mono ?_; rintro e w1 ⟨rfl, hb1⟩) | (refine wpList_store_row rfl 66 _ _ rfl w1.heap.size (tabC 16) rfl rfl 66 _ (heap_alloc_new w1 _) hI (by rw [tabC_size]; rfl) (tabC_one 16) ?_))
  rw [← tabC_zero]
  have hW := setRow_heap (w1.alloc (.cells (tabC 0) 66)) w1.heap.size _ (tabC 16) _ _ (heap_alloc_new w1 _)
  have hBW := hide (below_row (hb1.alloc hb1.size (.cells (tabC 0) 66)) hb1.size (tabC 16))
  generalize (w1.alloc (.cells (tabC 0) 66)).setRow w1.heap.size (tabC 16) = W at hW hBW ⊢
  have hcell : ∀ j, j < 16 → W.cell? ⟨w1.heap.size, j, none⟩ = some (.int .u32 ((steps 4 j : Nat) : Int)) := fun j hj => by
    rw [cell_of_row W _ j _ _ _ hW, tabC_get 16 j hj, if_pos hj]
  clear hW C
  go_loop [4, 9] (fun x i => ∃ (k y : Nat), k ≤ s.size ∧ i = .int .i64 (k : Int) ∧ x = .int .u32 (y : Int) ∧ y < 4294967296 ∧ Hid (crcF 4294967295 (s.data.toList.take k) = y))
    (fun _ i => s.size - (intOf i).toNat)
  case atStart => exact ⟨0, 4294967295, Nat.zero_le _, rfl, rfl, by omega, hide (by simp [crcF])⟩
  case round =>
    obtain ⟨k, y, hk, rfl, rfl, hy, hC⟩ := hrel
    by_cases hlt : k < s.size
    · have hj0 : (0 : Int) ≤ (k : Int) := by omega
      have hj1 : (k : Int) < (s.size : Int) := by omega
      have hc : s[k].toNat < 256 := s[k].toNat_lt
      have hx := u32_xor_nat y s[k].toNat hy (by omega)
      have hz := xor_byte_lt y s[k] hy
      have hS : Hid (crcF 4294967295 (s.data.toList.take (k + 1)) = steps 8 (y ^^^ s[k].toNat)) := by
        rw [take_snoc s k hlt, crcF_snoc, unhide hC]; exact hide rfl
      clear hC
      generalize y ^^^ s[k].toNat = z at hx hz hS
      rw [steps_eight] at hS
      have hz1 := steps_lt 4 z hz
      have a1 := and_fifteen32 z hz
      have d1 := hcell (z % 16) (by omega)
      have x1 := tab_xor z hz
      generalize steps 4 z = z1 at hS hz1 x1
      have hz2 := steps_lt 4 z1 hz1
      have a2 := and_fifteen32 z1 hz1
      have d2 := hcell (z1 % 16) (by omega)
      have x2 := tab_xor z1 hz1
      generalize steps 4 z1 = z2 at hS hz2 x2
      have m1 : ((z % 16 : Nat) : Int) < 16 := by omega
      have m2 : ((z1 % 16 : Nat) : Int) < 16 := by omega
      clear hcell
      go_wp2
      go_round
      case rel => exact ⟨k + 1, z2, by omega, by go_num, rfl, hz2, hS⟩
      case measure => simp [intOf]; omega
    · have hx := u32_xor_nat 4294967295 y (by omega) hy
      have hR : Hid (4294967295 ^^^ y = crc s.data.toList) := by
        have := unhide hC
        rw [take_all s k hlt] at this
        unfold crc; rw [this, Nat.xor_comm]; exact hide rfl
      have hl : 4294967295 ^^^ y < 4294967296 := by rw [unhide hR]; exact crc_lt _
      have hF : Hid (wrap64 (bits .xor .u32 IntKind.u32.max (y : Int)) = (crc s.data.toList : Int)) := by
        have e : bits .xor .u32 IntKind.u32.max (y : Int) = ((4294967295 ^^^ y : Nat) : Int) := hx
        rw [e, w64_in _ (by omega) (by omega), unhide hR]; exact hide rfl
      clear hC hcell hx
      go_wp2
      go_ret
      exact ⟨ret_int (unhide hF), unhide hBW⟩
end Go.Proofs.Ytoindecmckikcaa
