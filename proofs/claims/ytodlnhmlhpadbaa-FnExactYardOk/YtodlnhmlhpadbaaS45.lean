/- The walks of the program's own sumTable and SumOf: the sum of the text's bytes, by a table for half a byte. -/
import Derived.Test.YtodlnhmlhpadbaaS2
import Derived.Test.YtodlnhmlhpadbaaS44
import Derived.Test.YtodlnhmlhpadbaaImplYOpen
import Derived.Test.YtodlnhmlhpadbaaS43
import Derived.Laws.OwnMore
import Derived.Test.YtodlnhmlhpadbaaS42
import Derived.Test.YtodlnhmlhpadbaaImplYSlots
import Derived.Test.YtodlnhmlhpadbaaEdgeHelp
import Derived.WalkKit
import Derived.ProofKit
import Derived.OpenShut
import Derived.SliceStrings
import Derived.Deep.Slices
import Derived.Deep.Strs
import Derived.Lib.SmallJoins
namespace Go.Proofs.Ytodlnhmlhpadbaa
open Go.RowKit
set_option linter.unusedVariables false

theorem infoTab : (Try.prog.info? 86).map (·.size) = some 16 := by kernel_rfl
/-- The cells of the table when the first k halves are made. -/
def tabC (k : Nat) : Array Value := Array.ofFn (n := 16) fun i => .int .u32 ((if i.val < k then steps 4 i.val else 0 : Nat) : Int)
theorem tabC_size (k : Nat) : (tabC k).size = 16 := by simp [tabC]
theorem tabC_zero : tabC 0 = #[.int .u32 0, .int .u32 0, .int .u32 0, .int .u32 0, .int .u32 0, .int .u32 0, .int .u32 0, .int .u32 0, .int .u32 0, .int .u32 0, .int .u32 0, .int .u32 0, .int .u32 0, .int .u32 0, .int .u32 0, .int .u32 0] := by rfl
theorem tabC_get (k j : Nat) (h : j < 16) : (tabC k)[j]? = some (.int .u32 ((if j < k then steps 4 j else 0 : Nat) : Int)) := by
  rw [tabC, Array.getElem?_ofFn]; simp [h]
theorem tabC_set (k : Nat) (h : k < 16) : (tabC k).setIfInBounds k (.int .u32 ((steps 4 k : Nat) : Int)) = tabC (k + 1) := by
  apply Array.ext_getElem?
  intro j
  rw [Array.getElem?_setIfInBounds]
  by_cases hj : j < 16
  · rw [tabC_get _ j hj, tabC_get _ j hj, tabC_size]
    by_cases e : k = j
    · subst e; rw [if_pos rfl, if_pos (by omega), if_pos (by omega)]
    · rw [if_neg e]
      by_cases h2 : j < k
      · rw [if_pos h2, if_pos (by omega)]
      · rw [if_neg h2, if_neg (by omega)]
  · rw [if_neg (by omega), Array.getElem?_eq_none (by rw [tabC_size]; omega), Array.getElem?_eq_none (by rw [tabC_size]; omega)]
theorem tabC_one (k : Nat) : (tabC k).all (·.oneCell') = true := by
  rw [Array.all_eq_true]
  intro i hi
  simp [tabC, Value.oneCell']
theorem store_at {w : World} {g j : Nat} {cur : Array Value} {T : TypeId} (h : w.heap[g]? = some (.cells cur T (0, 0))) (u : Value) :
    (w.setCell ⟨g, j, none⟩ u).heap[g]? = some (.cells (cur.setIfInBounds j u) T (0, 0)) ∧ w.grownBy (w.setCell ⟨g, j, none⟩ u) (some g) :=
  ⟨heap_setCell_same w g j cur T u h, ⟨rfl, rfl, rfl, by simp, fun k _ hk => heap_setCell_other w ⟨g, j, none⟩ k u (fun e => hk (by simp [e]))⟩⟩
theorem two_new (w : World) (o o' : Obj) : ((w.alloc o).alloc o').heap[w.heap.size]? = some o ∧ ((w.alloc o).alloc o').heap[w.heap.size + 1]? = some o' := by
  have hs : (w.alloc o).heap.size = w.heap.size + 1 := by simp
  refine ⟨?_, ?_⟩
  · rw [Below.heap_alloc (w.alloc o) o' w.heap.size (by omega)]; exact heap_alloc_new w o
  · rw [← hs]; exact heap_alloc_new (w.alloc o) o'
theorem below_row {B g : Nat} {w0 w : World} (hb : Below B w0 w) (hBg : B ≤ g) (cs : Array Value) : Below B w0 (w.setRow g cs) :=
  hb.trans ⟨rfl, rfl, rfl, by simp [World.setRow], fun k hk => setRow_other w g k cs (by omega)⟩
theorem xor_poly32 (y : Nat) (h : y < 4294967296) : bits .xor .u32 ((y : Int) / 2) 3988292384 = ((y / 2 ^^^ 3988292384 : Nat) : Int) := by
  have := u32_xor_nat (y / 2) 3988292384 (by omega) (by omega)
  rw [show (y : Int) / 2 = ((y / 2 : Nat) : Int) from by omega]; exact this
theorem and_one32 (y : Nat) (h : y < 4294967296) : bits .and .u32 (y : Int) 1 = ((y % 2 : Nat) : Int) := by
  have := u32_and_nat y 1 h (by omega)
  rw [Nat.and_one_is_mod] at this; exact this
theorem and_fifteen32 (y : Nat) (h : y < 4294967296) : bits .and .u32 (y : Int) 15 = ((y % 16 : Nat) : Int) := by
  have := u32_and_nat y 15 h (by omega)
  rw [show (15 : Nat) = 2 ^ 4 - 1 from rfl, Nat.and_two_pow_sub_one_eq_mod] at this; exact this

set_option maxRecDepth 100000 in
set_option maxHeartbeats 3200000 in
theorem sumTable_any (w : World) :
    Calls Try.prog 67 #[] w fun e w' => e = .returned (.agg (tabC 16)) ∧ Below w.heap.size w w' := by
  go_enter Try.func67, Try.ntmps67
  go_wp2
  go_loopw [5] (fun i wr => ∃ k : Nat, k ≤ 16 ∧ i = .int .i64 (k : Int) ∧ wr.heap[w.heap.size + 1]? = some (.cells (tabC k) 86 (0, 0)) ∧ wr.heap[w.heap.size]? = some (.cells (tabC 0) 86 (0, 0)) ∧ Below w.heap.size w wr)
    (fun i _ => 16 - (intOf i).toNat)
  case atStart =>
    refine ⟨0, by omega, rfl, ?_, ?_, ?_⟩
    · rw [← tabC_zero]
      exact (two_new w _ _).2
    · rw [← tabC_zero]
      exact (two_new w _ _).1
    · exact ((Below.refl _ _).alloc (Nat.le_refl _) _).alloc (by simp) _
  case round =>
    obtain ⟨k, hk, rfl, hT, hR, hb⟩ := hrel
    by_cases hlt : k < 16
    · have hj0 : (0 : Int) ≤ (k : Int) := by omega
      have hj1 : (k : Int) < 16 := by omega
      go_wp2
      go_loop [3, 10] (fun x i => ∃ (j v : Nat), j ≤ 4 ∧ i = .int .i64 (j : Int) ∧ x = .int .u32 (v : Int) ∧ v < 4294967296 ∧ Hid (steps j k = v))
        (fun _ i => 4 - (intOf i).toNat)
      case atStart => exact ⟨0, k, by omega, rfl, rfl, by omega, hide rfl⟩
      case round =>
        obtain ⟨j, v, hj, rfl, rfl, hv, hD⟩ := hrel
        by_cases hj4 : j < 4
        · have hv2 := step1_lt v hv
          have hD2 : Hid (steps (j + 1) k = step1 v) := by rw [steps, unhide hD]; exact hide rfl
          have ha := and_one32 v hv
          by_cases hodd : v % 2 = 1
          · rw [hodd] at ha
            have hxp := xor_poly32 v hv
            have e : step1 v = v / 2 ^^^ 3988292384 := by unfold step1; rw [if_pos hodd]
            rw [e] at hD2 hv2
            clear hD e hT hR
            go_wp2
            go_round
            case rel => exact ⟨j + 1, _, by omega, by go_num, rfl, hv2, hD2⟩
            case measure => simp [intOf]; omega
          · rw [show v % 2 = 0 from by omega] at ha
            have e : step1 v = v / 2 := by unfold step1; rw [if_neg hodd]
            rw [e] at hD2 hv2
            clear hD e hT hR
            go_wp2
            go_round
            case rel => exact ⟨j + 1, v / 2, by omega, by go_num, by go_num, hv2, hD2⟩
            case measure => simp [intOf]; omega
        · have hj9 : j = 4 := by omega
          subst hj9
          have c0 : wr.cell? ⟨w.heap.size + 1, k, none⟩ = some (.int .u32 0) := by
            rw [cell_of_row wr _ k _ _ _ hT, tabC_get k k hlt, if_neg (by omega)]; rfl
          have f0 : wr.frozen? ⟨w.heap.size + 1, k, none⟩ = false := by simp [World.frozen?, hT]
          obtain ⟨H1, G1⟩ := store_at (j := k) hT (.int .u32 (v : Int))
          have e : (tabC k).setIfInBounds k (.int .u32 (v : Int)) = tabC (k + 1) := by rw [← unhide hD]; exact tabC_set k hlt
          rw [e] at H1
          have H2 : (wr.setCell ⟨w.heap.size + 1, k, none⟩ (.int .u32 (v : Int))).heap[w.heap.size]? = some (.cells (tabC 0) 86 (0, 0)) := by
            rw [G1.block w.heap.size (Array.getElem?_eq_some_iff.1 hR).1 (by simp)]; exact hR
          have H3 : Below w.heap.size w (wr.setCell ⟨w.heap.size + 1, k, none⟩ (.int .u32 (v : Int))) := hb.trans (below_of_grown G1 hb.size (fun g hg => by cases hg; omega))
          have HH := hide (And.intro H1 (And.intro H2 H3))
          clear hD hT hR hb H1 H2 H3 e G1
          go_wp2
          go_roundw
          case rel => exact ⟨k + 1, by omega, by go_num, (unhide HH).1, (unhide HH).2.1, (unhide HH).2.2⟩
          case measure => simp [intOf]; omega
    · have hk6 : k = 16 := by omega
      subst hk6
      have hI : (Try.prog.info? 86).map (·.size) = some (tabC 16).size := by rw [tabC_size]; exact infoTab
      have hS := hide (setRow_heap wr w.heap.size _ (tabC 16) _ _ hR)
      have hB2 := hide (below_row hb (Nat.le_refl _) (tabC 16))
      go_wp2_with (first | (refine wpList_load_row rfl 86 _ rfl (w.heap.size + 1) rfl 86 (tabC 16) (0, 0) _ hT Try.underlying86 rfl hI ?_) | (refine wpList_store_row rfl 86 _ _ rfl w.heap.size (tabC 16) rfl rfl 86 (tabC 0) hR hI (by rw [tabC_size, tabC_size]) (tabC_one 16) ?_))
      refine bodyPost_ret (v := .agg (tabC 16)) (results_cell_row Try.results67 _ _ w.heap.size 86 (tabC 16) (0, 0) _ rfl (unhide hS) Try.underlying86 rfl hI) rfl ⟨rfl, unhide hB2⟩
/-- Four steps, by the table's cell. -/
theorem tab_xor (z : Nat) (h : z < 4294967296) : bits .xor .u32 ((z : Int) / 16) ((steps 4 (z % 16) : Nat) : Int) = ((steps 4 z : Nat) : Int) := by
  have := u32_xor_nat (z / 16) (steps 4 (z % 16)) (by omega) (steps_lt 4 _ (by omega))
  rw [show (z : Int) / 16 = ((z / 16 : Nat) : Int) from by omega, this, steps_four z]
set_option maxRecDepth 100000 in
set_option maxHeartbeats 3200000 in
theorem implSumOf_any (s : ByteArray) (w : World) (hs : s.size ≤ 1048576) :
    Calls Try.prog 41 #[.string s] w fun e w' => e = .returned (.int .i64 (crc s.data.toList : Int)) ∧ Below w.heap.size w w' := by
  have hI : (Try.prog.info? 86).map (·.size) = some (tabC 16).size := by rw [tabC_size]; exact infoTab
  have C := hide (sumTable_any w)
  go_enter Try.func41, Try.ntmps41
  go_wp2_with (first | (go_at_call 67; refine (unhide C).mono ?_; rintro e w1 ⟨rfl, hb1⟩) | (refine wpList_store_row rfl 86 _ _ rfl w1.heap.size (tabC 16) rfl rfl 86 _ (heap_alloc_new w1 _) hI (by rw [tabC_size]; rfl) (tabC_one 16) ?_))
  rw [← tabC_zero]
  have hW := setRow_heap (w1.alloc (.cells (tabC 0) 86)) w1.heap.size _ (tabC 16) _ _ (heap_alloc_new w1 _)
  have hBW := hide (below_row (hb1.alloc hb1.size (.cells (tabC 0) 86)) hb1.size (tabC 16))
  generalize (w1.alloc (.cells (tabC 0) 86)).setRow w1.heap.size (tabC 16) = W at hW hBW ⊢
  have hcell : ∀ j, j < 16 → W.cell? ⟨w1.heap.size, j, none⟩ = some (.int .u32 ((steps 4 j : Nat) : Int)) := fun j hj => by
    rw [cell_of_row W _ j _ _ _ hW, tabC_get 16 j hj, if_pos hj]
  clear hW C
  go_loop [4, 9] (fun x i => ∃ (k y : Nat), k ≤ s.size ∧ i = .int .i64 (k : Int) ∧ x = .int .u32 (y : Int) ∧ y < 4294967296 ∧ Hid (crcF 4294967295 (s.data.toList.take k) = y))
    (fun _ i => s.size - (intOf i).toNat)
  case atStart => exact ⟨0, 4294967295, Nat.zero_le _, rfl, rfl, by omega, hide (by simp [crcF])⟩
  case round =>
    obtain ⟨k, y, hk, rfl, rfl, hy, hC⟩ := hrel
    by_cases hlt : k < s.size
    · have hj0 : (0 : Int) ≤ (k : Int) := by omega
      have hj1 : (k : Int) < (s.size : Int) := by omega
      have hc : s[k].toNat < 256 := s[k].toNat_lt
      have hx := u32_xor_nat y s[k].toNat hy (by omega)
      have hz := xor_byte_lt y s[k] hy
      have hS : Hid (crcF 4294967295 (s.data.toList.take (k + 1)) = steps 8 (y ^^^ s[k].toNat)) := by
        rw [take_snoc s k hlt, crcF_snoc, unhide hC]; exact hide rfl
      clear hC
      generalize y ^^^ s[k].toNat = z at hx hz hS
      rw [steps_eight] at hS
      have hz1 := steps_lt 4 z hz
      have a1 := and_fifteen32 z hz
      have d1 := hcell (z % 16) (by omega)
      have x1 := tab_xor z hz
      generalize steps 4 z = z1 at hS hz1 x1
      have hz2 := steps_lt 4 z1 hz1
      have a2 := and_fifteen32 z1 hz1
      have d2 := hcell (z1 % 16) (by omega)
      have x2 := tab_xor z1 hz1
      generalize steps 4 z1 = z2 at hS hz2 x2
      have m1 : ((z % 16 : Nat) : Int) < 16 := by omega
      have m2 : ((z1 % 16 : Nat) : Int) < 16 := by omega
      clear hcell
      go_wp2
      go_round
      case rel => exact ⟨k + 1, z2, by omega, by go_num, rfl, hz2, hS⟩
      case measure => simp [intOf]; omega
    · have hx := u32_xor_nat 4294967295 y (by omega) hy
      have hR : Hid (4294967295 ^^^ y = crc s.data.toList) := by
        have := unhide hC
        rw [take_all s k hlt] at this
        unfold crc; rw [this, Nat.xor_comm]; exact hide rfl
      have hl : 4294967295 ^^^ y < 4294967296 := by rw [unhide hR]; exact crc_lt _
      have hF : Hid (wrap64 (bits .xor .u32 IntKind.u32.max (y : Int)) = (crc s.data.toList : Int)) := by
        have e : bits .xor .u32 IntKind.u32.max (y : Int) = ((4294967295 ^^^ y : Nat) : Int) := hx
        rw [e, w64_in _ (by omega) (by omega), unhide hR]; exact hide rfl
      clear hC hcell hx
      go_wp2
      go_ret
      exact ⟨ret_int (unhide hF), unhide hBW⟩
end Go.Proofs.Ytodlnhmlhpadbaa

/- The walks of the program's YardNew and ShelfOf. -/
namespace Go.Proofs.Ytodlnhmlhpadbaa
open Go.RowKit
open scoped Classical
set_option linter.unusedVariables false
set_option linter.unusedSimpArgs false
attribute [local go_sem ↓] Go.wp_at_zero Go.wp_at_succ

theorem crc_nil : crc [] = 0 := by decide
set_option maxRecDepth 100000 in
set_option maxHeartbeats 1600000 in
theorem implShelfOfX (id : Int) (w : World) : Calls Try.prog 16 #[.int .i64 id] w fun e w' => e = .returned (.int .i64 (shelfNo id : Int)) ∧ Below w.heap.size w w' := by
  have C1 := hide (implVarText_any id w)
  have hs := varT_short id
  have C2 := fun W => hide (implSumOf_any ⟨(varT id).toArray⟩ W (by rw [size_mk]; omega))
  have e1 : shelfNo id = ((crc (varT id) % 4 : Nat) : Int) := by
    unfold shelfNo
    split
    · rename_i h; rw [h, crc_nil]; rfl
    · rfl
  have hc := crc_lt (varT id)
  have hz : (((crc (varT id) : Nat) : Int).tmod 4) = shelfNo id := by rw [e1, Int.tmod_eq_emod_of_nonneg (by omega)]; omega
  have HZ := hide hz
  clear e1 hs hz
  go_enter Try.func16, Try.ntmps16
  go_wp2_with fail
  refine (unhide C1).mono ?_
  rintro e w1 ⟨rfl, hb1⟩
  go_wp2_with fail
  refine (unhide (C2 w1)).mono ?_
  rintro e w2 ⟨rfl, hb2⟩
  have t := hb1.trans (hb2.mono hb1.size)
  have hz := unhide HZ
  have hc2 : (crc (varT id) : Int) < 4294967296 := by omega
  clear hb1 hb2 HZ C1 C2
  dsimp only at hz hc2 ⊢
  generalize crc (varT id) = q at *
  have HZ := hide hz
  clear hz
  go_wp2
  go_ret
  exact ⟨by rw [← unhide HZ] <;> rfl, t⟩
theorem made_nil : (madeCells (Value.slice none 0 0).cells (4 * 1)).toList = [.slice none 0 0, .slice none 0 0, .slice none 0 0, .slice none 0 0] := by
  have := made_many2 (Value.slice none 0 0).cells 4
  exact this
theorem pc_nil (w : World) (lo hi : Nat) (e : TypeId) (size : Nat) : PcX w lo hi e size (.slice none 0 0) 0 [] := ⟨⟨by simp, .inl ⟨rfl, rfl⟩⟩, fun g hg => by simp [Value.ownBlock] at hg⟩
theorem four_nil {P : Value → List QuadL → Prop} (h : P (.slice none 0 0) []) : ∀ (i : Nat) (h1 : i < [Value.slice none 0 0, .slice none 0 0, .slice none 0 0, .slice none 0 0].length) (h2 : i < ([[], [], [], []] : List (List QuadL)).length), P ([Value.slice none 0 0, .slice none 0 0, .slice none 0 0, .slice none 0 0][i]) (([[], [], [], []] : List (List QuadL))[i])
  | 0, _, _ => h
  | 1, _, _ => h
  | 2, _, _ => h
  | 3, _, _ => h
  | n + 4, h1, _ => by simp at h1; omega
theorem new_shelves {w : World} {lo hi g cap : Nat} (ho : w.ownsRow lo 48 1 (.slice (some ⟨g, 0, none⟩) 4 cap) 4 [.slice none 0 0, .slice none 0 0, .slice none 0 0, .slice none 0 0]) (hg : g < hi) :
    ShelvesX w lo hi (.slice (some ⟨g, 0, none⟩) 4 cap) [.slice none 0 0, .slice none 0 0, .slice none 0 0, .slice none 0 0] [[], [], [], []] :=
  ⟨rfl, ⟨pcOf ho, fun k hk => by have : g = k := Option.some.inj hk; omega⟩, four_nil (P := fun v l => PcX w lo hi 42 4 v l.length (quadsC l)) (pc_nil w lo hi _ _),
    fun i j hi hj hij => .inl (by
      have : ∀ v ∈ [Value.slice none 0 0, .slice none 0 0, .slice none 0 0, .slice none 0 0], v.ownBlock = none := by intro v hv; simp at hv; rw [hv]; rfl
      exact this _ (List.getElem_mem hi))⟩
set_option maxRecDepth 100000 in
set_option maxHeartbeats 3200000 in
theorem implYardNewX (w : World) : Calls Try.prog 11 #[] w fun e w' => ∃ vs vr us, e = .returned (yardV yardNew vs vr) ∧ YardX w' w.heap.size w'.heap.size vs vr us [] yardNew ∧ Below w.heap.size w w' := by
  obtain ⟨i0, hi0, hz0, hz1, hz2⟩ := info_parts infoShelf
  go_enter Try.func11, Try.ntmps11
  go_upto_region 1 with fail
  obtain ⟨W, hW⟩ : ∃ W, W = w.alloc (Obj.cells #[.int .i64 0, .int .i64 0, .slice none 0 0, .slice none 0 0] 25) := ⟨_, rfl⟩
  have hx : W.heap[w.heap.size]? = some (.cells #[.int .i64 0, .int .i64 0, .slice none 0 0, .slice none 0 0] 25 (0, 0)) := by rw [hW]; exact heap_alloc_new _ _
  have hb0 : Below w.heap.size w W := by rw [hW]; exact (Below.refl _ _).alloc (Nat.le_refl _) _
  have hs0 : W.heap.size = w.heap.size + 1 := by rw [hW]; simp
  rw [← hW]
  obtain ⟨V, hrun, oM, gM⟩ := run_make_full (P := Try.prog) (w := W) W.heap.size 22 48 i0 _ 1 Try.underlying22 hi0 hz0 hz1 .i64 .i64 4 (by rw [hz2]; omega) (by unfold maxLen; omega) (Nat.le_refl _)
  have hrun' : (Instr.makeSlice 22 (.int .i64 4) (.int .i64 4)).run Try.prog W = .ok (.slice (some ⟨W.heap.size, 0, none⟩) 4 4) V := hrun
  rw [made_nil] at oM
  have hbV : Below W.heap.size W V := (Below.refl _ _).grown gM (Nat.le_refl _) (fun k hk => by cases hk)
  have hgV := (oM.lt W.heap.size rfl).2
  have hxV := heapLater hbV hx
  have hB := hb0.trans (hbV.mono hb0.size)
  obtain ⟨bx, hbx⟩ : ∃ b, b = w.heap.size := ⟨_, rfl⟩
  rw [← hbx] at hx hxV ⊢
  have f0 := softIn (i := 0) hxV
  have f1 := softIn (i := 1) hxV
  have f2 := softIn (i := 2) hxV
  have f3 := softIn (i := 3) hxV
  obtain ⟨s1, s2⟩ := setMany_is [(0, .int .i64 0), (1, .int .i64 1), (2, .slice (some ⟨W.heap.size, 0, none⟩) 4 4), (3, .slice none 0 0)] V _ hxV
  rw [put4] at s1
  simp only [setMany] at s1 s2
  have oN := oM.kept s2 (.inr (by simp [Value.ownBlock]; omega))
  have hB2 := below_trans_grown (B := w.heap.size) hB s2 ⟨by omega, by have := hB.size; omega⟩
  have d0 := cellIn (i := 0) hxV rfl
  have d1 := cellIn (i := 1) hxV rfl
  have d2 := cellIn (i := 2) hxV rfl
  have d3 := cellIn (i := 3) hxV rfl
  have gsz := s2.size
  obtain ⟨Z, hZ⟩ : ∃ Z, Z = (((V.setCell ⟨bx, 0, none⟩ (.int .i64 0)).setCell ⟨bx, 1, none⟩ (.int .i64 1)).setCell ⟨bx, 2, none⟩ (.slice (some ⟨W.heap.size, 0, none⟩) 4 4)).setCell ⟨bx, 3, none⟩ (.slice none 0 0) := ⟨_, rfl⟩
  rw [← hZ] at s1 oN hB2 gsz
  have HZ := hide hZ
  have HF := hide (And.intro s1 (And.intro oN (And.intro hB2 gsz)))
  have HS := hide hs0
  have HBX := hide hbx
  clear s1 s2 oN hB2 gsz hZ oM gM hbV hxV hx hB hrun hb0 hW hs0 hbx
  go_wp2
  rw [← unhide HZ]
  obtain ⟨s1, oN, hB2, gsz⟩ := unhide HF
  obtain ⟨r0, r1, r2, r3⟩ := cells_fourY s1
  have hs0 := unhide HS
  refine bodyPost_ret (v := yardV yardNew (.slice (some ⟨W.heap.size, 0, none⟩) 4 4) (.slice none 0 0)) (by simp [results, Try.results11, go_sem, r0, r1, r2, r3, yardV, yardC, yardNew]) rfl ⟨_, _, _, rfl, ⟨new_shelves (ownsRow_baseT oN (by omega)) (by omega), ?_⟩, hB2⟩
  exact runsX_wide (nestR_x (nestR_nil Z w.heap.size)) (Nat.le_refl _) (Nat.le_refl _)
end Go.Proofs.Ytodlnhmlhpadbaa

/- The program's functions of chapter 10, walked: what the laws ask of them. -/

/- A plan that came in, opened: its edges lie in old memory. -/
namespace Go.Proofs.Ytodlnhmlhpadbaa
open Go.ChangeShapes Go.WideShapes Go.ChangeAt Go.RowKit Go.Deep
set_option linter.unusedVariables false

theorem cellsPlan : Try.prog.cellsOf 94 = 5 := by kernel_rfl
theorem cellsEdge : Try.prog.cellsOf 141 = 2 := by kernel_rfl
theorem cellsIntP : Try.prog.cellsOf 3 = 1 := by kernel_rfl
theorem cellsEdges : Try.prog.cellsOf 92 = 1 := by kernel_rfl
set_option maxRecDepth 100000 in
theorem open_edge {H : Type} {enc : TypeId × Value → H} {w : World} {base : Nat} {spare : Nat → Bool} {held : Bool} {n : Nat} {cs : List Value} {x : DataW H × List MemPlace}
    (h : DataW.trod enc Try.prog w base spare held n 141 cs = some x) : ∃ f : EdgeL, cs = [.int .i64 f.fr, .int .i64 f.dst] := by
  obtain ⟨y0, y1, k, _, hl, h0, h1⟩ := trod_struct2 Try.underlying141 h
  rw [cellsEdge] at hl
  match cs, hl with
  | [v0, v1], _ =>
    simp only [cellsIntP, List.drop_zero, List.drop_succ_cons, List.take_succ_cons, List.take_zero] at h0 h1
    obtain ⟨i0, e0, _, b0⟩ := DataW.trod_int Try.underlying3 h0
    obtain ⟨i1, e1, _, b1⟩ := DataW.trod_int Try.underlying3 h1
    simp only [List.cons.injEq, and_true] at e0 e1
    subst e0; subst e1
    exact ⟨⟨i0, i1⟩, rfl⟩
set_option maxRecDepth 100000 in
theorem open_plan {H : Type} {enc : TypeId × Value → H} {w : World} {base b0 : Nat} {spare : Nat → Bool} {held : Bool} {r : Go.Reach} {v : Value} {d : DataW H} {p : List MemPlace}
    (hv : Value.okWide Try.prog w r b0 94 v) (h : DataW.Trod enc Try.prog w base spare held 94 v d p) :
    ∃ (a : Option Addr) (cap : Nat) (q : PlanL), v = planV q (.slice a q.edges.length cap) ∧ q.edges.length ≤ 9223372036854775807 ∧ EdgesIn w w.heap.size a q.edges := by
  obtain ⟨cs, rfl, hsz⟩ := okWide_struct Try.underlying94 hv
  rw [cellsPlan] at hsz
  obtain ⟨fuel, hf⟩ := h
  obtain ⟨xs, k, _, _, hl, hlen, hg⟩ := DataW.trod_struct Try.underlying94 hf
  have hcs : ∃ c0 c1 c2 c3 c4, cs = #[c0, c1, c2, c3, c4] := by
    match cs, hsz with
    | ⟨[c0, c1, c2, c3, c4]⟩, _ => exact ⟨c0, c1, c2, c3, c4, rfl⟩
  obtain ⟨c0, c1, c2, c3, c4, rfl⟩ := hcs
  obtain ⟨y0, y1, y2, y3, y4, rfl⟩ : ∃ y0 y1 y2 y3 y4, xs = [y0, y1, y2, y3, y4] := by
    match xs, hlen with
    | [y0, y1, y2, y3, y4], _ => exact ⟨y0, y1, y2, y3, y4, rfl⟩
  have h0 : DataW.trod enc Try.prog w base spare held k 3 [c0] = some y0 := by simpa [Value.cells, cellsIntP] using hg 0 _ rfl
  have h1 : DataW.trod enc Try.prog w base spare held k 3 [c1] = some y1 := by simpa [Value.cells, cellsIntP] using hg 1 _ rfl
  have h2 : DataW.trod enc Try.prog w base spare held k 3 [c2] = some y2 := by simpa [Value.cells, cellsIntP] using hg 2 _ rfl
  have h3 : DataW.trod enc Try.prog w base spare held k 3 [c3] = some y3 := by simpa [Value.cells, cellsIntP] using hg 3 _ rfl
  have h4 : DataW.trod enc Try.prog w base spare held k 92 [c4] = some y4 := by simpa [Value.cells, cellsEdges] using hg 4 _ rfl
  obtain ⟨i0, e0, _, _⟩ := DataW.trod_int Try.underlying3 h0
  obtain ⟨i1, e1, _, _⟩ := DataW.trod_int Try.underlying3 h1
  obtain ⟨i2, e2, _, _⟩ := DataW.trod_int Try.underlying3 h2
  obtain ⟨i3, e3, _, _⟩ := DataW.trod_int Try.underlying3 h3
  simp only [List.cons.injEq, and_true] at e0 e1 e2 e3
  subst e0; subst e1; subst e2; subst e3
  rcases open_slice Try.underlying92 h4 with ⟨e, _⟩ | ⟨a, len, cap, m, n, D, Pl, e, _, hl2, hm, hmm, _, hx⟩
  · simp at e
    subst e
    exact ⟨none, 0, ⟨i0, i1, i2, i3, []⟩, rfl, by simp, fun j hj => by simp at hj⟩
  · simp at e
    subst e
    have hlm : len ≤ m := by rw [hmm]; split <;> omega
    have each : ∀ i, i < m → ∃ f : EdgeL, ∀ q, q < 2 → w.cell? ((a.add (i * 2)).add q) = [Value.int .i64 f.fr, .int .i64 f.dst][q]? := by
      intro i hi
      obtain ⟨cs', h1, h2⟩ := hx i hi
      rw [cellsEdge] at h1
      obtain ⟨_, hlen, hcell⟩ := World.cells?_some h1
      obtain ⟨f, rfl⟩ := open_edge h2
      exact ⟨f, hcell⟩
    have inh : Inhabited EdgeL := ⟨⟨0, 0⟩⟩
    obtain ⟨F, hF⟩ := choose_lt each
    refine ⟨some a, cap, ⟨i0, i1, i2, i3, (List.range len).map F⟩, by simp [planV], ?_, ?_⟩
    · unfold maxLen at hm; simp; omega
    · intro j hj
      have hj1 : j < len := by simpa using hj
      have hc := hF j (by omega)
      have h00 := World.cell?_spot ((hF 0 (by omega)) 0 (by omega))
      obtain ⟨b, off, spot⟩ := a
      have hspot : spot = none := by simpa [Addr.add] using h00
      subst hspot
      have g0 := hc 0 (by omega)
      have g1 := hc 1 (by omega)
      simp only [add_plain, Nat.add_zero, List.getElem?_cons_zero, List.getElem?_cons_succ] at g0 g1
      simp only [List.getElem_map, List.getElem_range]
      exact ⟨b, off, rfl, World.block_lt_of_cell? w _ g0, g0, g1⟩
end Go.Proofs.Ytodlnhmlhpadbaa
