/- The walks of a draw's cursor: a new cursor over drawn bytes; each byte that is drawn is below 256; a number that is drawn below n is below n; nothing but the cursor's own cells is written. -/
import Derived.Test.YtnpfboligmnhpaaInfo
import Derived.Laws.BitsLemmas
import Derived.OpenShut
namespace Go.Proofs.Ytnpfboligmnhpaa
open Go.RowKit
attribute [local go_sem ↓] Go.wp_at_zero Go.wp_at_succ

theorem and255 (n : Int) : bits .and .i64 n 255 = n % 256 := by
  have h255 : (BitVec.ofInt 64 255).toNat = 2 ^ 8 - 1 := by decide
  have key : (BitVec.ofInt 64 n &&& BitVec.ofInt 64 255).toNat = (n % ((2 ^ 64 : Nat) : Int)).toNat % 2 ^ 8 := by
    rw [BitVec.toNat_and, BitVec.toNat_ofInt, h255, Nat.and_two_pow_sub_one_eq_mod]
  show IntKind.i64.wrap ((BitVec.ofInt 64 n &&& BitVec.ofInt 64 255).toNat : Nat) = n % 256
  rw [key, IntKind.wrap_i64]
  omega

/-- The drawn bytes: each lies in old memory, below block B. -/
def CodeAt (w : World) (B : Nat) (a : Option Addr) (len : Nat) : Prop :=
  len ≤ 281474976710656 ∧ ∀ j, j < len → ∃ (b off : Nat) (z : Int), a = some ⟨b, off, none⟩ ∧ b < B ∧ w.cell? ⟨b, off + j, none⟩ = some (.int .u8 z) ∧ 0 ≤ z ∧ z ≤ 255
theorem codeAt_below {w w' : World} {B : Nat} {a : Option Addr} {len : Nat} (h : CodeAt w B a len) (hb : Below B w w') : CodeAt w' B a len :=
  ⟨h.1, fun j hj => by
    obtain ⟨b, off, z, ha, hB, hc, h0, h1⟩ := h.2 j hj
    exact ⟨b, off, z, ha, hB, by rw [hb.cell (p := ⟨b, off + j, none⟩) hB]; exact hc, h0, h1⟩⟩
/-- A cursor in block g, at or above B. -/
def CurAt (w : World) (B g : Nat) : Prop :=
  ∃ (a : Option Addr) (len cap i : Nat) (h : Int), w.heap[g]? = some (.cells #[.slice a len cap, .int .i64 i, .int .i64 h] 90 (0, 0)) ∧ i ≤ len ∧ B ≤ g ∧ CodeAt w B a len
theorem curAt_kept {w w' : World} {B g : Nat} (h : CurAt w B g) (hb : w'.heap[g]? = w.heap[g]?) (hB : Below B w w') : CurAt w' B g := by
  obtain ⟨a, len, cap, i, hh, h1, h2, h3, h4⟩ := h
  exact ⟨a, len, cap, i, hh, by rw [hb]; exact h1, h2, h3, codeAt_below h4 hB⟩
theorem curAt_ge {w : World} {B g : Nat} (h : CurAt w B g) : B ≤ g ∧ g < w.heap.size := by
  obtain ⟨a, len, cap, i, hh, h1, _, h3, _⟩ := h
  exact ⟨h3, (Array.getElem?_eq_some_iff.1 h1).1⟩

theorem ret_mod (E : Int) : ∃ x : Nat, x < 256 ∧ Ending.returned (.int .i64 (E % 256)) = .returned (.int .i64 (x : Int)) := ⟨(E % 256).toNat, by omega, ret_int (by omega)⟩
theorem store_cell {w : World} {g j : Nat} {cur : Array Value} {T : TypeId} (h : w.heap[g]? = some (.cells cur T (0, 0))) (u : Value) :
    (w.setCell ⟨g, j, none⟩ u).heap[g]? = some (.cells (cur.setIfInBounds j u) T (0, 0)) ∧ w.grownBy (w.setCell ⟨g, j, none⟩ u) (some g) :=
  ⟨heap_setCell_same w g j cur T u h, ⟨rfl, rfl, rfl, by simp, fun k _ hk => heap_setCell_other w ⟨g, j, none⟩ k u (fun e => hk (by simp [e]))⟩⟩
theorem grown_drew {w w' : World} {row : Option Nat} (h : w.grownBy w' row) : w.grownBy w'.drew row := ⟨h.os, h.tape, h.output, h.size, h.block⟩
theorem below_of_cur {w w' : World} {B g : Nat} (hg : w.grownBy w' (some g)) (hB : B ≤ g) (hs : B ≤ w.heap.size) : Below B w w' :=
  below_of_grown hg hs (fun k hk => by cases hk; exact hB)

set_option maxRecDepth 100000 in
set_option maxHeartbeats 1600000 in
theorem byte_any (B g : Nat) (w : World) (hc : CurAt w B g) :
    Calls Try.prog 101 #[.pointer (some ⟨g, 0, none⟩)] w fun e w' => ∃ x : Nat, x < 256 ∧ e = .returned (.int .i64 (x : Int)) ∧ CurAt w' B g ∧ w.grownBy w' (some g) := by
  have hge := curAt_ge hc
  obtain ⟨a, len, cap, i, hh, h1, h2, h3, h4⟩ := hc
  have c1 : w.cell? ⟨g, 1, none⟩ = some (.int .i64 (i : Int)) := by rw [cell_of_row w g 1 _ _ _ h1]; rfl
  have c2 : w.cell? ⟨g, 2, none⟩ = some (.int .i64 hh) := by rw [cell_of_row w g 2 _ _ _ h1]; rfl
  have f2 : w.frozen? ⟨g, 2, none⟩ = false := by simp [World.frozen?, h1]
  have hl := h4.1
  have hand := and255
  by_cases hlt : i < len
  · obtain ⟨b, off, z, rfl, hbB, hcz, hz0, hz1⟩ := h4.2 i hlt
    have HK := hide h4
    clear h4
    go_enter Try.func101, Try.ntmps101
    go_wp2_with fail
    generalize wrap64 (wrap64 (hh * 6364136223846793005) + 1442695040888963407) = h'
    obtain ⟨H1, G1⟩ := store_cell (j := 2) h1 (.int .i64 h')
    replace H1 : (w.setCell ⟨g, 2, none⟩ (.int .i64 h')).heap[g]? = some (.cells #[.slice (some ⟨b, off, none⟩) len cap, .int .i64 i, .int .i64 h'] 90 (0, 0)) := H1
    have hB1 := below_of_cur G1 h3 (by omega)
    have d0 : (w.setCell ⟨g, 2, none⟩ (.int .i64 h')).cell? ⟨b, off + i, none⟩ = some (.int .u8 z) := by rw [hB1.cell (p := ⟨b, off + i, none⟩) hbB]; exact hcz
    have hs1 : w.heap.size = (w.setCell ⟨g, 2, none⟩ (.int .i64 h')).heap.size := by simp
    generalize w.setCell ⟨g, 2, none⟩ (.int .i64 h') = w1 at H1 G1 hB1 d0 hs1
    clear c1 c2 f2 hcz
    have c0 : w1.cell? ⟨g, 0, none⟩ = some (.slice (some ⟨b, off, none⟩) len cap) := by rw [cell_of_row w1 g 0 _ _ _ H1]; rfl
    have c1 : w1.cell? ⟨g, 1, none⟩ = some (.int .i64 (i : Int)) := by rw [cell_of_row w1 g 1 _ _ _ H1]; rfl
    have c2 : w1.cell? ⟨g, 2, none⟩ = some (.int .i64 h') := by rw [cell_of_row w1 g 2 _ _ _ H1]; rfl
    have f1 : w1.frozen? ⟨g, 1, none⟩ = false := by simp [World.frozen?, H1]
    have HW := hide (And.intro H1 (And.intro G1 (And.intro hB1 hs1)))
    clear H1 G1 hB1 hs1 h1
    have hi0 : (0 : Int) ≤ (i : Int) := Int.natCast_nonneg _
    have hi1 : (i : Int) < (len : Int) := by omega
    go_region_held3 (fun w' => w'.cell? ⟨g, 2, none⟩ = some (.int .i64 h')) (go_keep) (fail)
    go_wp2_with fail
    go_region_held3 (fun w' => w'.cell? ⟨g, 0, none⟩ = some (.slice (some ⟨b, off, none⟩) len cap) ∧ w'.cell? ⟨g, 1, none⟩ = some (.int .i64 (i : Int))) (go_keep) (fail)
    go_wp2_with fail
    go_region_held3 (fun w' => w'.cell? ⟨g, 0, none⟩ = some (.slice (some ⟨b, off, none⟩) len cap) ∧ w'.cell? ⟨g, 1, none⟩ = some (.int .i64 (i : Int)) ∧ w'.cell? ⟨b, off + i, none⟩ = some (.int .u8 z)) (go_keep) (fail)
    go_wp2
    go_ret
    obtain ⟨H1, G1, hB1, hs1⟩ := unhide HW
    obtain ⟨H2, G2⟩ := store_cell (j := 1) H1 (.int .i64 ((i : Int) + 1))
    have hB2 := below_of_cur G2 h3 (by omega)
    have K2 := codeAt_below (codeAt_below (unhide HK) hB1) hB2
    exact (ret_mod _).elim fun x h => ⟨x, h.1, h.2, ⟨_, len, cap, i + 1, h', H2, by omega, h3, codeAt_below K2 ((((Below.refl _ _).drew).drew).drew)⟩, grown_drew (grown_drew (grown_drew (grown_trans G1 G2)))⟩
  · have HK := hide h4
    clear h4
    go_enter Try.func101, Try.ntmps101
    go_wp2_with fail
    generalize wrap64 (wrap64 (hh * 6364136223846793005) + 1442695040888963407) = h'
    obtain ⟨H1, G1⟩ := store_cell (j := 2) h1 (.int .i64 h')
    replace H1 : (w.setCell ⟨g, 2, none⟩ (.int .i64 h')).heap[g]? = some (.cells #[.slice a len cap, .int .i64 i, .int .i64 h'] 90 (0, 0)) := H1
    have hB1 := below_of_cur G1 h3 (by omega)
    generalize w.setCell ⟨g, 2, none⟩ (.int .i64 h') = w1 at H1 G1 hB1
    clear c1 c2 f2
    have c0 : w1.cell? ⟨g, 0, none⟩ = some (.slice a len cap) := by rw [cell_of_row w1 g 0 _ _ _ H1]; rfl
    have c1 : w1.cell? ⟨g, 1, none⟩ = some (.int .i64 (i : Int)) := by rw [cell_of_row w1 g 1 _ _ _ H1]; rfl
    have c2 : w1.cell? ⟨g, 2, none⟩ = some (.int .i64 h') := by rw [cell_of_row w1 g 2 _ _ _ H1]; rfl
    have HW := hide (And.intro H1 (And.intro G1 hB1))
    clear H1 G1 hB1 h1
    go_region_held3 (fun w' => w'.cell? ⟨g, 2, none⟩ = some (.int .i64 h')) (go_keep) (fail)
    go_wp2_with fail
    go_region_held3 (fun w' => w'.cell? ⟨g, 0, none⟩ = some (.slice a len cap) ∧ w'.cell? ⟨g, 1, none⟩ = some (.int .i64 (i : Int))) (go_keep) (fail)
    go_wp2
    go_ret
    obtain ⟨H1, G1, hB1⟩ := unhide HW
    exact (ret_mod _).elim fun x h => ⟨x, h.1, h.2, ⟨_, len, cap, i, h', H1, h2, h3, codeAt_below (unhide HK) ((hB1.drew).drew)⟩, grown_drew (grown_drew G1)⟩

set_option maxRecDepth 100000 in
set_option maxHeartbeats 1600000 in
/-- A number that is drawn below a great n. -/
theorem below_great (B g n : Nat) (w : World) (hc : CurAt w B g) (hn : 256 < n) (hn2 : n ≤ 1000000000000) :
    Calls Try.prog 75 #[.pointer (some ⟨g, 0, none⟩), .int .i64 (n : Int)] w fun e w' => ∃ x : Nat, x < n ∧ e = .returned (.int .i64 (x : Int)) ∧ CurAt w' B g ∧ w.grownBy w' (some g) := by
  have C := fun w hc => hide (byte_any B g w hc)
  have HC := hide hc
  clear hc
  have hd0 : decide ((n : Int) ≤ 0) = false := by simp; omega
  have hd1 : decide (n = 0) = false := by simp; omega
  have hd2 : decide ((n : Int) ≤ 256) = false := by simp; omega
  go_enter Try.func75, Try.ntmps75
  go_wp2_with fail
  refine (unhide (C _ (unhide HC))).mono ?_
  rintro e w1 ⟨x1, b1, rfl, hc1, g1⟩
  have HC1 := hide hc1; clear hc1
  go_wp2_with fail
  refine (unhide (C _ (unhide HC1))).mono ?_
  rintro e w2 ⟨x2, b2, rfl, hc2, g2⟩
  have HC2 := hide hc2; clear hc2
  go_wp2_with fail
  refine (unhide (C _ (unhide HC2))).mono ?_
  rintro e w3 ⟨x3, b3, rfl, hc3, g3⟩
  have HC3 := hide hc3; clear hc3
  go_wp2_with fail
  refine (unhide (C _ (unhide HC3))).mono ?_
  rintro e w4 ⟨x4, b4, rfl, hc4, g4⟩
  have HC4 := hide hc4; clear hc4
  go_wp2
  go_ret
  refine ⟨(x1 * 16777216 + x2 * 65536 + x3 * 256 + x4) % n, Nat.mod_lt _ (by omega), ret_int (by simp), unhide HC4, grown_trans (grown_trans (grown_trans g1 g2) g3) g4⟩

set_option maxRecDepth 100000 in
set_option maxHeartbeats 1600000 in
/-- A number that is drawn below a small n. -/
theorem below_small (B g n : Nat) (w : World) (hc : CurAt w B g) (hn : 0 < n) (hn2 : n ≤ 256) :
    Calls Try.prog 75 #[.pointer (some ⟨g, 0, none⟩), .int .i64 (n : Int)] w fun e w' => ∃ x : Nat, x < n ∧ e = .returned (.int .i64 (x : Int)) ∧ CurAt w' B g ∧ w.grownBy w' (some g) := by
  have C := fun w hc => hide (byte_any B g w hc)
  have HC := hide hc
  clear hc
  have hd1 : decide (n = 0) = false := by simp; omega
  have hd2 : decide ((n : Int) ≤ 256) = true := by simp; omega
  go_enter Try.func75, Try.ntmps75
  go_wp2_with fail
  refine (unhide (C _ (unhide HC))).mono ?_
  rintro e w1 ⟨x1, b1, rfl, hc1, g1⟩
  have HC1 := hide hc1; clear hc1
  go_wp2
  go_ret
  exact ⟨x1 % n, Nat.mod_lt _ hn, ret_int (by simp), unhide HC1, g1⟩

set_option maxRecDepth 100000 in
set_option maxHeartbeats 1600000 in
/-- A new cursor over drawn bytes. -/
theorem new_any (a : Option Addr) (len cap : Nat) (w : World) (hk : CodeAt w w.heap.size a len) :
    Calls Try.prog 39 #[.slice a len cap] w fun e w' => ∃ g, e = .returned (.pointer (some ⟨g, 0, none⟩)) ∧ CurAt w' w.heap.size g ∧ Below w.heap.size w w' := by
  have hl := hk.1
  go_enter Try.func39, Try.ntmps39
  go_wp2
  go_loop [3, 4] (fun h i => ∃ (k : Nat) (x : Int), k ≤ len ∧ i = .int .i64 k ∧ h = .int .i64 x)
    (fun _ i => len - (intOf i).toNat)
  case atStart => exact ⟨0, _, Nat.zero_le _, rfl, rfl⟩
  case round =>
    obtain ⟨k, x, hkl, rfl, rfl⟩ := hrel
    have HE : Hid (∀ h : Int, CurAt (w.alloc (.cells #[.slice a len cap, .int .i64 0, .int .i64 h] 90)) w.heap.size w.heap.size ∧ Below w.heap.size w (w.alloc (.cells #[.slice a len cap, .int .i64 0, .int .i64 h] 90))) :=
      hide fun h => ⟨⟨a, len, cap, 0, h, heap_alloc_new w _, Nat.zero_le _, Nat.le_refl _, codeAt_below hk ((Below.refl _ _).alloc (Nat.le_refl _) _)⟩, (Below.refl _ _).alloc (Nat.le_refl _) _⟩
    by_cases hlt2 : k < len
    · by_cases h4 : k < 4000
      · obtain ⟨b, off, z, rfl, hbB, hcz, hz0, hz1⟩ := hk.2 k hlt2
        have hk0 : (0 : Int) ≤ (k : Int) := Int.natCast_nonneg _
        have hk1 : (k : Int) < (len : Int) := by omega
        clear hk
        go_wp2
        go_round
        case rel => exact ⟨k + 1, _, by omega, by go_num, rfl⟩
        case measure => simp [intOf]; omega
      · clear hk
        go_wp2
        go_ret
        exact ⟨w.heap.size, rfl, (unhide HE _).1, (unhide HE _).2⟩
    · clear hk
      go_wp2
      go_ret
      exact ⟨w.heap.size, rfl, (unhide HE _).1, (unhide HE _).2⟩
end Go.Proofs.Ytnpfboligmnhpaa

/- The walk of a drawn text: n drawn bytes; nothing but the cursor's own cells is written. -/
namespace Go.Proofs.Ytnpfboligmnhpaa
open Go.RowKit
set_option linter.unusedVariables false
attribute [local go_sem ↓] Go.wp_at_zero Go.wp_at_succ

theorem grown_then {w w3 w4 : World} {o : Obj} {g : Nat} {vb : Option Nat} (h : w.grownBy w3 (some g)) (hg : (w3.alloc o).grownBy w4 vb) (hv : ∀ j, vb = some j → w.heap.size ≤ j) : w.grownBy w4 (some g) :=
  ⟨hg.os.trans h.os, hg.tape.trans h.tape, hg.output.trans h.output, by have h1 := hg.size; have h2 := h.size; simp at h1; omega, fun k hk hne => by
    have h2 := h.size
    rw [hg.block k (by simp; omega) (fun e => by have := hv k e.symm; omega), Below.heap_alloc w3 _ k (by omega)]
    exact h.block k hk hne⟩
theorem ownBlock_far {w : World} {B g n : Nat} {e : TypeId} {v : Value} {xs : List Value} (h : w.ownsRow B e 1 v n xs) (hg : g < B) : v.ownBlock = none ∨ v.ownBlock ≠ some g := by
  cases hv : v.ownBlock with
  | none => exact .inl rfl
  | some j => exact .inr (fun e => by cases e; have := (h.lt g hv).1; omega)
end Go.Proofs.Ytnpfboligmnhpaa

/- The walks of a draw's cursor once more, each answer as a plain function of the cursor: so two draws over the same bytes draw the same. -/
namespace Go.Proofs.Ytnpfboligmnhpaa
open Go.RowKit
set_option linter.unusedVariables false
attribute [local go_sem ↓] Go.wp_at_zero Go.wp_at_succ

/-- A cursor in plain words: the bytes, how many, where it stands, the number that is mixed in. -/
structure CurS where
  zs : Nat → Int
  len : Nat
  i : Nat
  h : Int
def CodeIs (w : World) (B : Nat) (a : Option Addr) (len : Nat) (zs : Nat → Int) : Prop :=
  len ≤ 281474976710656 ∧ ∀ j, j < len → ∃ (b off : Nat), a = some ⟨b, off, none⟩ ∧ b < B ∧ w.cell? ⟨b, off + j, none⟩ = some (.int .u8 (zs j)) ∧ 0 ≤ zs j ∧ zs j ≤ 255
theorem codeIs_of {w : World} {B : Nat} {a : Option Addr} {len : Nat} (h : CodeAt w B a len) : ∃ zs, CodeIs w B a len zs := by
  refine ⟨fun j => if hj : j < len then (h.2 j hj).choose_spec.choose_spec.choose else 0, h.1, fun j hj => ?_⟩
  simp only [hj, dite_true]
  obtain ⟨x1, x2, x3, x4, x5⟩ := (h.2 j hj).choose_spec.choose_spec.choose_spec
  exact ⟨_, _, x1, x2, x3, x4, x5⟩
theorem codeIs_below {w w' : World} {B : Nat} {a : Option Addr} {len : Nat} {zs : Nat → Int} (h : CodeIs w B a len zs) (hb : Below B w w') : CodeIs w' B a len zs :=
  ⟨h.1, fun j hj => by
    obtain ⟨b, off, ha, hB, hc, h0, h1⟩ := h.2 j hj
    exact ⟨b, off, ha, hB, by rw [hb.cell (p := ⟨b, off + j, none⟩) hB]; exact hc, h0, h1⟩⟩
/-- A cursor in block g, at or above B, that stands as s says. -/
def CurIs (w : World) (B g : Nat) (s : CurS) : Prop :=
  ∃ (a : Option Addr) (cap : Nat), w.heap[g]? = some (.cells #[.slice a s.len cap, .int .i64 s.i, .int .i64 s.h] 90 (0, 0)) ∧ s.i ≤ s.len ∧ B ≤ g ∧ CodeIs w B a s.len s.zs
theorem CurIs.any {w : World} {B g : Nat} {s : CurS} (h : CurIs w B g s) : CurAt w B g := by
  obtain ⟨a, cap, h1, h2, h3, h4⟩ := h
  exact ⟨a, s.len, cap, s.i, s.h, h1, h2, h3, h4.1, fun j hj => by obtain ⟨b, off, x1, x2, x3, x4, x5⟩ := h4.2 j hj; exact ⟨b, off, _, x1, x2, x3, x4, x5⟩⟩
theorem curIs_kept {w w' : World} {B g : Nat} {s : CurS} (h : CurIs w B g s) (hb : w'.heap[g]? = w.heap[g]?) (hB : Below B w w') : CurIs w' B g s := by
  obtain ⟨a, cap, h1, h2, h3, h4⟩ := h
  exact ⟨a, cap, by rw [hb]; exact h1, h2, h3, codeIs_below h4 hB⟩

def curNext (h : Int) : Int := wrap64 (wrap64 (h * 6364136223846793005) + 1442695040888963407)
def curX (h : Int) : Int := bits .xor .i64 (h / 8589934592) (h / 35184372088832) % 256
def CurS.byte (s : CurS) : Nat := if s.i < s.len then (IntKind.i64.wrap (curX (curNext s.h) + IntKind.i64.wrap (s.zs s.i)) % 256).toNat else (curX (curNext s.h)).toNat
def CurS.step (s : CurS) : CurS := ⟨s.zs, s.len, if s.i < s.len then s.i + 1 else s.i, curNext s.h⟩
theorem CurS.byte_lt (s : CurS) : s.byte < 256 := by unfold CurS.byte curX; split <;> omega
theorem CurS.byte_in {zs : Nat → Int} {len i : Nat} {hh h' z : Int} (hlt : i < len) (hh' : wrap64 (wrap64 (hh * 6364136223846793005) + 1442695040888963407) = h') (hz : zs i = z) :
    IntKind.i64.wrap (bits .xor .i64 (h' / 8589934592) (h' / 35184372088832) % 256 + IntKind.i64.wrap z) % 256 = ((CurS.byte ⟨zs, len, i, hh⟩ : Nat) : Int) := by
  unfold CurS.byte curX curNext; dsimp only; rw [if_pos hlt, hh', hz, Int.toNat_of_nonneg (by omega)]
theorem CurS.byte_out {zs : Nat → Int} {len i : Nat} {hh h' : Int} (hlt : ¬ i < len) (hh' : wrap64 (wrap64 (hh * 6364136223846793005) + 1442695040888963407) = h') :
    bits .xor .i64 (h' / 8589934592) (h' / 35184372088832) % 256 = ((CurS.byte ⟨zs, len, i, hh⟩ : Nat) : Int) := by
  unfold CurS.byte curX curNext; dsimp only; rw [if_neg hlt, hh', Int.toNat_of_nonneg (by omega)]
theorem nat_beq0 (x : Nat) : ((x : Int) == 0) = (x == 0) := by cases x <;> simp <;> omega
theorem ret_eq {a b : Int} (h : a = b) : Ending.returned (.int .i64 a) = .returned (.int .i64 b) := by rw [h]
set_option maxRecDepth 100000 in
set_option maxHeartbeats 1600000 in
theorem byte_is (B g : Nat) (s : CurS) (w : World) (hc : CurIs w B g s) :
    Calls Try.prog 101 #[.pointer (some ⟨g, 0, none⟩)] w fun e w' => e = .returned (.int .i64 (s.byte : Int)) ∧ CurIs w' B g s.step ∧ w.grownBy w' (some g) := by
  have hge := curAt_ge hc.any
  obtain ⟨zs, len, i, hh⟩ := s
  obtain ⟨a, cap, h1, h2, h3, h4⟩ := hc
  dsimp only at h1 h2 h4
  have c1 : w.cell? ⟨g, 1, none⟩ = some (.int .i64 (i : Int)) := by rw [cell_of_row w g 1 _ _ _ h1]; rfl
  have c2 : w.cell? ⟨g, 2, none⟩ = some (.int .i64 hh) := by rw [cell_of_row w g 2 _ _ _ h1]; rfl
  have f2 : w.frozen? ⟨g, 2, none⟩ = false := by simp [World.frozen?, h1]
  have hl := h4.1
  have hand := and255
  by_cases hlt : i < len
  · obtain ⟨b, off, rfl, hbB, hcz, hz0, hz1⟩ := h4.2 i hlt
    generalize hz : zs i = z at hcz hz0 hz1
    have HK := hide h4
    clear h4
    go_enter Try.func101, Try.ntmps101
    go_wp2_with fail
    generalize hh' : wrap64 (wrap64 (hh * 6364136223846793005) + 1442695040888963407) = h'
    obtain ⟨H1, G1⟩ := store_cell (j := 2) h1 (.int .i64 h')
    replace H1 : (w.setCell ⟨g, 2, none⟩ (.int .i64 h')).heap[g]? = some (.cells #[.slice (some ⟨b, off, none⟩) len cap, .int .i64 i, .int .i64 h'] 90 (0, 0)) := H1
    have hB1 := below_of_cur G1 h3 (by omega)
    have d0 : (w.setCell ⟨g, 2, none⟩ (.int .i64 h')).cell? ⟨b, off + i, none⟩ = some (.int .u8 z) := by rw [hB1.cell (p := ⟨b, off + i, none⟩) hbB]; exact hcz
    have hs1 : w.heap.size = (w.setCell ⟨g, 2, none⟩ (.int .i64 h')).heap.size := by simp
    generalize w.setCell ⟨g, 2, none⟩ (.int .i64 h') = w1 at H1 G1 hB1 d0 hs1
    clear c1 c2 f2 hcz
    have c0 : w1.cell? ⟨g, 0, none⟩ = some (.slice (some ⟨b, off, none⟩) len cap) := by rw [cell_of_row w1 g 0 _ _ _ H1]; rfl
    have c1 : w1.cell? ⟨g, 1, none⟩ = some (.int .i64 (i : Int)) := by rw [cell_of_row w1 g 1 _ _ _ H1]; rfl
    have c2 : w1.cell? ⟨g, 2, none⟩ = some (.int .i64 h') := by rw [cell_of_row w1 g 2 _ _ _ H1]; rfl
    have f1 : w1.frozen? ⟨g, 1, none⟩ = false := by simp [World.frozen?, H1]
    have HW := hide (And.intro H1 (And.intro G1 (And.intro hB1 hs1)))
    have HH := hide hh'
    have HZ := hide hz
    clear H1 G1 hB1 hs1 h1 hh' hz
    have hi0 : (0 : Int) ≤ (i : Int) := Int.natCast_nonneg _
    have hi1 : (i : Int) < (len : Int) := by omega
    go_region_held3 (fun w' => w'.cell? ⟨g, 2, none⟩ = some (.int .i64 h')) (go_keep) (fail)
    go_wp2_with fail
    go_region_held3 (fun w' => w'.cell? ⟨g, 0, none⟩ = some (.slice (some ⟨b, off, none⟩) len cap) ∧ w'.cell? ⟨g, 1, none⟩ = some (.int .i64 (i : Int))) (go_keep) (fail)
    go_wp2_with fail
    go_region_held3 (fun w' => w'.cell? ⟨g, 0, none⟩ = some (.slice (some ⟨b, off, none⟩) len cap) ∧ w'.cell? ⟨g, 1, none⟩ = some (.int .i64 (i : Int)) ∧ w'.cell? ⟨b, off + i, none⟩ = some (.int .u8 z)) (go_keep) (fail)
    go_wp2
    go_ret
    obtain ⟨H1, G1, hB1, hs1⟩ := unhide HW
    obtain ⟨H2, G2⟩ := store_cell (j := 1) H1 (.int .i64 ((i : Int) + 1))
    have hB2 := below_of_cur G2 h3 (by omega)
    have K2 := codeIs_below (codeIs_below (unhide HK) hB1) hB2
    refine ⟨ret_eq (CurS.byte_in hlt (unhide HH) (unhide HZ)), ⟨_, cap, ?_, ?_, h3, codeIs_below K2 ((((Below.refl _ _).drew).drew).drew)⟩, grown_drew (grown_drew (grown_drew (grown_trans G1 G2)))⟩
    · unfold CurS.step curNext; dsimp only; rw [if_pos hlt, unhide HH]; exact H2
    · unfold CurS.step; dsimp only; rw [if_pos hlt]; omega
  · have HK := hide h4
    clear h4
    go_enter Try.func101, Try.ntmps101
    go_wp2_with fail
    generalize hh' : wrap64 (wrap64 (hh * 6364136223846793005) + 1442695040888963407) = h'
    obtain ⟨H1, G1⟩ := store_cell (j := 2) h1 (.int .i64 h')
    replace H1 : (w.setCell ⟨g, 2, none⟩ (.int .i64 h')).heap[g]? = some (.cells #[.slice a len cap, .int .i64 i, .int .i64 h'] 90 (0, 0)) := H1
    have hB1 := below_of_cur G1 h3 (by omega)
    generalize w.setCell ⟨g, 2, none⟩ (.int .i64 h') = w1 at H1 G1 hB1
    clear c1 c2 f2
    have c0 : w1.cell? ⟨g, 0, none⟩ = some (.slice a len cap) := by rw [cell_of_row w1 g 0 _ _ _ H1]; rfl
    have c1 : w1.cell? ⟨g, 1, none⟩ = some (.int .i64 (i : Int)) := by rw [cell_of_row w1 g 1 _ _ _ H1]; rfl
    have c2 : w1.cell? ⟨g, 2, none⟩ = some (.int .i64 h') := by rw [cell_of_row w1 g 2 _ _ _ H1]; rfl
    have HW := hide (And.intro H1 (And.intro G1 hB1))
    have HH := hide hh'
    clear H1 G1 hB1 h1 hh'
    go_region_held3 (fun w' => w'.cell? ⟨g, 2, none⟩ = some (.int .i64 h')) (go_keep) (fail)
    go_wp2_with fail
    go_region_held3 (fun w' => w'.cell? ⟨g, 0, none⟩ = some (.slice a len cap) ∧ w'.cell? ⟨g, 1, none⟩ = some (.int .i64 (i : Int))) (go_keep) (fail)
    go_wp2
    go_ret
    obtain ⟨H1, G1, hB1⟩ := unhide HW
    refine ⟨ret_eq (CurS.byte_out hlt (unhide HH)), ⟨_, cap, ?_, ?_, h3, codeIs_below (unhide HK) ((hB1.drew).drew)⟩, grown_drew (grown_drew G1)⟩
    · unfold CurS.step curNext; dsimp only; rw [if_neg hlt, unhide HH]; exact H1
    · unfold CurS.step; dsimp only; rw [if_neg hlt]; exact h2

/-- A number that is drawn below a small n; and whether it is 0. -/
def CurS.below (s : CurS) (n : Nat) : Nat := s.byte % n
set_option maxRecDepth 100000 in
set_option maxHeartbeats 1600000 in
theorem below_is (B g n : Nat) (s : CurS) (w : World) (hc : CurIs w B g s) (hn : 0 < n) (hn2 : n ≤ 256) :
    Calls Try.prog 75 #[.pointer (some ⟨g, 0, none⟩), .int .i64 (n : Int)] w fun e w' => e = .returned (.int .i64 (s.below n : Int)) ∧ CurIs w' B g s.step ∧ w.grownBy w' (some g) := by
  have C := hide (byte_is B g s w hc)
  clear hc
  have hd1 : decide (n = 0) = false := by simp; omega
  have hd2 : decide ((n : Int) ≤ 256) = true := by simp; omega
  unfold CurS.below
  generalize s.byte = x1 at C
  go_enter Try.func75, Try.ntmps75
  go_wp2_with fail
  refine (unhide C).mono ?_
  rintro e w1 ⟨rfl, hc1, g1⟩
  have HC1 := hide hc1; clear hc1
  go_wp2
  go_ret
  exact ⟨ret_int (by simp), unhide HC1, g1⟩

set_option maxRecDepth 100000 in
set_option maxHeartbeats 1600000 in
theorem once_is (B g n : Nat) (s : CurS) (w : World) (hc : CurIs w B g s) (hn : 0 < n) (hn2 : n ≤ 256) :
    Calls Try.prog 77 #[.pointer (some ⟨g, 0, none⟩), .int .i64 (n : Int)] w fun e w' => e = .returned (.bool (s.below n == 0)) ∧ CurIs w' B g s.step ∧ w.grownBy w' (some g) := by
  have C := hide (below_is B g n s w hc hn hn2)
  clear hc
  generalize s.below n = x1 at C
  go_enter Try.func77, Try.ntmps77
  go_wp2_with fail
  refine (unhide C).mono ?_
  rintro e w1 ⟨rfl, hc1, g1⟩
  have HC1 := hide hc1; clear hc1
  go_wp2
  go_ret
  exact ⟨by rw [nat_beq0 x1]; rfl, unhide HC1, g1⟩

/-- So many bytes drawn: the cursor behind them, and they. -/
def CurS.stepN (s : CurS) : Nat → CurS
  | 0 => s
  | k + 1 => (s.stepN k).step
def CurS.text (s : CurS) : Nat → List UInt8
  | 0 => []
  | k + 1 => s.text k ++ [UInt8.ofNat (s.stepN k).byte]
theorem CurS.text_len (s : CurS) (n : Nat) : (s.text n).length = n := by
  induction n with
  | zero => rfl
  | succ k ih => simp [CurS.text, ih]
/-- The number that a new cursor mixes. -/
def mixTo (zs : Nat → Int) (h : Int) : Nat → Int
  | 0 => h
  | k + 1 => bits .and .i64 (wrap64 (wrap64 (wrap64 (mixTo zs h k * 131) + zs k) + 7)) 1073741823
set_option maxRecDepth 100000 in
set_option maxHeartbeats 1600000 in
theorem new_is (a : Option Addr) (len cap : Nat) (zs : Nat → Int) (w : World) (hk : CodeIs w w.heap.size a len zs) :
    Calls Try.prog 39 #[.slice a len cap] w fun e w' => ∃ g, e = .returned (.pointer (some ⟨g, 0, none⟩)) ∧ CurIs w' w.heap.size g ⟨zs, len, 0, mixTo zs (94701 + (len : Int)) (min len 4000)⟩ ∧ Below w.heap.size w w' := by
  have hl := hk.1
  have HE : Hid (∀ h : Int, CurIs (w.alloc (.cells #[.slice a len cap, .int .i64 0, .int .i64 h] 90)) w.heap.size w.heap.size ⟨zs, len, 0, h⟩ ∧ Below w.heap.size w (w.alloc (.cells #[.slice a len cap, .int .i64 0, .int .i64 h] 90))) :=
    hide fun h => ⟨⟨a, cap, heap_alloc_new w _, Nat.zero_le _, Nat.le_refl _, codeIs_below hk ((Below.refl _ _).alloc (Nat.le_refl _) _)⟩, (Below.refl _ _).alloc (Nat.le_refl _) _⟩
  go_enter Try.func39, Try.ntmps39
  go_wp2
  go_loop [3, 4] (fun h i => ∃ (k : Nat) (x : Int), k ≤ len ∧ k ≤ 4000 ∧ i = .int .i64 k ∧ h = .int .i64 x ∧ Hid (x = mixTo zs (94701 + (len : Int)) k))
    (fun _ i => len - (intOf i).toNat)
  case atStart => exact ⟨0, _, Nat.zero_le _, Nat.zero_le _, rfl, rfl, hide rfl⟩
  case round =>
    obtain ⟨k, x, hkl, hk4, rfl, rfl, hx⟩ := hrel
    by_cases hlt2 : k < len
    · by_cases h4 : k < 4000
      · obtain ⟨b, off, rfl, hbB, hcz, hz0, hz1⟩ := hk.2 k hlt2
        have hk0 : (0 : Int) ≤ (k : Int) := Int.natCast_nonneg _
        have hk1 : (k : Int) < (len : Int) := by omega
        clear hk HE
        go_wp2
        go_round
        case rel =>
          refine ⟨k + 1, _, by omega, by omega, by go_num, rfl, ?_⟩
          exact hide (by rw [unhide hx]; rfl)
        case measure => simp [intOf]; omega
      · have hmin : min len 4000 = k := by omega
        have HM := hide hmin
        clear hk hmin
        go_wp2
        go_ret
        exact ⟨w.heap.size, rfl, by rw [unhide HM, ← unhide hx]; exact (unhide HE _).1, (unhide HE _).2⟩
    · have hmin : min len 4000 = k := by omega
      have HM := hide hmin
      clear hk hmin
      go_wp2
      go_ret
      exact ⟨w.heap.size, rfl, by rw [unhide HM, ← unhide hx]; exact (unhide HE _).1, (unhide HE _).2⟩
end Go.Proofs.Ytnpfboligmnhpaa
