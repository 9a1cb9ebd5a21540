/- The walks of a draw's cursor once more, each answer as a plain function of the cursor: so two draws over the same bytes draw the same. -/
import Derived.Test.YtfnkcpjfjijglaaDrawText
namespace Go.Proofs.Ytfnkcpjfjijglaa
open Go.RowKit
set_option linter.unusedVariables false
attribute [local go_sem ↓] Go.wp_at_zero Go.wp_at_succ

/-- A cursor in plain words: the bytes, how many, where it stands, the number that is mixed in. -/
structure CurS where
  zs : Nat → Int
  len : Nat
  i : Nat
  h : Int
def CodeIs (w : World) (B : Nat) (a : Option Addr) (len : Nat) (zs : Nat → Int) : Prop :=
  len ≤ 281474976710656 ∧ ∀ j, j < len → ∃ (b off : Nat), a = some ⟨b, off, none⟩ ∧ b < B ∧ w.cell? ⟨b, off + j, none⟩ = some (.int .u8 (zs j)) ∧ 0 ≤ zs j ∧ zs j ≤ 255
theorem codeIs_of {w : World} {B : Nat} {a : Option Addr} {len : Nat} (h : CodeAt w B a len) : ∃ zs, CodeIs w B a len zs := by
  refine ⟨fun j => if hj : j < len then (h.2 j hj).choose_spec.choose_spec.choose else 0, h.1, fun j hj => ?_⟩
  simp only [hj, dite_true]
  obtain ⟨x1, x2, x3, x4, x5⟩ := (h.2 j hj).choose_spec.choose_spec.choose_spec
  exact ⟨_, _, x1, x2, x3, x4, x5⟩
theorem codeIs_below {w w' : World} {B : Nat} {a : Option Addr} {len : Nat} {zs : Nat → Int} (h : CodeIs w B a len zs) (hb : Below B w w') : CodeIs w' B a len zs :=
  ⟨h.1, fun j hj => by
    obtain ⟨b, off, ha, hB, hc, h0, h1⟩ := h.2 j hj
    exact ⟨b, off, ha, hB, by rw [hb.cell (p := ⟨b, off + j, none⟩) hB]; exact hc, h0, h1⟩⟩
/-- A cursor in block g, at or above B, that stands as s says. -/
def CurIs (w : World) (B g : Nat) (s : CurS) : Prop :=
  ∃ (a : Option Addr) (cap : Nat), w.heap[g]? = some (.cells #[.slice a s.len cap, .int .i64 s.i, .int .i64 s.h] 63 (0, 0)) ∧ s.i ≤ s.len ∧ B ≤ g ∧ CodeIs w B a s.len s.zs
theorem CurIs.any {w : World} {B g : Nat} {s : CurS} (h : CurIs w B g s) : CurAt w B g := by
  obtain ⟨a, cap, h1, h2, h3, h4⟩ := h
  exact ⟨a, s.len, cap, s.i, s.h, h1, h2, h3, h4.1, fun j hj => by obtain ⟨b, off, x1, x2, x3, x4, x5⟩ := h4.2 j hj; exact ⟨b, off, _, x1, x2, x3, x4, x5⟩⟩
theorem curIs_kept {w w' : World} {B g : Nat} {s : CurS} (h : CurIs w B g s) (hb : w'.heap[g]? = w.heap[g]?) (hB : Below B w w') : CurIs w' B g s := by
  obtain ⟨a, cap, h1, h2, h3, h4⟩ := h
  exact ⟨a, cap, by rw [hb]; exact h1, h2, h3, codeIs_below h4 hB⟩

def curNext (h : Int) : Int := wrap64 (wrap64 (h * 6364136223846793005) + 1442695040888963407)
def curX (h : Int) : Int := bits .xor .i64 (h / 8589934592) (h / 35184372088832) % 256
def CurS.byte (s : CurS) : Nat := if s.i < s.len then (IntKind.i64.wrap (curX (curNext s.h) + IntKind.i64.wrap (s.zs s.i)) % 256).toNat else (curX (curNext s.h)).toNat
def CurS.step (s : CurS) : CurS := ⟨s.zs, s.len, if s.i < s.len then s.i + 1 else s.i, curNext s.h⟩
theorem CurS.byte_lt (s : CurS) : s.byte < 256 := by unfold CurS.byte curX; split <;> omega
theorem CurS.byte_in {zs : Nat → Int} {len i : Nat} {hh h' z : Int} (hlt : i < len) (hh' : wrap64 (wrap64 (hh * 6364136223846793005) + 1442695040888963407) = h') (hz : zs i = z) :
    IntKind.i64.wrap (bits .xor .i64 (h' / 8589934592) (h' / 35184372088832) % 256 + IntKind.i64.wrap z) % 256 = ((CurS.byte ⟨zs, len, i, hh⟩ : Nat) : Int) := by
  unfold CurS.byte curX curNext; dsimp only; rw [if_pos hlt, hh', hz, Int.toNat_of_nonneg (by omega)]
theorem CurS.byte_out {zs : Nat → Int} {len i : Nat} {hh h' : Int} (hlt : ¬ i < len) (hh' : wrap64 (wrap64 (hh * 6364136223846793005) + 1442695040888963407) = h') :
    bits .xor .i64 (h' / 8589934592) (h' / 35184372088832) % 256 = ((CurS.byte ⟨zs, len, i, hh⟩ : Nat) : Int) := by
  unfold CurS.byte curX curNext; dsimp only; rw [if_neg hlt, hh', Int.toNat_of_nonneg (by omega)]
theorem nat_beq0 (x : Nat) : ((x : Int) == 0) = (x == 0) := by cases x <;> simp <;> omega
theorem ret_eq {a b : Int} (h : a = b) : Ending.returned (.int .i64 a) = .returned (.int .i64 b) := by rw [h]
set_option maxRecDepth 100000 in
set_option maxHeartbeats 1600000 in
theorem byte_is (B g : Nat) (s : CurS) (w : World) (hc : CurIs w B g s) :
    Calls Try.prog 59 #[.pointer (some ⟨g, 0, none⟩)] w fun e w' => e = .returned (.int .i64 (s.byte : Int)) ∧ CurIs w' B g s.step ∧ w.grownBy w' (some g) := by
  have hge := curAt_ge hc.any
  obtain ⟨zs, len, i, hh⟩ := s
  obtain ⟨a, cap, h1, h2, h3, h4⟩ := hc
  dsimp only at h1 h2 h4
  have c1 : w.cell? ⟨g, 1, none⟩ = some (.int .i64 (i : Int)) := by rw [cell_of_row w g 1 _ _ _ h1]; rfl
  have c2 : w.cell? ⟨g, 2, none⟩ = some (.int .i64 hh) := by rw [cell_of_row w g 2 _ _ _ h1]; rfl
  have f2 : w.frozen? ⟨g, 2, none⟩ = false := by simp [World.frozen?, h1]
  have hl := h4.1
  have hand := and255
  by_cases hlt : i < len
  · obtain ⟨b, off, rfl, hbB, hcz, hz0, hz1⟩ := h4.2 i hlt
    generalize hz : zs i = z at hcz hz0 hz1
    have HK := hide h4
    clear h4
    go_enter Try.func59, Try.ntmps59
    go_wp2_with fail
    generalize hh' : wrap64 (wrap64 (hh * 6364136223846793005) + 1442695040888963407) = h'
    obtain ⟨H1, G1⟩ := store_cell (j := 2) h1 (.int .i64 h')
    replace H1 : (w.setCell ⟨g, 2, none⟩ (.int .i64 h')).heap[g]? = some (.cells #[.slice (some ⟨b, off, none⟩) len cap, .int .i64 i, .int .i64 h'] 63 (0, 0)) := H1
    have hB1 := below_of_cur G1 h3 (by omega)
    have d0 : (w.setCell ⟨g, 2, none⟩ (.int .i64 h')).cell? ⟨b, off + i, none⟩ = some (.int .u8 z) := by rw [hB1.cell (p := ⟨b, off + i, none⟩) hbB]; exact hcz
    have hs1 : w.heap.size = (w.setCell ⟨g, 2, none⟩ (.int .i64 h')).heap.size := by simp
    generalize w.setCell ⟨g, 2, none⟩ (.int .i64 h') = w1 at H1 G1 hB1 d0 hs1
    clear c1 c2 f2 hcz
    have c0 : w1.cell? ⟨g, 0, none⟩ = some (.slice (some ⟨b, off, none⟩) len cap) := by rw [cell_of_row w1 g 0 _ _ _ H1]; rfl
    have c1 : w1.cell? ⟨g, 1, none⟩ = some (.int .i64 (i : Int)) := by rw [cell_of_row w1 g 1 _ _ _ H1]; rfl
    have c2 : w1.cell? ⟨g, 2, none⟩ = some (.int .i64 h') := by rw [cell_of_row w1 g 2 _ _ _ H1]; rfl
    have f1 : w1.frozen? ⟨g, 1, none⟩ = false := by simp [World.frozen?, H1]
    have HW := hide (And.intro H1 (And.intro G1 (And.intro hB1 hs1)))
    have HH := hide hh'
    have HZ := hide hz
    clear H1 G1 hB1 hs1 h1 hh' hz
    have hi0 : (0 : Int) ≤ (i : Int) := Int.natCast_nonneg _
    have hi1 : (i : Int) < (len : Int) := by omega
    go_region_held3 (fun w' => w'.cell? ⟨g, 2, none⟩ = some (.int .i64 h')) (go_keep) (fail)
    go_wp2_with fail
    go_region_held3 (fun w' => w'.cell? ⟨g, 0, none⟩ = some (.slice (some ⟨b, off, none⟩) len cap) ∧ w'.cell? ⟨g, 1, none⟩ = some (.int .i64 (i : Int))) (go_keep) (fail)
    go_wp2_with fail
    go_region_held3 (fun w' => w'.cell? ⟨g, 0, none⟩ = some (.slice (some ⟨b, off, none⟩) len cap) ∧ w'.cell? ⟨g, 1, none⟩ = some (.int .i64 (i : Int)) ∧ w'.cell? ⟨b, off + i, none⟩ = some (.int .u8 z)) (go_keep) (fail)
    go_wp2
    go_ret
    obtain ⟨H1, G1, hB1, hs1⟩ := unhide HW
    obtain ⟨H2, G2⟩ := store_cell (j := 1) H1 (.int .i64 ((i : Int) + 1))
    have hB2 := below_of_cur G2 h3 (by omega)
    have K2 := codeIs_below (codeIs_below (unhide HK) hB1) hB2
    refine ⟨ret_eq (CurS.byte_in hlt (unhide HH) (unhide HZ)), ⟨_, cap, ?_, ?_, h3, codeIs_below K2 ((((Below.refl _ _).drew).drew).drew)⟩, grown_drew (grown_drew (grown_drew (grown_trans G1 G2)))⟩
    · unfold CurS.step curNext; dsimp only; rw [if_pos hlt, unhide HH]; exact H2
    · unfold CurS.step; dsimp only; rw [if_pos hlt]; omega
  · have HK := hide h4
    clear h4
    go_enter Try.func59, Try.ntmps59
    go_wp2_with fail
    generalize hh' : wrap64 (wrap64 (hh * 6364136223846793005) + 1442695040888963407) = h'
    obtain ⟨H1, G1⟩ := store_cell (j := 2) h1 (.int .i64 h')
    replace H1 : (w.setCell ⟨g, 2, none⟩ (.int .i64 h')).heap[g]? = some (.cells #[.slice a len cap, .int .i64 i, .int .i64 h'] 63 (0, 0)) := H1
    have hB1 := below_of_cur G1 h3 (by omega)
    generalize w.setCell ⟨g, 2, none⟩ (.int .i64 h') = w1 at H1 G1 hB1
    clear c1 c2 f2
    have c0 : w1.cell? ⟨g, 0, none⟩ = some (.slice a len cap) := by rw [cell_of_row w1 g 0 _ _ _ H1]; rfl
    have c1 : w1.cell? ⟨g, 1, none⟩ = some (.int .i64 (i : Int)) := by rw [cell_of_row w1 g 1 _ _ _ H1]; rfl
    have c2 : w1.cell? ⟨g, 2, none⟩ = some (.int .i64 h') := by rw [cell_of_row w1 g 2 _ _ _ H1]; rfl
    have HW := hide (And.intro H1 (And.intro G1 hB1))
    have HH := hide hh'
    clear H1 G1 hB1 h1 hh'
    go_region_held3 (fun w' => w'.cell? ⟨g, 2, none⟩ = some (.int .i64 h')) (go_keep) (fail)
    go_wp2_with fail
    go_region_held3 (fun w' => w'.cell? ⟨g, 0, none⟩ = some (.slice a len cap) ∧ w'.cell? ⟨g, 1, none⟩ = some (.int .i64 (i : Int))) (go_keep) (fail)
    go_wp2
    go_ret
    obtain ⟨H1, G1, hB1⟩ := unhide HW
    refine ⟨ret_eq (CurS.byte_out hlt (unhide HH)), ⟨_, cap, ?_, ?_, h3, codeIs_below (unhide HK) ((hB1.drew).drew)⟩, grown_drew (grown_drew G1)⟩
    · unfold CurS.step curNext; dsimp only; rw [if_neg hlt, unhide HH]; exact H1
    · unfold CurS.step; dsimp only; rw [if_neg hlt]; exact h2

/-- A number that is drawn below a small n; and whether it is 0. -/
def CurS.below (s : CurS) (n : Nat) : Nat := s.byte % n
set_option maxRecDepth 100000 in
set_option maxHeartbeats 1600000 in
theorem below_is (B g n : Nat) (s : CurS) (w : World) (hc : CurIs w B g s) (hn : 0 < n) (hn2 : n ≤ 256) :
    Calls Try.prog 42 #[.pointer (some ⟨g, 0, none⟩), .int .i64 (n : Int)] w fun e w' => e = .returned (.int .i64 (s.below n : Int)) ∧ CurIs w' B g s.step ∧ w.grownBy w' (some g) := by
  have C := hide (byte_is B g s w hc)
  clear hc
  have hd1 : decide (n = 0) = false := by simp; omega
  have hd2 : decide ((n : Int) ≤ 256) = true := by simp; omega
  unfold CurS.below
  generalize s.byte = x1 at C
  go_enter Try.func42, Try.ntmps42
  go_wp2_with fail
  refine (unhide C).mono ?_
  rintro e w1 ⟨rfl, hc1, g1⟩
  have HC1 := hide hc1; clear hc1
  go_wp2
  go_ret
  exact ⟨ret_int (by simp), unhide HC1, g1⟩

set_option maxRecDepth 100000 in
set_option maxHeartbeats 1600000 in
theorem once_is (B g n : Nat) (s : CurS) (w : World) (hc : CurIs w B g s) (hn : 0 < n) (hn2 : n ≤ 256) :
    Calls Try.prog 43 #[.pointer (some ⟨g, 0, none⟩), .int .i64 (n : Int)] w fun e w' => e = .returned (.bool (s.below n == 0)) ∧ CurIs w' B g s.step ∧ w.grownBy w' (some g) := by
  have C := hide (below_is B g n s w hc hn hn2)
  clear hc
  generalize s.below n = x1 at C
  go_enter Try.func43, Try.ntmps43
  go_wp2_with fail
  refine (unhide C).mono ?_
  rintro e w1 ⟨rfl, hc1, g1⟩
  have HC1 := hide hc1; clear hc1
  go_wp2
  go_ret
  exact ⟨by rw [nat_beq0 x1]; rfl, unhide HC1, g1⟩

/-- So many bytes drawn: the cursor behind them, and they. -/
def CurS.stepN (s : CurS) : Nat → CurS
  | 0 => s
  | k + 1 => (s.stepN k).step
def CurS.text (s : CurS) : Nat → List UInt8
  | 0 => []
  | k + 1 => s.text k ++ [UInt8.ofNat (s.stepN k).byte]
theorem CurS.text_len (s : CurS) (n : Nat) : (s.text n).length = n := by
  induction n with
  | zero => rfl
  | succ k ih => simp [CurS.text, ih]
set_option maxRecDepth 100000 in
set_option maxHeartbeats 1600000 in
theorem text_is (B g n : Nat) (s : CurS) (w : World) (hc : CurIs w B g s) (hBw : B ≤ w.heap.size) (hn : n ≤ 5000) :
    Calls Try.prog 44 #[.pointer (some ⟨g, 0, none⟩), .int .i64 (n : Int)] w fun e w' => e = .returned (.string ⟨(s.text n).toArray⟩) ∧ CurIs w' B g (s.stepN n) ∧ w.grownBy w' (some g) := by
  obtain ⟨i0, hi0, hz0, hz1, hz2⟩ := info_parts info5
  have hn1 : (n : Int) ≤ 5000 := by omega
  have hgw := (curAt_ge hc.any).2
  have HC0 := hide (curIs_kept hc (Below.heap_alloc w (.cells #[] 5) g hgw) ((Below.refl _ _).alloc hBw _))
  clear hc
  go_enter Try.func44, Try.ntmps44
  go_wp2
  go_loopw [5, 6] (fun v i wr => ∃ (k : Nat) (out : List UInt8), k ≤ n ∧ i = .int .i64 k ∧ Hid (out = s.text k) ∧ wr.ownsRow w.heap.size 5 1 v k (bcs out) ∧ Hid (CurIs wr B g (s.stepN k)) ∧ w.grownBy wr (some g))
    (fun _ i _ => n - (intOf i).toNat)
  case atStart => exact ⟨0, [], Nat.zero_le _, rfl, hide rfl, World.ownsRow_lit w #[] 0 (Nat.le_refl _) (by decide) rfl, HC0, World.grownBy_alloc w _ _⟩
  case round =>
    obtain ⟨k, out, hk, rfl, HL, hown, hcu, hg⟩ := hrel
    have hs := hg.size
    clear HC0
    by_cases hlt : k < n
    · have BY := hide (byte_is B g (s.stepN k) _ (unhide hcu))
      have HL1 : Hid (out ++ [UInt8.ofNat (((s.stepN k).byte : Nat) : Int).toNat] = s.text (k + 1)) := hide (by rw [unhide HL]; rfl)
      have hy := (s.stepN k).byte_lt
      have STP : Hid ((s.stepN k).step = s.stepN (k + 1)) := hide rfl
      rw [unhide STP] at BY
      generalize (s.stepN k).byte = y at BY HL1 hy
      go_wp2_with fail
      refine (unhide BY).mono ?_
      rintro e w3 ⟨rfl, hcu3, gr3⟩
      have hown3 := hown.kept gr3 (ownBlock_far hown hgw)
      have hg3 := grown_trans hg gr3
      have hs3 := hg3.size
      have HC3 := hide hcu3
      clear hown gr3 hcu hg hcu3 BY STP
      go_wp2_with (at_builtin; refine wpList_append_lies _ (by rfl) _ _ _ (by rfl) w.heap.size 5 i0 _ 1 1 Try.underlying22 hi0 hz0 hz1 hz2 rfl (by omega) _ k _ (by rfl) (hown3.alloc _) ⟨w3.heap.size, 0, none⟩ 1 1 [_] (by rfl) (by rfl) (World.news_of_block (cs := #[_]) (t := 5) (fr := (0, 0)) (heap_alloc_new w3 _)) (by simp [Value.oneCell']) (by omega) (by unfold maxLen; omega) (by omega) (by simp; omega) (w3.heap.size + 1) (by simp) ?_)
      intro gg cap1 w4 hown4 hgrow hat1 hlt1
      have R1 : w4.ownsRow w.heap.size 5 1 (.slice (some ⟨gg, 0, none⟩) (k + 1) cap1) (k + 1) (bcs (out ++ [UInt8.ofNat (y : Int).toNat])) := by
        rw [bcs_append, bcs_one (y : Int) (by omega) (by omega)]; exact hown4
      have R2 := grown_then hg3 hgrow (fun j hj => (hown3.lt j hj).1)
      have R3 : Hid (CurIs w4 B g (s.stepN (k + 1))) := hide (by
        refine curIs_kept (unhide HC3) ?_ (below_of_grown (grown_trans (World.grownBy_alloc w3 _ _) hgrow) (by omega) (fun j hj => by have := (hown3.lt j hj).1; omega))
        rw [hgrow.block g (by simp; omega) (fun e => by have := (hown3.lt g e.symm).1; omega), Below.heap_alloc w3 _ g (by omega)])
      clear hown4 hgrow hat1 hlt1 hown3 HC3 hg3
      go_wp2
      go_roundw
      case rel => exact ⟨k + 1, _, by omega, by go_num, HL1, R1, R3, R2⟩
      case measure => simp [intOf]; omega
    · have hke : k = n := by omega
      have hlen : out.length = k := by rw [unhide HL, CurS.text_len]
      have hcv := conv_own (P := Try.prog) (src := 22) (dst := 9) out hlen Try.underlying22 Try.underlying5 Try.underlying9 hown
      have HE := hide hke
      clear hke hlen
      go_wp2
      go_ret
      refine ⟨?_, ?_, hg⟩
      · rw [unhide HL, unhide HE]; rfl
      · rw [← unhide HE]; exact unhide hcu

/-- The number that a new cursor mixes. -/
def mixTo (zs : Nat → Int) (h : Int) : Nat → Int
  | 0 => h
  | k + 1 => bits .and .i64 (wrap64 (wrap64 (wrap64 (mixTo zs h k * 131) + zs k) + 7)) 1073741823
set_option maxRecDepth 100000 in
set_option maxHeartbeats 1600000 in
theorem new_is (a : Option Addr) (len cap : Nat) (zs : Nat → Int) (w : World) (hk : CodeIs w w.heap.size a len zs) :
    Calls Try.prog 24 #[.slice a len cap] w fun e w' => ∃ g, e = .returned (.pointer (some ⟨g, 0, none⟩)) ∧ CurIs w' w.heap.size g ⟨zs, len, 0, mixTo zs (94701 + (len : Int)) (min len 4000)⟩ ∧ Below w.heap.size w w' := by
  have hl := hk.1
  have HE : Hid (∀ h : Int, CurIs (w.alloc (.cells #[.slice a len cap, .int .i64 0, .int .i64 h] 63)) w.heap.size w.heap.size ⟨zs, len, 0, h⟩ ∧ Below w.heap.size w (w.alloc (.cells #[.slice a len cap, .int .i64 0, .int .i64 h] 63))) :=
    hide fun h => ⟨⟨a, cap, heap_alloc_new w _, Nat.zero_le _, Nat.le_refl _, codeIs_below hk ((Below.refl _ _).alloc (Nat.le_refl _) _)⟩, (Below.refl _ _).alloc (Nat.le_refl _) _⟩
  go_enter Try.func24, Try.ntmps24
  go_wp2
  go_loop [3, 4] (fun h i => ∃ (k : Nat) (x : Int), k ≤ len ∧ k ≤ 4000 ∧ i = .int .i64 k ∧ h = .int .i64 x ∧ Hid (x = mixTo zs (94701 + (len : Int)) k))
    (fun _ i => len - (intOf i).toNat)
  case atStart => exact ⟨0, _, Nat.zero_le _, Nat.zero_le _, rfl, rfl, hide rfl⟩
  case round =>
    obtain ⟨k, x, hkl, hk4, rfl, rfl, hx⟩ := hrel
    by_cases hlt2 : k < len
    · by_cases h4 : k < 4000
      · obtain ⟨b, off, rfl, hbB, hcz, hz0, hz1⟩ := hk.2 k hlt2
        have hk0 : (0 : Int) ≤ (k : Int) := Int.natCast_nonneg _
        have hk1 : (k : Int) < (len : Int) := by omega
        clear hk HE
        go_wp2
        go_round
        case rel =>
          refine ⟨k + 1, _, by omega, by omega, by go_num, rfl, ?_⟩
          exact hide (by rw [unhide hx]; rfl)
        case measure => simp [intOf]; omega
      · have hmin : min len 4000 = k := by omega
        have HM := hide hmin
        clear hk hmin
        go_wp2
        go_ret
        exact ⟨w.heap.size, rfl, by rw [unhide HM, ← unhide hx]; exact (unhide HE _).1, (unhide HE _).2⟩
    · have hmin : min len 4000 = k := by omega
      have HM := hide hmin
      clear hk hmin
      go_wp2
      go_ret
      exact ⟨w.heap.size, rfl, by rw [unhide HM, ← unhide hx]; exact (unhide HE _).1, (unhide HE _).2⟩
end Go.Proofs.Ytfnkcpjfjijglaa
