/- The walk of the law FnExactFramesOf: at every list of texts that came in it answers true. -/
import Derived.Test.YtoindecmckikcaaSpecFrames
import Derived.Test.YtoindecmckikcaaImplFrames
import Derived.Test.YtoindecmckikcaaStrsIn
namespace Go.Proofs.Ytoindecmckikcaa
open Go.RowKit
set_option linter.unusedVariables false

theorem strsIn_on {w w1 : World} {a : Option Addr} {ls : List (List UInt8)} (h : StrsIn w w.heap.size a ls) (hb : Below w.heap.size w w1) : StrsIn w1 w1.heap.size a ls := fun j hj => by
  obtain ⟨b, off, h1, h2, h3⟩ := strsIn_below h hb j hj
  exact ⟨b, off, h1, Nat.lt_of_lt_of_le h2 hb.size, h3⟩
set_option maxRecDepth 100000 in
set_option maxHeartbeats 1600000 in
theorem framesOf_law (a : Option Addr) (cap : Nat) (ls : List (List UInt8)) (w : World) (hn : ls.length ≤ 9223372036854775807) (hl : ∀ l ∈ ls, l.length ≤ 9223372036854775807) (hk : StrsIn w w.heap.size a ls) :
    Calls Try.prog 7 #[.slice a ls.length cap] w fun e w' => e = .returned (.bool true) ∧ Below w.heap.size w w' := by
  have HK := hide hk
  have C0 := fun W (h : StrsIn W W.heap.size a ls) => hide (szStrs_any a cap ls 1048576 W (by omega) (by omega) hn hl h)
  clear hk hl
  go_enter Try.func7, Try.ntmps7
  go_wp2_with fail
  refine (unhide (C0 _ (unhide HK))).mono ?_
  rintro e w1 ⟨r, rfl, hr, hcase, hb1⟩
  rcases hcase with hr1 | ⟨hr0, hn1, hl1⟩
  · subst hr1
    go_wp2
    go_ret
    exact ⟨rfl, hb1⟩
  · have HK1 := hide (strsIn_on (unhide HK) hb1)
    go_wp2_with fail
    refine (toStrs_any a cap ls _ hn1 (unhide HK1)).mono ?_
    rintro e w2 ⟨v2, rfl, ho2, hb2⟩
    have HK2 := hide (strsIn_on (unhide HK1) hb2)
    go_wp2_with fail
    refine (specFramesOf_any v2 _ ls _ ho2 hn1 hl1).mono ?_
    rintro e w3 ⟨rfl, hb3⟩
    have HK3 := hide (strsIn_on (unhide HK2) hb3)
    go_wp2_with fail
    refine (toStrs_any a cap ls _ hn1 (unhide HK3)).mono ?_
    rintro e w4 ⟨v4, rfl, ho4, hb4⟩
    have HK4 := hide (strsIn_on (unhide HK3) hb4)
    go_wp2_with fail
    refine (implFramesOf_any v4 _ ls _ ho4 hn1 hl1).mono ?_
    rintro e w5 ⟨rfl, hb5⟩
    have HK5 := hide (strsIn_on (unhide HK4) hb5)
    have ho5 := ownsRow_below ho4 hb5
    generalize framesT ls = f
    go_wp2_with fail
    refine (toStrs_any a cap ls _ hn1 (unhide HK5)).mono ?_
    rintro e w6 ⟨v6, rfl, ho6, hb6⟩
    have ho7 := ownsRow_below ho5 hb6
    go_wp2_with fail
    refine (eqStrs_any v4 v6 _ _ ls _ ho7 ho6 (by omega)).mono ?_
    rintro e w7 ⟨rfl, hb7⟩
    have t2 : Below w.heap.size w w2 := hb1.trans (hb2.mono hb1.size)
    have t3 : Below w.heap.size w w3 := t2.trans (hb3.mono t2.size)
    have t4 : Below w.heap.size w w4 := t3.trans (hb4.mono t3.size)
    have t5 : Below w.heap.size w w5 := t4.trans (hb5.mono t4.size)
    have t6 : Below w.heap.size w w6 := t5.trans (hb6.mono t5.size)
    have t7 : Below w.heap.size w w7 := t6.trans (hb7.mono t6.size)
    clear hb1 hb2 hb3 hb4 hb5 hb6 hb7 ho2 ho4 ho5 ho6 ho7
    go_wp2
    go_ret
    exact ⟨rfl, t7⟩
end Go.Proofs.Ytoindecmckikcaa
