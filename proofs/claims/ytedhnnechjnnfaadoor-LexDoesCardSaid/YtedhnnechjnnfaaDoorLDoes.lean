/- LexDoes. -/
import Derived.Test.YtedhnnechjnnfaaDoorLRef6
import Derived.Test.YtedhnnechjnnfaaDoorLTokens
import Derived.Test.YtedhnnechjnnfaaDoorLName
namespace Go.Proofs.YtedhnnechjnnfaaDoor
open Go.RowKit Go.Shelf
set_option linter.unusedVariables false
set_option linter.unusedSimpArgs false
set_option maxRecDepth 100000 in
set_option maxHeartbeats 4000000 in
theorem does_main (s t : ByteArray) (hs : s.size ≤ 100000) (ht : t.size ≤ 100000) (w : World) (hV : LexVars w) :
    Calls Tryd.prog 4 #[.string s, .string t] w fun e w' => e = .returned (.bool true) ∧ Below w.heap.size w w' := by
  have hsi : ¬ (100000 : Int) < (s.size : Int) := by omega
  have hti : ¬ (100000 : Int) < (t.size : Int) := by omega
  have HV := Lib.hid hV
  have HS := Lib.hid hs
  have HT := Lib.hid ht
  obtain ⟨q, hq⟩ : ∃ q, isKw t.data.toList = q := ⟨_, rfl⟩
  obtain ⟨r, hr⟩ : ∃ r, isName t.data.toList = r := ⟨_, rfl⟩
  have HKW := Lib.hid hq
  have HNM := Lib.hid hr
  clear hV hs ht hq hr
  go_enter Tryd.func4, Tryd.ntmps4
  go_wp2_with fail
  refine (tokens_any s (by have := HS.out; omega) _ HV.out).mono ?_
  rintro e w1 ⟨h1, b1⟩
  have HB1 := Lib.hid b1
  clear b1
  rcases h1 with ⟨A, n, c, L, hR, hn, rfl, hO⟩ | ⟨a, x, hR, rfl⟩
  · have HO := Lib.hid hO
    have HR := Lib.hid hR
    clear hO hR
    go_wp2_with fail
    refine (rtokens_any s (by have := HS.out; omega) _).mono ?_
    rintro e w2 ⟨h2, b2⟩
    have HB2 := Lib.hid (lx_then HB1.out b2)
    have HO2 := Lib.hid (HO.out.below b2)
    clear b2
    rcases h2 with ⟨A2, n2, c2, L2, hR2, hn2, rfl, hO2⟩ | ⟨a, x, hR2, rfl⟩
    · rw [HR.out] at hR2
      cases hR2
      obtain rfl : n = n2 := by rw [← HO2.out.len, ← hO2.len]
      have hsm := same_any A A2 n c c2 _ _ L w2 HO2.out hO2 (by omega)
      have HSM := Lib.hid hsm
      clear hsm hO2
      go_wp2_with fail
      refine HSM.out.mono ?_
      rintro e w3 ⟨rfl, b3⟩
      have HB3 := Lib.hid (lx_then HB2.out b3)
      have HV3 := Lib.hid (HV.out.later HB3.out)
      clear b3
      go_wp2_with fail
      refine (keyword_any t _).mono ?_
      rw [HKW.out]
      rintro e w4 ⟨rfl, rfl⟩
      go_wp2_with fail
      refine (rkeyword_any t _).mono ?_
      rw [HKW.out]
      rintro e w5 ⟨rfl, b5⟩
      have HB5 := Lib.hid (lx_then HB3.out b5)
      have HV5 := Lib.hid (HV3.out.later b5)
      clear b5
      go_wp2_with fail
      refine (name_any t (by have := HT.out; omega) _ HV5.out).mono ?_
      rw [HNM.out]
      rintro e w6 ⟨rfl, b6⟩
      have HB6 := Lib.hid (lx_then HB5.out b6)
      clear b6
      go_wp2_with fail
      refine (rname_any t (by have := HT.out; omega) _).mono ?_
      rw [HNM.out]
      rintro e w7 ⟨rfl, b7⟩
      have HB7 := Lib.hid (lx_then HB6.out b7)
      clear b7
      go_wp2_with fail
      go_ret
      exact ⟨by simp, HB7.out⟩
    · rw [HR.out] at hR2; cases hR2
  · have HR := Lib.hid hR
    clear hR
    go_wp2_with fail
    refine (rtokens_any s (by have := HS.out; omega) _).mono ?_
    rintro e w2 ⟨h2, b2⟩
    have HB2 := Lib.hid (lx_then HB1.out b2)
    clear b2
    rcases h2 with ⟨A2, n2, c2, L2, hR2, hn2, rfl, hO2⟩ | ⟨a2, x2, hR2, rfl⟩
    · rw [HR.out] at hR2; cases hR2
    · rw [HR.out] at hR2
      cases hR2
      have hsm := same_any none none 0 0 0 0 0 [] w2 (owne_nil _ _) (owne_nil _ _) (by omega)
      have HSM := Lib.hid hsm
      clear hsm
      go_wp2_with fail
      refine HSM.out.mono ?_
      rintro e w3 ⟨rfl, b3⟩
      have HB3 := Lib.hid (lx_then HB2.out b3)
      have HV3 := Lib.hid (HV.out.later HB3.out)
      clear b3
      go_wp2_with fail
      refine (keyword_any t _).mono ?_
      rw [HKW.out]
      rintro e w4 ⟨rfl, rfl⟩
      go_wp2_with fail
      refine (rkeyword_any t _).mono ?_
      rw [HKW.out]
      rintro e w5 ⟨rfl, b5⟩
      have HB5 := Lib.hid (lx_then HB3.out b5)
      have HV5 := Lib.hid (HV3.out.later b5)
      clear b5
      go_wp2_with fail
      refine (name_any t (by have := HT.out; omega) _ HV5.out).mono ?_
      rw [HNM.out]
      rintro e w6 ⟨rfl, b6⟩
      have HB6 := Lib.hid (lx_then HB5.out b6)
      clear b6
      go_wp2_with fail
      refine (rname_any t (by have := HT.out; omega) _).mono ?_
      rw [HNM.out]
      rintro e w7 ⟨rfl, b7⟩
      have HB7 := Lib.hid (lx_then HB6.out b7)
      clear b7
      go_wp2_with fail
      go_ret
      exact ⟨by simp, HB7.out⟩
set_option maxRecDepth 100000 in
set_option maxHeartbeats 2000000 in
theorem does_long (s t : ByteArray) (hs : s.size ≤ 9223372036854775807) (ht : t.size ≤ 9223372036854775807) (h : 100000 < s.size ∨ 100000 < t.size) (w : World) :
    Calls Tryd.prog 4 #[.string s, .string t] w fun e w' => e = .returned (.bool true) ∧ Below w.heap.size w w' := by
  by_cases h1 : 100000 < s.size
  · have hi : (100000 : Int) < (s.size : Int) := by omega
    clear h h1 hs ht
    go_enter Tryd.func4, Tryd.ntmps4
    go_wp2_with fail
    go_ret
    exact ⟨rfl, Below.refl _ _⟩
  · have hi : ¬ (100000 : Int) < (s.size : Int) := by omega
    have hj : (100000 : Int) < (t.size : Int) := by omega
    clear h h1 hs ht
    go_enter Tryd.func4, Tryd.ntmps4
    go_wp2_with fail
    go_ret
    exact ⟨rfl, Below.refl _ _⟩
/-- The law, of any two texts. -/
theorem does_any (s t : ByteArray) (hs : s.size ≤ 9223372036854775807) (ht : t.size ≤ 9223372036854775807) (w : World) (hV : LexVars w) :
    Calls Tryd.prog 4 #[.string s, .string t] w fun e w' => e = .returned (.bool true) ∧ Below w.heap.size w w' := by
  by_cases h : 100000 < s.size ∨ 100000 < t.size
  · exact does_long s t hs ht h w
  · exact does_main s t (by omega) (by omega) w hV
end Go.Proofs.YtedhnnechjnnfaaDoor
