/- lex: Keyword, Name. -/
import Derived.Test.YtedhnnechjnnfaaDoorLToks
namespace Go.Proofs.YtedhnnechjnnfaaDoor
open Go.RowKit Go.Shelf
set_option linter.unusedVariables false
set_option linter.unusedSimpArgs false

/-- The keywords. -/
def kwL : List (List UInt8) := [[118, 97, 114], [97, 114, 114, 97, 121], [112, 114, 111, 99], [109, 97, 105, 110], [115, 107, 105, 112], [105, 110, 112, 117, 116], [97, 115, 115, 117, 109, 101], [97, 115, 115, 101, 114, 116], [105, 102], [101, 108, 115, 101], [119, 104, 105, 108, 101], [99, 97, 108, 108], [116, 114, 117, 101], [102, 97, 108, 115, 101]]
def isKw (l : List UInt8) : Bool := kwL.contains l
set_option maxRecDepth 100000 in
set_option maxHeartbeats 2000000 in
theorem keyword_yes (s : ByteArray) (h : s.toList ∈ kwL) (w : World) :
    Calls Tryd.prog 10 #[.string s] w fun e w' => e = .returned (.bool true) ∧ w' = w := by
  have h2 : s.toList = [118, 97, 114] ∨ s.toList = [97, 114, 114, 97, 121] ∨ s.toList = [112, 114, 111, 99] ∨ s.toList = [109, 97, 105, 110] ∨ s.toList = [115, 107, 105, 112] ∨ s.toList = [105, 110, 112, 117, 116] ∨ s.toList = [97, 115, 115, 117, 109, 101] ∨ s.toList = [97, 115, 115, 101, 114, 116] ∨ s.toList = [105, 102] ∨ s.toList = [101, 108, 115, 101] ∨ s.toList = [119, 104, 105, 108, 101] ∨ s.toList = [99, 97, 108, 108] ∨ s.toList = [116, 114, 117, 101] ∨ s.toList = [102, 97, 108, 115, 101] := by
    simpa [kwL] using h
  clear h
  rcases h2 with h | h | h | h | h | h | h | h | h | h | h | h | h | h
  all_goals
    go_enter Tryd.func10, Tryd.ntmps10
    go_wp2
    go_ret
    exact ⟨rfl, rfl⟩
set_option maxRecDepth 100000 in
set_option maxHeartbeats 2000000 in
theorem keyword_no (s : ByteArray) (h : ¬ s.toList ∈ kwL) (w : World) :
    Calls Tryd.prog 10 #[.string s] w fun e w' => e = .returned (.bool false) ∧ w' = w := by
  have hne : ∀ k, k ∈ kwL → (s.toList == k) = false := fun k hk => beq_eq_false_iff_ne.2 fun e => h (e ▸ hk)
  have n0 := hne [118, 97, 114] (by decide)
  have n1 := hne [97, 114, 114, 97, 121] (by decide)
  have n2 := hne [112, 114, 111, 99] (by decide)
  have n3 := hne [109, 97, 105, 110] (by decide)
  have n4 := hne [115, 107, 105, 112] (by decide)
  have n5 := hne [105, 110, 112, 117, 116] (by decide)
  have n6 := hne [97, 115, 115, 117, 109, 101] (by decide)
  have n7 := hne [97, 115, 115, 101, 114, 116] (by decide)
  have n8 := hne [105, 102] (by decide)
  have n9 := hne [101, 108, 115, 101] (by decide)
  have n10 := hne [119, 104, 105, 108, 101] (by decide)
  have n11 := hne [99, 97, 108, 108] (by decide)
  have n12 := hne [116, 114, 117, 101] (by decide)
  have n13 := hne [102, 97, 108, 115, 101] (by decide)
  clear h hne
  go_enter Tryd.func10, Tryd.ntmps10
  go_wp2
  go_ret
  exact ⟨rfl, rfl⟩
/-- lex.Keyword. -/
theorem keyword_any (s : ByteArray) (w : World) :
    Calls Tryd.prog 10 #[.string s] w fun e w' => e = .returned (.bool (isKw s.data.toList)) ∧ w' = w := by
  cases h : isKw s.data.toList with
  | true => exact keyword_yes s (by rw [Lib.toList_data]; exact List.contains_iff_mem.1 h) w
  | false => exact keyword_no s (by rw [Lib.toList_data]; intro h2; have h3 := List.contains_iff_mem.2 h2; unfold isKw at h; rw [h3] at h; cases h) w
/-- A name: a token of kind 1 that is all of the text, and no keyword. -/
def isName (l : List UInt8) : Bool := match oneT l with
  | .error _ => false
  | .ok (k, n) => decide (k = 1) && (decide (l.take n = l) && !isKw l)
theorem isName_err {l : List UInt8} {x : Int} (h : oneT l = .error x) : isName l = false := by unfold isName; rw [h]
theorem isName_ok {l : List UInt8} {k : Int} {n : Nat} (h : oneT l = .ok (k, n)) : isName l = (decide (k = 1) && (decide (l.take n = l) && !isKw l)) := by unfold isName; rw [h]
set_option maxRecDepth 100000 in
set_option maxHeartbeats 4000000 in
theorem name_any (s : ByteArray) (hs : s.size ≤ 1000000) (w : World) (hV : LexVars w) :
    Calls Tryd.prog 9 #[.string s] w fun e w' => e = .returned (.bool (isName s.data.toList)) ∧ Below w.heap.size w w' := by
  have HV := Lib.hid hV
  generalize hB : isName s.data.toList = b
  have HB := Lib.hid hB
  clear hV hB
  go_enter Tryd.func9, Tryd.ntmps9
  go_wp2_with fail
  refine (allMarks_any _).mono ?_
  rintro e w1 ⟨v, rfl, m1, b1⟩
  have htk := token_any _ s hs v w1 (HV.out.later b1) m1
  obtain ⟨vb, vd, vp, rfl, mb, md, mp⟩ := m1.out
  obtain ⟨Fb, kb, rfl⟩ := mb.shape
  obtain ⟨Fd, kd, rfl⟩ := md.shape
  obtain ⟨Fp, kp, rfl⟩ := mp.shape
  have HB1 := Lib.hid b1
  clear mb md mp m1 b1
  go_wp2_with fail
  refine htk.mono ?_
  rintro e w2 ⟨rfl, b2⟩
  have HB2 := Lib.hid (lx_then HB1.out b2)
  clear htk b2
  cases hR : tokenR s.data.toList with
  | error x =>
    obtain ⟨ho, hx⟩ := tokenR_err hR
    have HE := Lib.hid (isName_err ho)
    have hx2 : (x == 0) = false := beq_eq_false_iff_ne.2 hx
    have HBX := Lib.hid (lx_then HB2.out (lx_new w2 (tokO 0 ⟨#[]⟩ 0)))
    clear hR ho
    unfold tokR tokV
    go_wp2_with fail
    go_ret
    exact ⟨by rw [← HB.out, HE.out]; rfl, HBX.out⟩
  | ok kt =>
    obtain ⟨k, tx⟩ := kt
    obtain ⟨n, ho, htx⟩ := tokenR_ok hR
    have hE := isName_ok ho
    rw [HB.out] at hE
    have HBX := Lib.hid (lx_then HB2.out (lx_new w2 (tokO k tx 0)))
    have hte : (tx.toList == s.toList) = decide (s.data.toList.take n = s.data.toList) := by
      rw [Lib.toList_data, Lib.toList_data, htx, bs_list]
      by_cases he : s.data.toList.take n = s.data.toList
      · rw [decide_eq_true he, beq_iff_eq]; exact he
      · rw [decide_eq_false he, beq_eq_false_iff_ne]; exact he
    clear hR ho htx
    unfold tokR tokV
    by_cases hk : k = 1
    · subst hk
      cases hd : decide (s.data.toList.take n = s.data.toList) with
      | true =>
        rw [hd] at hte hE
        have HE := Lib.hid hE
        have HKW := Lib.hid (fun w => keyword_any s w)
        clear hE hd
        generalize hkw : isKw s.data.toList = q at HKW
        have HQ := Lib.hid hkw
        clear hkw
        go_wp2_with fail
        refine (HKW.out _).mono ?_
        rintro e w3 ⟨rfl, rfl⟩
        go_wp2_with fail
        go_ret
        refine ⟨?_, HBX.out⟩
        rw [HE.out, HQ.out]
        simp
      | false =>
        rw [hd] at hte hE
        have HE := Lib.hid hE
        clear hE hd
        go_wp2_with fail
        go_ret
        exact ⟨by rw [HE.out]; rfl, HBX.out⟩
    · have hkb : (k == 1) = false := beq_eq_false_iff_ne.2 hk
      rw [decide_eq_false hk, Bool.false_and] at hE
      have HE := Lib.hid hE
      clear hE hte
      go_wp2_with fail
      go_ret
      exact ⟨by rw [HE.out]; rfl, HBX.out⟩
end Go.Proofs.YtedhnnechjnnfaaDoor
