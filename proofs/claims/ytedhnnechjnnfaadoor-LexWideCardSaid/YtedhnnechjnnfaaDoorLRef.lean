/- The document's tokens: bytes, signs of two bytes, keywords. -/
import Derived.Test.YtedhnnechjnnfaaDoorLName
namespace Go.Proofs.YtedhnnechjnnfaaDoor
open Go.RowKit Go.Shelf
set_option linter.unusedVariables false
set_option linter.unusedSimpArgs false
theorem bool_is {p q : Bool} (h : p = true ↔ q = true) : Ending.returned (.bool p) = Ending.returned (.bool q) := by
  have h2 : p = q := by cases p <;> cases q <;> simp_all
  rw [h2]
set_option maxRecDepth 100000 in
set_option maxHeartbeats 1000000 in
theorem rletter_any (c : UInt8) (w : World) :
    Calls Tryd.prog 20 #[.int .u8 (c.toNat : Int)] w fun e w' => e = .returned (.bool (lexL c)) ∧ w' = w := by
  generalize hB : lexL c = b
  have HB := Lib.hid hB
  clear hB
  obtain ⟨n, hn⟩ : ∃ n, c.toNat = n := ⟨_, rfl⟩
  have HN := Lib.hid hn
  rw [hn]
  clear hn
  go_enter Tryd.func20, Tryd.ntmps20
  go_wp2
  all_goals
    go_ret
    refine ⟨?_, rfl⟩
    rw [← HB.out]
    refine bool_is ?_
    unfold lexL
    rw [HN.out]
    simp
    omega
set_option maxRecDepth 100000 in
set_option maxHeartbeats 1000000 in
theorem rdigit_any (c : UInt8) (w : World) :
    Calls Tryd.prog 21 #[.int .u8 (c.toNat : Int)] w fun e w' => e = .returned (.bool (lexD c)) ∧ w' = w := by
  generalize hB : lexD c = b
  have HB := Lib.hid hB
  clear hB
  obtain ⟨n, hn⟩ : ∃ n, c.toNat = n := ⟨_, rfl⟩
  have HN := Lib.hid hn
  rw [hn]
  clear hn
  go_enter Tryd.func21, Tryd.ntmps21
  go_wp2
  all_goals
    go_ret
    refine ⟨?_, rfl⟩
    rw [← HB.out]
    refine bool_is ?_
    unfold lexD
    rw [HN.out]
    simp
    omega
set_option maxRecDepth 100000 in
set_option maxHeartbeats 1000000 in
theorem rblank_any (c : UInt8) (w : World) :
    Calls Tryd.prog 18 #[.int .u8 (c.toNat : Int)] w fun e w' => e = .returned (.bool (lexB c)) ∧ w' = w := by
  generalize hB : lexB c = b
  have HB := Lib.hid hB
  clear hB
  obtain ⟨n, hn⟩ : ∃ n, c.toNat = n := ⟨_, rfl⟩
  have HN := Lib.hid hn
  rw [hn]
  clear hn
  go_enter Tryd.func18, Tryd.ntmps18
  go_wp2
  all_goals
    go_ret
    refine ⟨?_, rfl⟩
    rw [← HB.out]
    refine bool_is ?_
    unfold lexB
    rw [HN.out]
    simp
    omega
theorem short_at {sg : ByteArray} (h : sg.data.toList = [40, 41, 123, 125, 91, 93, 59, 44, 61, 60, 62, 43, 45, 42, 47, 37, 33]) (c : UInt8) : sign1 c = sg.data.toList.any fun d => decide (d.toNat = c.toNat) := by
  rw [h]
  unfold sign1
  simp only [List.any_cons, List.any_nil]
  simp [eq_comm]
set_option maxRecDepth 100000 in
set_option maxHeartbeats 1000000 in
theorem rshort_any (c : UInt8) (w : World) :
    Calls Tryd.prog 31 #[.int .u8 (c.toNat : Int)] w fun e w' => e = .returned (.bool (sign1 c)) ∧ w' = w := by
  obtain ⟨sg, hsg⟩ : ∃ sg : ByteArray, ⟨#[40, 41, 123, 125, 91, 93, 59, 44, 61, 60, 62, 43, 45, 42, 47, 37, 33]⟩ = sg := ⟨_, rfl⟩
  have hz : sg.size = 17 := by rw [← hsg]; rfl
  have hl := short_at (sg := sg) (by rw [← hsg]) c
  generalize hB : sign1 c = b at hl ⊢
  have HL := Lib.hid hl
  have HZ := Lib.hid hz
  clear hl hB
  go_enter Tryd.func31, Tryd.ntmps31
  go_wp2
  rw [hsg]
  clear hsg
  go_loopw [4] (fun i wr => ∃ k : Nat, k ≤ 17 ∧ i = .int .i64 (k : Int) ∧ wr = w ∧ ∀ j (hj : j < sg.size), j < k → (sg[j]'hj).toNat ≠ c.toNat) (fun i _ => 17 - (intOf i).toNat)
  case atStart => exact ⟨0, by omega, rfl, rfl, fun j hj h => absurd h (by omega)⟩
  case round =>
    obtain ⟨k, hk, rfl, rfl, hno⟩ := hrel
    have HN := Lib.hid hno
    clear hno
    by_cases hlt : k < 17
    · have hks : k < sg.size := by rw [HZ.out]; exact hlt
      have hki : (k : Int) < 17 := by omega
      by_cases he : (sg[k]'hks).toNat = c.toNat
      · have hei : ((sg[k]'hks).toNat : Int) = (c.toNat : Int) := by omega
        have HT : Hid (b = true) := by
          have h1 := HL.out
          have h2 : (sg.data.toList.any fun d => decide (d.toNat = c.toNat)) = true := List.any_eq_true.2 ⟨_, Array.mem_toList_iff.2 (Array.getElem_mem (xs := sg.data) hks), decide_eq_true he⟩
          rw [h2] at h1
          exact h1
        clear he
        go_wp2
        go_ret
        exact ⟨by rw [HT.out]; rfl, rfl⟩
      · have hei : ¬ ((sg[k]'hks).toNat : Int) = (c.toNat : Int) := by omega
        have HE := Lib.hid he
        clear he
        go_wp2
        go_roundw
        case rel =>
          refine ⟨k + 1, hlt, by go_num, (by first | trivial | rfl), fun j hj h => ?_⟩
          rcases Nat.lt_or_ge j k with h1 | h1
          · exact HN.out j hj h1
          · obtain rfl : j = k := by omega
            exact HE.out
        case measure => simp [intOf]; omega
    · have HT : Hid (b = false) := by
        have h1 := HL.out
        have h2 : (sg.data.toList.any fun d => decide (d.toNat = c.toNat)) = false := by
          rw [List.any_eq_false]
          intro d hd
          obtain ⟨j, hj, hjd⟩ := List.getElem_of_mem hd
          have hj2 : j < sg.size := by rw [← lx_size]; exact hj
          have h3 := HN.out j hj2 (by rw [HZ.out] at hj2; omega)
          have h4 : sg[j]'hj2 = d := hjd
          rw [h4] at h3
          simpa using h3
        rw [h2] at h1
        exact h1
      have hki : ¬ (k : Int) < 17 := by omega
      clear hlt hk
      go_wp2
      go_ret
      exact ⟨by rw [HT.out]; rfl, rfl⟩
set_option maxRecDepth 100000 in
set_option maxHeartbeats 2000000 in
theorem rlong_go (s : ByteArray) (a : Nat) (h : a + 2 ≤ s.size) (hs : s.size ≤ 1000000) (tx : ByteArray) (htx : s.extract a (a + 2) = tx) (b0 b1 b2 b3 b4 b5 b6 b7 : Bool)
    (n0 : (tx.toList == [60, 60]) = b0) (n1 : (tx.toList == [62, 62]) = b1) (n2 : (tx.toList == [60, 61]) = b2) (n3 : (tx.toList == [62, 61]) = b3) (n4 : (tx.toList == [61, 61]) = b4) (n5 : (tx.toList == [33, 61]) = b5) (n6 : (tx.toList == [38, 38]) = b6) (n7 : (tx.toList == [124, 124]) = b7) (w : World) :
    Calls Tryd.prog 30 #[.string s, .int .i64 (a : Int)] w fun e w' => e = .returned (.bool (b0 || b1 || b2 || b3 || b4 || b5 || b6 || b7)) ∧ w' = w := by
  have hi : ¬ (s.size : Int) < (a : Int) + 2 := by omega
  have h0 : (0 : Int) ≤ (a : Int) := by omega
  have h1 : (a : Int) ≤ (a : Int) + 2 := by omega
  have h2 : (a : Int) + 2 ≤ (s.size : Int) := by omega
  generalize hB : (b0 || b1 || b2 || b3 || b4 || b5 || b6 || b7) = B
  have HB := Lib.hid hB
  clear hB h
  cases b0 with
  | true =>
    go_enter Tryd.func30, Tryd.ntmps30
    go_wp2
    go_ret
    exact ⟨by rw [← HB.out]; simp, rfl⟩
  | false =>
    cases b1 with
    | true =>
      go_enter Tryd.func30, Tryd.ntmps30
      go_wp2
      go_ret
      exact ⟨by rw [← HB.out]; simp, rfl⟩
    | false =>
      cases b2 with
      | true =>
        go_enter Tryd.func30, Tryd.ntmps30
        go_wp2
        go_ret
        exact ⟨by rw [← HB.out]; simp, rfl⟩
      | false =>
        cases b3 with
        | true =>
          go_enter Tryd.func30, Tryd.ntmps30
          go_wp2
          go_ret
          exact ⟨by rw [← HB.out]; simp, rfl⟩
        | false =>
          cases b4 with
          | true =>
            go_enter Tryd.func30, Tryd.ntmps30
            go_wp2
            go_ret
            exact ⟨by rw [← HB.out]; simp, rfl⟩
          | false =>
            cases b5 with
            | true =>
              go_enter Tryd.func30, Tryd.ntmps30
              go_wp2
              go_ret
              exact ⟨by rw [← HB.out]; simp, rfl⟩
            | false =>
              cases b6 with
              | true =>
                go_enter Tryd.func30, Tryd.ntmps30
                go_wp2
                go_ret
                exact ⟨by rw [← HB.out]; simp, rfl⟩
              | false =>
                cases b7 with
                | true =>
                  go_enter Tryd.func30, Tryd.ntmps30
                  go_wp2
                  go_ret
                  exact ⟨by rw [← HB.out]; simp, rfl⟩
                | false =>
                  go_enter Tryd.func30, Tryd.ntmps30
                  go_wp2
                  go_ret
                  exact ⟨by rw [← HB.out]; simp, rfl⟩
set_option maxRecDepth 100000 in
set_option maxHeartbeats 1000000 in
theorem rlong_short (s : ByteArray) (a : Nat) (h : ¬ a + 2 ≤ s.size) (ha : a < s.size) (hs : s.size ≤ 1000000) (w : World) :
    Calls Tryd.prog 30 #[.string s, .int .i64 (a : Int)] w fun e w' => e = .returned (.bool false) ∧ w' = w := by
  have hi : (s.size : Int) < (a : Int) + 2 := by omega
  clear h
  go_enter Tryd.func30, Tryd.ntmps30
  go_wp2
  go_ret
  exact ⟨rfl, rfl⟩
theorem two_is (x y p q : UInt8) : ([x, y] == [p, q]) = (decide (x.toNat = p.toNat) && decide (y.toNat = q.toNat)) := by
  have e : ∀ c d : UInt8, (c == d) = decide (c.toNat = d.toNat) := fun c d => by
    by_cases he : c = d
    · subst he; simp
    · rw [beq_eq_false_iff_ne.2 he, decide_eq_false fun h => he (UInt8.toNat_inj.1 h)]
  show ((x == p) && ((y == q) && ([] == ([] : List UInt8)))) = _
  rw [e, e]
  simp
/-- The document's long. -/
theorem rlong_any (s : ByteArray) (a : Nat) (ha : a < s.size) (hs : s.size ≤ 1000000) (w : World) :
    Calls Tryd.prog 30 #[.string s, .int .i64 (a : Int)] w fun e w' => e = .returned (.bool (lexLong (s.data.toList.drop a))) ∧ w' = w := by
  by_cases h : a + 2 ≤ s.size
  · have hx := lx_at ha
    have hy := lx_at (s := s) (k := a + 1) (by omega)
    obtain ⟨x, hxe⟩ : ∃ x, s[a]'ha = x := ⟨_, rfl⟩
    obtain ⟨y, hye⟩ : ∃ y, s[a + 1]'(by omega) = y := ⟨_, rfl⟩
    rw [hxe] at hx
    rw [hye] at hy
    have hd : s.data.toList.drop a = x :: y :: s.data.toList.drop (a + 2) := by rw [drop_cons hx, drop_cons hy]
    have htl : (s.extract a (a + 2)).toList = [x, y] := by
      rw [Lib.toList_data, bs_extract, bs_list, hd, show a + 2 - a = 2 by omega]
      rfl
    have h1 := rlong_go s a h hs _ rfl _ _ _ _ _ _ _ _ (by rw [htl, two_is]) (by rw [htl, two_is]) (by rw [htl, two_is]) (by rw [htl, two_is]) (by rw [htl, two_is]) (by rw [htl, two_is]) (by rw [htl, two_is]) (by rw [htl, two_is]) w
    rw [hd]
    have h2 : lexLong (x :: y :: s.data.toList.drop (a + 2)) = _ := rfl
    rw [show lexLong (x :: y :: s.data.toList.drop (a + 2)) = sign2 x y from rfl]
    have h3 : sign2 x y = (decide (x.toNat = 60) && decide (y.toNat = 60) || decide (x.toNat = 62) && decide (y.toNat = 62) || decide (x.toNat = 60) && decide (y.toNat = 61) || decide (x.toNat = 62) && decide (y.toNat = 61) || decide (x.toNat = 61) && decide (y.toNat = 61) || decide (x.toNat = 33) && decide (y.toNat = 61) || decide (x.toNat = 38) && decide (y.toNat = 38) || decide (x.toNat = 124) && decide (y.toNat = 124)) := by
      unfold sign2
      cases decide (x.toNat = 60) <;> cases decide (x.toNat = 62) <;> cases decide (x.toNat = 61) <;> cases decide (x.toNat = 33) <;> cases decide (x.toNat = 38) <;> cases decide (x.toNat = 124) <;> cases decide (y.toNat = 60) <;> cases decide (y.toNat = 61) <;> cases decide (y.toNat = 62) <;> simp
    rw [h3]
    exact h1
  · have hd : lexLong (s.data.toList.drop a) = false := by
      have hx := lx_at ha
      rw [drop_cons hx, List.drop_eq_nil_of_le (by rw [lx_size]; omega)]
      rfl
    rw [hd]
    exact rlong_short s a h ha hs w
end Go.Proofs.YtedhnnechjnnfaaDoor
