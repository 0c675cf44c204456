/- The document's tokens: the token at a place. -/
import Derived.Test.YtedhnnechjnnfaaDoorLRef2
namespace Go.Proofs.YtedhnnechjnnfaaDoor
open Go.RowKit Go.Shelf
set_option linter.unusedVariables false
set_option linter.unusedSimpArgs false
/-- What a loop from a place on has gone over. -/
def Over (p : UInt8 → Bool) (s : ByteArray) (a e : Nat) : Prop := ∀ j c, a ≤ j → j < e → s.data.toList[j]? = some c → p c = true
theorem Over.step {p : UInt8 → Bool} {s : ByteArray} {a e : Nat} (h : Over p s a e) (hl : e < s.size) (hc : p (s[e]'hl) = true) : Over p s a (e + 1) := by
  intro j c h1 h2 h3
  rcases Nat.lt_or_ge j e with h4 | h4
  · exact h j c h1 h4 h3
  · obtain rfl : j = e := by omega
    rw [lx_at hl] at h3
    cases h3
    exact hc
theorem over_end {p : UInt8 → Bool} {s : ByteArray} {a e : Nat} (h : Over p s a e) (hae : a ≤ e) (he : e ≤ s.size) (hn : e = s.size ∨ ∃ c, s.data.toList[e]? = some c ∧ p c = false) :
    (s.data.toList.drop a).takeWhile p = (s.data.toList.drop a).take (e - a) ∧ ((s.data.toList.drop a).takeWhile p).length = e - a ∧ (s.data.toList.drop a).dropWhile p = s.data.toList.drop e := by
  have h1 := lex_over (p := p) (e - a) a s.data.toList (by rw [lx_size]; omega) (fun j c hj hc => h (a + j) c (by omega) (by omega) hc) (by rw [lx_size, show a + (e - a) = e by omega]; exact hn)
  rw [show a + (e - a) = e by omega] at h1
  exact h1
/-- What the document's one answers. -/
def oneR (l : List UInt8) (a : Nat) : Except Int (Int × Nat) → Value
  | .error x => .tuple #[tokV 0 ⟨#[]⟩ 0, .int .i64 x]
  | .ok (k, n) => .tuple #[tokV k (bs (l.take n)) a, .int .i64 0]
theorem piece_bs (s : ByteArray) (a n : Nat) : s.extract a (a + n) = bs ((s.data.toList.drop a).take n) := by
  rw [bs_extract, show a + n - a = n by omega]
set_option maxRecDepth 100000 in
set_option maxHeartbeats 4000000 in
theorem one_word (s : ByteArray) (a : Nat) (ha : a < s.size) (hs : s.size ≤ 4096) (hl : lexL (s[a]'ha) = true) (w : World) :
    Calls Tryd.prog 19 #[.string s, .int .i64 (a : Int)] w fun e w' => e = .returned (oneR (s.data.toList.drop a) a (oneT (s.data.toList.drop a))) ∧ Below w.heap.size w w' := by
  have HN := Lib.hid (lx_new w (tokO 0 ⟨#[]⟩ 0))
  have HT := Lib.hid (lx_made w (tokO 0 ⟨#[]⟩ 0))
  have hai : (0 : Int) ≤ (a : Int) := by omega
  have haj : (a : Int) < (s.size : Int) := by omega
  have h1 := oneT_word (t := s.data.toList.drop (a + 1)) hl
  rw [← drop_cons (lx_at ha)] at h1
  generalize hO : oneT (s.data.toList.drop a) = O at h1 ⊢
  have HO := Lib.hid h1
  have hlt := rletter_any (s[a]'ha)
  rw [hl] at hlt
  have HLT := Lib.hid hlt
  clear h1 hO hlt hl
  go_enter Tryd.func19, Tryd.ntmps19
  go_wp2_with fail
  refine (HLT.out _).mono ?_
  rintro e w1 ⟨rfl, rfl⟩
  go_wp2_with fail
  go_loopw [6] (fun v wr => ∃ e : Nat, a ≤ e ∧ e ≤ s.size ∧ v = .int .i64 (e : Int) ∧ wr = w.alloc (tokO 0 ⟨#[]⟩ 0) ∧ Over lexW s a e) (fun v _ => s.size - (intOf v).toNat)
  case atStart => exact ⟨a, Nat.le_refl _, by omega, rfl, rfl, fun j c h1 h2 => absurd h2 (by omega)⟩
  case round =>
    obtain ⟨e, hae, hes, rfl, rfl, hov⟩ := hrel
    have HOV := Lib.hid hov
    clear hov
    have hej : (e : Int) ≤ (s.size : Int) := by omega
    have haej : (a : Int) ≤ (e : Int) := by omega
    by_cases hlt : e < s.size
    · have hei : (e : Int) < (s.size : Int) := by omega
      have hcl := rletter_any (s[e]'hlt)
      have hcd := rdigit_any (s[e]'hlt)
      cases hl : lexL (s[e]'hlt) with
      | true =>
        rw [hl] at hcl
        have HL := Lib.hid hl
        have HCL := Lib.hid hcl
        clear hl hcl hcd
        go_wp2_with fail
        refine (HCL.out _).mono ?_
        rintro e2 w2 ⟨rfl, rfl⟩
        go_wp2_with fail
        go_roundw
        case rel => exact ⟨e + 1, by omega, hlt, by go_num, (by first | trivial | rfl), HOV.out.step hlt (by rw [lexW_parts, HL.out]; rfl)⟩
        case measure => simp [intOf]; omega
      | false =>
        rw [hl] at hcl
        have HCL := Lib.hid hcl
        cases hd : lexD (s[e]'hlt) with
        | true =>
          rw [hd] at hcd
          have HD := Lib.hid hd
          have HCD := Lib.hid hcd
          clear hl hcl hcd hd
          go_wp2_with fail
          refine (HCL.out _).mono ?_
          rintro e2 w2 ⟨rfl, rfl⟩
          go_wp2_with fail
          refine (HCD.out _).mono ?_
          rintro e2 w2 ⟨rfl, rfl⟩
          go_wp2_with fail
          go_roundw
          case rel => exact ⟨e + 1, by omega, hlt, by go_num, (by first | trivial | rfl), HOV.out.step hlt (by rw [lexW_parts, HD.out, Bool.or_true])⟩
          case measure => simp [intOf]; omega
        | false =>
          rw [hd] at hcd
          have HCD := Lib.hid hcd
          have HEND : Hid (e = s.size ∨ ∃ c, s.data.toList[e]? = some c ∧ lexW c = false) := .inr ⟨_, lx_at hlt, by rw [lexW_parts, hl, hd]; rfl⟩
          clear hl hcl hcd hd
          have hov := over_end HOV.out hae hes HEND.out
          have HO2 : Hid (O = if 16 < e - a then .error 82 else .ok (1, e - a)) := by
            have h1 := HO.out
            rw [hov.2.1] at h1
            exact h1
          clear hov
          by_cases h16 : 16 < e - a
          · have q16 : (16 : Int) < (e : Int) - (a : Int) := by omega
            have HO3 : Hid (O = .error 82) := by have h1 := HO2.out; rw [if_pos h16] at h1; exact h1
            clear h16
            obtain ⟨c0, c1, c2, z0, z1, z2⟩ := tokAt_of HT.out
            go_wp2_with fail
            refine (HCL.out _).mono ?_
            rintro e2 w2 ⟨rfl, rfl⟩
            go_wp2_with fail
            refine (HCD.out _).mono ?_
            rintro e2 w2 ⟨rfl, rfl⟩
            go_wp2_with fail
            refine bodyPost_ret (v := .tuple #[tokV 0 ⟨#[]⟩ 0, .int .i64 82]) (by simp [results, Tryd.results19, go_sem, c0, c1, c2, tokV]) rfl ?_
            refine ⟨by rw [HO3.out]; rfl, ?_⟩
            first
              | exact HN.out
              | exact tok_below HN.out (Nat.le_refl _) _ _ _
          · have q16 : ¬ (16 : Int) < (e : Int) - (a : Int) := by omega
            have HO3 : Hid (O = .ok (1, e - a)) := by have h1 := HO2.out; rw [if_neg h16] at h1; exact h1
            clear h16
            obtain ⟨c0, c1, c2, z0, z1, z2⟩ := tokAt_of HT.out
            have hsx := piece_bs s a (e - a)
            rw [show a + (e - a) = e by omega] at hsx
            have HSX := Lib.hid hsx
            clear hsx
            go_wp2_with fail
            refine (HCL.out _).mono ?_
            rintro e2 w2 ⟨rfl, rfl⟩
            go_wp2_with fail
            refine (HCD.out _).mono ?_
            rintro e2 w2 ⟨rfl, rfl⟩
            go_wp2_with fail
            refine bodyPost_ret (v := .tuple #[tokV 1 (s.extract a e) a, .int .i64 0]) (by simp [results, Tryd.results19, go_sem, c0, c1, c2, tokV]) rfl ?_
            refine ⟨by rw [HO3.out, HSX.out]; rfl, ?_⟩
            first
              | exact lx_new _ _
              | exact tok_below HN.out (Nat.le_refl _) _ _ _
    · have hei : ¬ (e : Int) < (s.size : Int) := by omega
      have HEND : Hid (e = s.size ∨ ∃ c, s.data.toList[e]? = some c ∧ lexW c = false) := .inl (by omega)
      have hov := over_end HOV.out hae hes HEND.out
      have HO2 : Hid (O = if 16 < e - a then .error 82 else .ok (1, e - a)) := by
        have h1 := HO.out
        rw [hov.2.1] at h1
        exact h1
      clear hov
      by_cases h16 : 16 < e - a
      · have q16 : (16 : Int) < (e : Int) - (a : Int) := by omega
        have HO3 : Hid (O = .error 82) := by have h1 := HO2.out; rw [if_pos h16] at h1; exact h1
        clear h16
        obtain ⟨c0, c1, c2, z0, z1, z2⟩ := tokAt_of HT.out
        go_wp2_with fail
        refine bodyPost_ret (v := .tuple #[tokV 0 ⟨#[]⟩ 0, .int .i64 82]) (by simp [results, Tryd.results19, go_sem, c0, c1, c2, tokV]) rfl ?_
        refine ⟨by rw [HO3.out]; rfl, ?_⟩
        first
          | exact HN.out
          | exact tok_below HN.out (Nat.le_refl _) _ _ _
      · have q16 : ¬ (16 : Int) < (e : Int) - (a : Int) := by omega
        have HO3 : Hid (O = .ok (1, e - a)) := by have h1 := HO2.out; rw [if_neg h16] at h1; exact h1
        clear h16
        obtain ⟨c0, c1, c2, z0, z1, z2⟩ := tokAt_of HT.out
        have hsx := piece_bs s a (e - a)
        rw [show a + (e - a) = e by omega] at hsx
        have HSX := Lib.hid hsx
        clear hsx
        go_wp2_with fail
        refine bodyPost_ret (v := .tuple #[tokV 1 (s.extract a e) a, .int .i64 0]) (by simp [results, Tryd.results19, go_sem, c0, c1, c2, tokV]) rfl ?_
        refine ⟨by rw [HO3.out, HSX.out]; rfl, ?_⟩
        first
          | exact lx_new _ _
          | exact tok_below HN.out (Nat.le_refl _) _ _ _
set_option maxRecDepth 100000 in
set_option maxHeartbeats 4000000 in
theorem one_number (s : ByteArray) (a : Nat) (ha : a < s.size) (hs : s.size ≤ 4096) (hl : lexL (s[a]'ha) = false) (hd : lexD (s[a]'ha) = true) (w : World) :
    Calls Tryd.prog 19 #[.string s, .int .i64 (a : Int)] w fun e w' => e = .returned (oneR (s.data.toList.drop a) a (oneT (s.data.toList.drop a))) ∧ Below w.heap.size w w' := by
  have HN := Lib.hid (lx_new w (tokO 0 ⟨#[]⟩ 0))
  have HT := Lib.hid (lx_made w (tokO 0 ⟨#[]⟩ 0))
  have hai : (0 : Int) ≤ (a : Int) := by omega
  have haj : (a : Int) < (s.size : Int) := by omega
  have h1 := oneT_cons (s[a]'ha) (s.data.toList.drop (a + 1))
  rw [← drop_cons (lx_at ha), hl, hd, if_neg (by decide), if_pos rfl] at h1
  generalize hO : oneT (s.data.toList.drop a) = O at h1 ⊢
  have HO := Lib.hid h1
  have hlt := rletter_any (s[a]'ha)
  have hld := rdigit_any (s[a]'ha)
  rw [hl] at hlt
  rw [hd] at hld
  have HLT := Lib.hid hlt
  have HLD := Lib.hid hld
  have HD0 := Lib.hid hd
  clear h1 hO hlt hld hl hd
  go_enter Tryd.func19, Tryd.ntmps19
  go_wp2_with fail
  refine (HLT.out _).mono ?_
  rintro e w1 ⟨rfl, rfl⟩
  go_wp2_with fail
  refine (HLD.out _).mono ?_
  rintro e w1 ⟨rfl, rfl⟩
  go_wp2_with fail
  go_loopw [6] (fun v wr => ∃ e : Nat, a ≤ e ∧ e ≤ s.size ∧ v = .int .i64 (e : Int) ∧ wr = w.alloc (tokO 0 ⟨#[]⟩ 0) ∧ Over lexD s a e) (fun v _ => s.size - (intOf v).toNat)
  case atStart => exact ⟨a, Nat.le_refl _, by omega, rfl, rfl, fun j c h1 h2 => absurd h2 (by omega)⟩
  case round =>
    obtain ⟨e, hae, hes, rfl, rfl, hov⟩ := hrel
    have HOV := Lib.hid hov
    clear hov
    have hej : (e : Int) ≤ (s.size : Int) := by omega
    have haej : (a : Int) ≤ (e : Int) := by omega
    by_cases hlt : e < s.size
    · have hei : (e : Int) < (s.size : Int) := by omega
      have hcd := rdigit_any (s[e]'hlt)
      cases hd : lexD (s[e]'hlt) with
      | true =>
        rw [hd] at hcd
        have HD := Lib.hid hd
        have HCD := Lib.hid hcd
        clear hcd hd
        go_wp2_with fail
        refine (HCD.out _).mono ?_
        rintro e2 w2 ⟨rfl, rfl⟩
        go_wp2_with fail
        go_roundw
        case rel => exact ⟨e + 1, by omega, hlt, by go_num, (by first | trivial | rfl), HOV.out.step hlt HD.out⟩
        case measure => simp [intOf]; omega
      | false =>
        rw [hd] at hcd
        have HCD := Lib.hid hcd
        have HEND : Hid (e = s.size ∨ ∃ c, s.data.toList[e]? = some c ∧ lexD c = false) := .inr ⟨_, lx_at hlt, hd⟩
        have hne : a < e := by
          rcases Nat.lt_or_ge a e with h | h
          · exact h
          · obtain rfl : a = e := by omega
            rw [HD0.out] at hd; cases hd
        have hhd : headL (s.data.toList.drop e) = lexL (s[e]'hlt) := by rw [drop_cons (lx_at hlt)]; rfl
        have HHD := Lib.hid hhd
        have hcl := rletter_any (s[e]'hlt)
        clear hcd hd hhd
        have hov := over_end HOV.out hae hes HEND.out
        have hsx := piece_bs s a (e - a)
        rw [show a + (e - a) = e by omega] at hsx
        have hrn : ∀ w, Calls Tryd.prog 29 #[.string (s.extract a e)] w fun x w' => x = .returned (.bool (lexOk ((s.data.toList.drop a).take (e - a)))) ∧ w' = w := fun w => by
          have h1 := rnumber_any (s.extract a e) (by rw [hsx, bs_size, List.length_take, List.length_drop, lx_size]; omega) (by rw [hsx, bs_list, ← hov.1]; exact all_takeWhile _ _) (by rw [hsx, bs_size, List.length_take]; omega) w
          rw [hsx, bs_list] at h1
          rw [hsx]
          exact h1
        have hO2 : O = if (!lexOk ((s.data.toList.drop a).take (e - a)) || headL (s.data.toList.drop e)) = true then .error 81 else .ok (2, e - a) := by
          have h1 := HO.out
          rw [hov.2.2, hov.2.1, hov.1] at h1
          exact h1
        generalize lexOk ((s.data.toList.drop a).take (e - a)) = q at hrn hO2
        have HO2 := Lib.hid hO2
        have HSX := Lib.hid hsx
        have HRN := Lib.hid hrn
        obtain ⟨c0, c1, c2, z0, z1, z2⟩ := tokAt_of HT.out
        clear hov hsx hrn hO2
        cases q with
        | false =>
          have HO3 : Hid (O = .error 81) := by have h1 := HO2.out; rw [Bool.not_false, Bool.true_or, if_pos rfl] at h1; exact h1
          go_wp2_with fail
          refine (HCD.out _).mono ?_
          rintro e2 w2 ⟨rfl, rfl⟩
          go_wp2_with fail
          refine (HRN.out _).mono ?_
          rintro e2 w2 ⟨rfl, rfl⟩
          go_wp2_with fail
          refine bodyPost_ret (v := .tuple #[tokV 0 ⟨#[]⟩ 0, .int .i64 81]) (by simp [results, Tryd.results19, go_sem, c0, c1, c2, tokV]) rfl ?_
          refine ⟨by rw [HO3.out]; rfl, ?_⟩
          first
            | exact HN.out
            | exact tok_below HN.out (Nat.le_refl _) _ _ _
        | true =>
          cases hl : lexL (s[e]'hlt) with
          | true =>
            rw [hl] at hcl
            have HCL := Lib.hid hcl
            have HO3 : Hid (O = .error 81) := by have h1 := HO2.out; rw [HHD.out, hl, Bool.or_true, if_pos rfl] at h1; exact h1
            clear hl hcl
            go_wp2_with fail
            refine (HCD.out _).mono ?_
            rintro e2 w2 ⟨rfl, rfl⟩
            go_wp2_with fail
            refine (HRN.out _).mono ?_
            rintro e2 w2 ⟨rfl, rfl⟩
            go_wp2_with fail
            refine (HCL.out _).mono ?_
            rintro e2 w2 ⟨rfl, rfl⟩
            go_wp2_with fail
            refine bodyPost_ret (v := .tuple #[tokV 0 ⟨#[]⟩ 0, .int .i64 81]) (by simp [results, Tryd.results19, go_sem, c0, c1, c2, tokV]) rfl ?_
            refine ⟨by rw [HO3.out]; rfl, ?_⟩
            first
              | exact HN.out
              | exact tok_below HN.out (Nat.le_refl _) _ _ _
          | false =>
            rw [hl] at hcl
            have HCL := Lib.hid hcl
            have HO3 : Hid (O = .ok (2, e - a)) := by have h1 := HO2.out; rw [HHD.out, hl, Bool.not_true, Bool.false_or, if_neg (by decide)] at h1; exact h1
            clear hl hcl
            go_wp2_with fail
            refine (HCD.out _).mono ?_
            rintro e2 w2 ⟨rfl, rfl⟩
            go_wp2_with fail
            refine (HRN.out _).mono ?_
            rintro e2 w2 ⟨rfl, rfl⟩
            go_wp2_with fail
            refine (HCL.out _).mono ?_
            rintro e2 w2 ⟨rfl, rfl⟩
            go_wp2_with fail
            refine bodyPost_ret (v := .tuple #[tokV 2 (s.extract a e) a, .int .i64 0]) (by simp [results, Tryd.results19, go_sem, c0, c1, c2, tokV]) rfl ?_
            refine ⟨by rw [HO3.out, HSX.out]; rfl, ?_⟩
            first
              | exact lx_new _ _
              | exact tok_below HN.out (Nat.le_refl _) _ _ _
    · have hei : ¬ (e : Int) < (s.size : Int) := by omega
      have HEND : Hid (e = s.size ∨ ∃ c, s.data.toList[e]? = some c ∧ lexD c = false) := .inl (by omega)
      have hne : a < e := by omega
      have HHD : Hid (headL (s.data.toList.drop e) = false) := by show _ = _; rw [List.drop_eq_nil_of_le (by rw [lx_size]; omega)]; rfl
      have hov := over_end HOV.out hae hes HEND.out
      have hsx := piece_bs s a (e - a)
      rw [show a + (e - a) = e by omega] at hsx
      have hrn : ∀ w, Calls Tryd.prog 29 #[.string (s.extract a e)] w fun x w' => x = .returned (.bool (lexOk ((s.data.toList.drop a).take (e - a)))) ∧ w' = w := fun w => by
        have h1 := rnumber_any (s.extract a e) (by rw [hsx, bs_size, List.length_take, List.length_drop, lx_size]; omega) (by rw [hsx, bs_list, ← hov.1]; exact all_takeWhile _ _) (by rw [hsx, bs_size, List.length_take]; omega) w
        rw [hsx, bs_list] at h1
        rw [hsx]
        exact h1
      have hO2 : O = if (!lexOk ((s.data.toList.drop a).take (e - a)) || headL (s.data.toList.drop e)) = true then .error 81 else .ok (2, e - a) := by
        have h1 := HO.out
        rw [hov.2.2, hov.2.1, hov.1] at h1
        exact h1
      generalize lexOk ((s.data.toList.drop a).take (e - a)) = q at hrn hO2
      have HO2 := Lib.hid hO2
      have HSX := Lib.hid hsx
      have HRN := Lib.hid hrn
      obtain ⟨c0, c1, c2, z0, z1, z2⟩ := tokAt_of HT.out
      clear hov hsx hrn hO2
      cases q with
      | false =>
        have HO3 : Hid (O = .error 81) := by have h1 := HO2.out; rw [Bool.not_false, Bool.true_or, if_pos rfl] at h1; exact h1
        go_wp2_with fail
        refine (HRN.out _).mono ?_
        rintro e2 w2 ⟨rfl, rfl⟩
        go_wp2_with fail
        refine bodyPost_ret (v := .tuple #[tokV 0 ⟨#[]⟩ 0, .int .i64 81]) (by simp [results, Tryd.results19, go_sem, c0, c1, c2, tokV]) rfl ?_
        refine ⟨by rw [HO3.out]; rfl, ?_⟩
        first
          | exact HN.out
          | exact tok_below HN.out (Nat.le_refl _) _ _ _
      | true =>
        have HO3 : Hid (O = .ok (2, e - a)) := by have h1 := HO2.out; rw [HHD.out, Bool.not_true, Bool.false_or, if_neg (by decide)] at h1; exact h1
        go_wp2_with fail
        refine (HRN.out _).mono ?_
        rintro e2 w2 ⟨rfl, rfl⟩
        go_wp2_with fail
        refine bodyPost_ret (v := .tuple #[tokV 2 (s.extract a e) a, .int .i64 0]) (by simp [results, Tryd.results19, go_sem, c0, c1, c2, tokV]) rfl ?_
        refine ⟨by rw [HO3.out, HSX.out]; rfl, ?_⟩
        first
          | exact lx_new _ _
          | exact tok_below HN.out (Nat.le_refl _) _ _ _
set_option maxRecDepth 100000 in
set_option maxHeartbeats 4000000 in
theorem one_sign (s : ByteArray) (a : Nat) (ha : a < s.size) (hs : s.size ≤ 4096) (hl : lexL (s[a]'ha) = false) (hd : lexD (s[a]'ha) = false) (w : World) :
    Calls Tryd.prog 19 #[.string s, .int .i64 (a : Int)] w fun e w' => e = .returned (oneR (s.data.toList.drop a) a (oneT (s.data.toList.drop a))) ∧ Below w.heap.size w w' := by
  have HN := Lib.hid (lx_new w (tokO 0 ⟨#[]⟩ 0))
  have HT := Lib.hid (lx_made w (tokO 0 ⟨#[]⟩ 0))
  have hai : (0 : Int) ≤ (a : Int) := by omega
  have haj : (a : Int) < (s.size : Int) := by omega
  have h1 := oneT_cons (s[a]'ha) (s.data.toList.drop (a + 1))
  rw [← drop_cons (lx_at ha), hl, hd, if_neg (by decide), if_neg (by decide)] at h1
  generalize hO : oneT (s.data.toList.drop a) = O at h1 ⊢
  have HO := Lib.hid h1
  have hlt := rletter_any (s[a]'ha)
  have hld := rdigit_any (s[a]'ha)
  have hlo := rlong_any s a ha (by omega)
  have hsh := rshort_any (s[a]'ha)
  rw [hl] at hlt
  rw [hd] at hld
  have HLT := Lib.hid hlt
  have HLD := Lib.hid hld
  have hlen : lexLong (s.data.toList.drop a) = true → a + 2 ≤ s.size := by
    intro h
    have h2 : 2 ≤ (s.data.toList.drop a).length := by
      match hm : s.data.toList.drop a, h with
      | [], h => cases h
      | [x], h => cases h
      | x :: y :: z, _ => simp
    rw [List.length_drop, lx_size] at h2
    omega
  clear h1 hO hlt hld hl hd
  obtain ⟨c0, c1, c2, z0, z1, z2⟩ := tokAt_of HT.out
  cases hq : lexLong (s.data.toList.drop a) with
  | true =>
    rw [hq] at hlo
    have h2 := hlen hq
    have HO3 : Hid (O = .ok (3, 2)) := by have h1 := HO.out; rw [hq, if_pos rfl] at h1; exact h1
    have HSX := Lib.hid (piece_bs s a 2)
    have q1 : (a : Int) + 2 ≤ (s.size : Int) := by omega
    have q2 : (a : Int) ≤ (a : Int) + 2 := by omega
    have q3 : (0 : Int) ≤ (a : Int) + 2 := by omega
    have hx2 : ((a : Int) + 2).toNat = a + 2 := by omega
    have HLO := Lib.hid hlo
    clear hq hlo hsh hlen h2
    go_enter Tryd.func19, Tryd.ntmps19
    go_wp2_with fail
    refine (HLT.out _).mono ?_
    rintro e w1 ⟨rfl, rfl⟩
    go_wp2_with fail
    refine (HLD.out _).mono ?_
    rintro e w1 ⟨rfl, rfl⟩
    go_wp2_with fail
    refine (HLO.out _).mono ?_
    rintro e w1 ⟨rfl, rfl⟩
    go_wp2_with fail
    refine bodyPost_ret (v := .tuple #[tokV 3 (s.extract a (a + 2)) a, .int .i64 0]) (by simp [results, Tryd.results19, go_sem, c0, c1, c2, tokV]) rfl ?_
    refine ⟨by rw [HO3.out, HSX.out]; rfl, ?_⟩
    first
      | exact lx_new _ _
      | exact tok_below HN.out (Nat.le_refl _) _ _ _
  | false =>
    rw [hq] at hlo
    have HLO := Lib.hid hlo
    cases hp : sign1 (s[a]'ha) with
    | true =>
      rw [hp] at hsh
      have HSH := Lib.hid hsh
      have HO3 : Hid (O = .ok (3, 1)) := by have h1 := HO.out; rw [hq, hp, if_neg (by decide), if_pos rfl] at h1; exact h1
      have HSX := Lib.hid (piece_bs s a 1)
      have q1 : (a : Int) + 1 ≤ (s.size : Int) := by omega
      have q2 : (a : Int) ≤ (a : Int) + 1 := by omega
      have q3 : (0 : Int) ≤ (a : Int) + 1 := by omega
      have hx2 : ((a : Int) + 1).toNat = a + 1 := by omega
      clear hq hp hlo hsh hlen
      go_enter Tryd.func19, Tryd.ntmps19
      go_wp2_with fail
      refine (HLT.out _).mono ?_
      rintro e w1 ⟨rfl, rfl⟩
      go_wp2_with fail
      refine (HLD.out _).mono ?_
      rintro e w1 ⟨rfl, rfl⟩
      go_wp2_with fail
      refine (HLO.out _).mono ?_
      rintro e w1 ⟨rfl, rfl⟩
      go_wp2_with fail
      refine (HSH.out _).mono ?_
      rintro e w1 ⟨rfl, rfl⟩
      go_wp2_with fail
      refine bodyPost_ret (v := .tuple #[tokV 3 (s.extract a (a + 1)) a, .int .i64 0]) (by simp [results, Tryd.results19, go_sem, c0, c1, c2, tokV]) rfl ?_
      refine ⟨by rw [HO3.out, HSX.out]; rfl, ?_⟩
      first
        | exact lx_new _ _
        | exact tok_below HN.out (Nat.le_refl _) _ _ _
    | false =>
      rw [hp] at hsh
      have HSH := Lib.hid hsh
      have HO3 : Hid (O = .error 80) := by have h1 := HO.out; rw [hq, hp, if_neg (by decide), if_neg (by decide)] at h1; exact h1
      clear hq hp hlo hsh hlen
      go_enter Tryd.func19, Tryd.ntmps19
      go_wp2_with fail
      refine (HLT.out _).mono ?_
      rintro e w1 ⟨rfl, rfl⟩
      go_wp2_with fail
      refine (HLD.out _).mono ?_
      rintro e w1 ⟨rfl, rfl⟩
      go_wp2_with fail
      refine (HLO.out _).mono ?_
      rintro e w1 ⟨rfl, rfl⟩
      go_wp2_with fail
      refine (HSH.out _).mono ?_
      rintro e w1 ⟨rfl, rfl⟩
      go_wp2_with fail
      refine bodyPost_ret (v := .tuple #[tokV 0 ⟨#[]⟩ 0, .int .i64 80]) (by simp [results, Tryd.results19, go_sem, c0, c1, c2, tokV]) rfl ?_
      refine ⟨by rw [HO3.out]; rfl, ?_⟩
      first
        | exact HN.out
        | exact tok_below HN.out (Nat.le_refl _) _ _ _
/-- The document's one. -/
theorem one_any (s : ByteArray) (a : Nat) (ha : a < s.size) (hs : s.size ≤ 4096) (w : World) :
    Calls Tryd.prog 19 #[.string s, .int .i64 (a : Int)] w fun e w' => e = .returned (oneR (s.data.toList.drop a) a (oneT (s.data.toList.drop a))) ∧ Below w.heap.size w w' := by
  cases hl : lexL (s[a]'ha) with
  | true => exact one_word s a ha hs hl w
  | false =>
    cases hd : lexD (s[a]'ha) with
    | true => exact one_number s a ha hs hl hd w
    | false => exact one_sign s a ha hs hl hd w
end Go.Proofs.YtedhnnechjnnfaaDoor
