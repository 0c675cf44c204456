/- LexApart. -/
import Derived.Test.YtedhnnechjnnfaaDoorLAlive
namespace Go.Proofs.YtedhnnechjnnfaaDoor
open Go.RowKit Go.Shelf
set_option linter.unusedVariables false
set_option linter.unusedSimpArgs false
set_option maxRecDepth 100000 in
set_option maxHeartbeats 2000000 in
theorem blanks_any (s : ByteArray) (hs : s.size ≤ 1000000) (w : World) :
    Calls Tryd.prog 15 #[.string s] w fun e w' => e = .returned (.bool (s.data.toList.all lexB)) ∧ w' = w := by
  generalize hB : s.data.toList.all lexB = b
  have HB := Lib.hid hB
  clear hB
  go_enter Tryd.func15, Tryd.ntmps15
  go_wp2
  go_loopw [3] (fun v wr => ∃ e : Nat, e ≤ s.size ∧ v = .int .i64 (e : Int) ∧ wr = w ∧ Over lexB s 0 e) (fun v _ => s.size - (intOf v).toNat)
  case atStart => exact ⟨0, Nat.zero_le _, rfl, rfl, fun j c h1 h2 => absurd h2 (by omega)⟩
  case round =>
    obtain ⟨e, hes, rfl, rfl, hov⟩ := hrel
    have HOV := Lib.hid hov
    clear hov
    by_cases hlt : e < s.size
    · have hei : (e : Int) < (s.size : Int) := by omega
      have he0 : (0 : Int) ≤ (e : Int) := by omega
      cases hl : lexB (s[e]'hlt) with
      | true =>
        have HL := Lib.hid hl
        have h4 : ((s[e]'hlt).toNat : Int) = 32 ∨ ((s[e]'hlt).toNat : Int) = 9 ∨ ((s[e]'hlt).toNat : Int) = 10 ∨ ((s[e]'hlt).toNat : Int) = 13 := by
          unfold lexB at hl
          have := of_decide_eq_true hl
          omega
        clear hl
        rcases h4 with h4 | h4 | h4 | h4
        all_goals
          go_wp2
          all_goals
            go_roundw
            case rel => exact ⟨e + 1, hlt, by go_num, (by first | trivial | rfl), HOV.out.step hlt HL.out⟩
            case measure => simp [intOf]; omega
      | false =>
        have h4 : ¬ ((s[e]'hlt).toNat : Int) = 32 ∧ ¬ ((s[e]'hlt).toNat : Int) = 9 ∧ ¬ ((s[e]'hlt).toNat : Int) = 10 ∧ ¬ ((s[e]'hlt).toNat : Int) = 13 := by
          unfold lexB at hl
          have := of_decide_eq_false hl
          omega
        have HF : Hid (b = false) := by
          show b = false
          rw [← HB.out]
          exact List.all_eq_false.2 ⟨_, Array.mem_toList_iff.2 (Array.getElem_mem (xs := s.data) hlt), by
            intro h2
            have h3 : lexB (s[e]'hlt) = true := h2
            rw [hl] at h3
            cases h3⟩
        have m1 : (((s[e]'hlt).toNat : Int) != 32) = true := by rw [bne_iff_ne]; exact h4.1
        have m2 : (((s[e]'hlt).toNat : Int) != 9) = true := by rw [bne_iff_ne]; exact h4.2.1
        have m3 : (((s[e]'hlt).toNat : Int) != 10) = true := by rw [bne_iff_ne]; exact h4.2.2.1
        have m4 : (((s[e]'hlt).toNat : Int) != 13) = true := by rw [bne_iff_ne]; exact h4.2.2.2
        clear hl h4
        go_wp2
        go_ret
        exact ⟨by rw [HF.out]; rfl, rfl⟩
    · have hei : ¬ (e : Int) < (s.size : Int) := by omega
      have HF : Hid (b = true) := by
        show b = true
        rw [← HB.out]
        refine List.all_eq_true.2 fun c hc => ?_
        obtain ⟨j, hj, hjc⟩ := List.getElem_of_mem hc
        exact HOV.out j c (Nat.zero_le _) (by rw [lx_size] at hj; omega) (by rw [List.getElem?_eq_getElem hj, hjc])
      clear hlt
      go_wp2
      go_ret
      exact ⟨by rw [HF.out]; rfl, rfl⟩
/-- What stands ahead of a round. -/
structure ApRound (s : ByteArray) (w2 : World) (L : List LexTok) (va vi : Value) (wr : World) where
  k : Nat
  p : Nat
  ea : va = .int .i64 (p : Int)
  ei : vi = .int .i64 (k : Int)
  hk : k ≤ L.length
  hp : p ≤ s.size
  bw : Below w2.heap.size w2 wr
  ap : LexApartP s.data.toList p (L.drop k)
theorem toksR_small {s : ByteArray} {L : List LexTok} (h : toksR s = .ok L) : s.size ≤ 4096 ∧ toks s.data.toList 0 = .ok L := by
  unfold toksR at h
  split at h
  · cases h
  · exact ⟨by omega, h⟩
theorem toksR_alone {s : ByteArray} {L : List LexTok} (h : toksR s = .ok L) {t : LexTok} (ht : t ∈ L) (hl : t.text.length ≤ s.size) : toksR (bs t.text) = .ok [⟨t.k, t.text, 0⟩] := by
  obtain ⟨h1, h2⟩ := toksR_small h
  unfold toksR
  rw [if_neg (by rw [bs_size]; omega), bs_list]
  exact (toks_good h2 t ht).alone
theorem blanks_of {l : List UInt8} (h : ∀ c, c ∈ l → lexB c = true) : l.all lexB = true := List.all_eq_true.2 h
set_option maxRecDepth 100000 in
set_option maxHeartbeats 8000000 in
theorem apart_main (s : ByteArray) (hs : s.size ≤ 100000) (w : World) (hV : LexVars w) :
    Calls Tryd.prog 5 #[.string s] w fun e w' => e = .returned (.bool true) ∧ Below w.heap.size w w' := by
  have hsi : ¬ (100000 : Int) < (s.size : Int) := by omega
  have HV := Lib.hid hV
  have HS := Lib.hid hs
  clear hV hs
  go_enter Tryd.func5, Tryd.ntmps5
  go_wp2_with fail
  refine (alive_any _ HV.out).mono ?_
  rintro e w1 ⟨rfl, b1⟩
  have HB1 := Lib.hid b1
  have HV1 := Lib.hid (HV.out.later b1)
  clear b1
  go_wp2_with fail
  refine (tokens_any s (by have := HS.out; omega) _ HV1.out).mono ?_
  rintro e w2 ⟨h2, b2⟩
  have HB2 := Lib.hid (lx_then HB1.out b2)
  have HV2 := Lib.hid (HV1.out.later b2)
  clear b2
  rcases h2 with ⟨A, n, c, L, hR, hn, rfl, hO⟩ | ⟨a, x, hR, rfl⟩
  · have HO := Lib.hid hO
    have HR := Lib.hid hR
    clear hO hR
    go_wp2_with fail
    go_loopw [7, 8] (fun va vi wr => Nonempty (ApRound s w2 L va vi wr)) (fun _ vi _ => n - (intOf vi).toNat)
    case atStart => exact ⟨⟨0, 0, rfl, rfl, Nat.zero_le _, Nat.zero_le _, Below.refl _ _, by rw [List.drop_zero]; exact toks_apart (toksR_small HR.out).2⟩⟩
    case round =>
      obtain ⟨⟨k, p, rfl, rfl, hk, hp, hB, hap⟩⟩ := hrel
      have hln := HO.out.len
      have HBW := Lib.hid hB
      have HAP := Lib.hid hap
      by_cases hlt : k < n
      · obtain ⟨t, ht⟩ : ∃ t, L[k]? = some t := ⟨_, List.getElem?_eq_getElem (by omega)⟩
        obtain ⟨b, rfl, _, hb2, p0, p1, p2⟩ := ownT_tok (HO.out.below hB) ht
        have hdr : L.drop k = t :: L.drop (k + 1) := by
          obtain ⟨h1, h2⟩ := List.getElem?_eq_some_iff.1 ht
          rw [List.drop_eq_getElem_cons h1, h2]
        rw [hdr] at hap
        obtain ⟨a1, a2, a3, a4, a5⟩ := hap
        rw [lx_size] at a2
        have hmem := List.mem_of_getElem? ht
        have hgd := (toks_good (toksR_small HR.out).2 t hmem).pos
        have hal := toksR_alone HR.out hmem (by omega)
        obtain ⟨tk, htk⟩ : ∃ x, t.k = x := ⟨_, rfl⟩
        obtain ⟨tt, htt⟩ : ∃ x, bs t.text = x := ⟨_, rfl⟩
        obtain ⟨ta, hta⟩ : ∃ x, t.at' = x := ⟨_, rfl⟩
        have hsz : tt.size = t.text.length := by rw [← htt, bs_size]
        have hex : s.extract ta (ta + tt.size) = tt := by
          rw [bs_extract, ← hta, hsz, show t.at' + t.text.length - t.at' = t.text.length by omega, a3, htt]
        have hbl := blanks_any (s.extract p ta) (by rw [← lx_size, bs_extract, bs_list, List.length_take, List.length_drop, lx_size]; have := HS.out; omega)
        have hbt : (s.extract p ta).data.toList.all lexB = true := by
          rw [bs_extract, bs_list, ← hta]
          exact blanks_of a4
        rw [hbt] at hbl
        rw [← hsz, hta] at a2 a5
        rw [hta] at a1 p2
        rw [htk] at p0
        rw [htt] at p1 hal
        rw [← hsz] at hgd
        have HAL := Lib.hid hal
        have HA5 := Lib.hid a5
        have HEX := Lib.hid hex
        have HBL := Lib.hid hbl
        have HTK := Lib.hid htk
        have HTT := Lib.hid htt
        have HKN := Lib.hid hlt
        have q1 : ¬ (ta : Int) < (p : Int) := by omega
        have q2 : ¬ (s.size : Int) < (ta : Int) + (tt.size : Int) := by omega
        have q3 : ¬ (tt.size : Int) = 0 := by omega
        have q3b : ((tt.size : Int) == 0) = false := beq_eq_false_iff_ne.2 q3
        have e1 : decide ((ta : Int) < (p : Int)) = false := decide_eq_false q1
        have e2 : decide ((s.size : Int) < (ta : Int) + (tt.size : Int)) = false := decide_eq_false q2
        have q4 : (ta : Int) ≤ (ta : Int) + (tt.size : Int) := by omega
        have q5 : (ta : Int) + (tt.size : Int) ≤ (s.size : Int) := by omega
        have q6 : (0 : Int) ≤ (ta : Int) := by omega
        have q10 : (0 : Int) ≤ (ta : Int) + (tt.size : Int) := by omega
        have q7 : (p : Int) ≤ (ta : Int) := by omega
        have q8 : (0 : Int) ≤ (p : Int) := by omega
        have q9 : (ta : Int) ≤ (s.size : Int) := by omega
        have hki : (k : Int) < (n : Int) := by omega
        have hk0 : (0 : Int) ≤ (k : Int) := by omega
        have hss : (s.size : Int) ≤ 100000 := by have := HS.out; omega
        have HNT := Lib.hid (lx_made wr (tokO tk tt ta))
        have HNB := Lib.hid (lx_then hB (lx_new wr (tokO tk tt ta)))
        have e3 : decide (ta < p) = false := decide_eq_false (by omega)
        have e4 : p ≤ ta := by omega
        have e5 : ta ≤ s.size := by omega
        have e6 : IntKind.i64.wrap ((ta : Int) + (tt.size : Int)) = (ta : Int) + (tt.size : Int) := by
          have := HS.out
          rw [IntKind.wrap_i64]; omega
        have hx2 : ((ta : Int) + (tt.size : Int)).toNat = ta + tt.size := by omega
        have hex1 : s.extract ta ((ta : Int) + (tt.size : Int)).toNat = tt := by rw [hx2, hex]
        have hex2 : s.extract ta (ta + tt.size) = tt := hex
        clear hx2
        have d1 : (wr.alloc (tokO tk tt ta)).drew.cell? ⟨wr.heap.size, 1, none⟩ = some (.string tt) := (tokAt_of HNT.out).c1
        have d2 : (wr.alloc (tokO tk tt ta)).drew.cell? ⟨wr.heap.size, 2, none⟩ = some (.int .i64 (ta : Int)) := (tokAt_of HNT.out).c2
        clear hB ht hb2 hdr a1 a2 a3 a4 a5 hmem hgd hal htt hta hsz hex hbl hbt htk q3 hln hk
        go_wp2_with fail
        first
          | (go_region_held3 (fun w' => w'.cell? ⟨wr.heap.size, 1, none⟩ = some (.string tt) ∧ w'.cell? ⟨wr.heap.size, 2, none⟩ = some (.int .i64 (ta : Int))) (with_reducible exact ⟨d1, d2⟩)
              (first
                | (go_at_call 15; (with_reducible refine Calls.mono (HBL.out _) ?_); rintro e w3 ⟨rfl, rfl⟩)))
          | fail
        have hbn : Below w2.heap.size w2 (wr.alloc (tokO tk tt ta)).drew := HNB.out.drew
        have hvn : LexVars (wr.alloc (tokO tk tt ta)).drew := HV2.out.later hbn
        go_wp2_with fail
        refine (tokens_any tt (by have := HS.out; omega) _ hvn).mono ?_
        rintro e w4 ⟨h4, b4⟩
        have HB4 := Lib.hid (lx_then hbn b4)
        have hnt4 := lx_block (w := (wr.alloc (tokO tk tt ta)).drew) HNT.out b4
        obtain ⟨g0, g1, g2, _, _, _⟩ := tokAt_of hnt4
        have G2 := Lib.hid g2
        clear hbn hvn b4 hnt4 d1 d2 g2
        rcases h4 with ⟨A4, n4, c4, L4, hR4, hn4, rfl, hO4⟩ | ⟨a4, x4, hR4, rfl⟩
        · rw [HAL.out] at hR4
          cases hR4
          have hl4 := hO4.len
          obtain rfl : n4 = 1 := hl4.symm
          obtain ⟨b4, rfl, _, _, r0, r1, r2⟩ := ownT_tok hO4 (k := 0) rfl
          rw [Nat.zero_mul, HTK.out] at r0
          rw [Nat.zero_mul, Nat.zero_add] at r1
          dsimp only at r1
          rw [HTT.out] at r1
          have g2 := G2.out
          have m1 : (tk != tk) = false := by simp
          have m2 : (tt.toList != tt.toList) = false := by simp
          clear hl4 hO4 r2
          go_wp2_with (first | go_region | fail)
          go_roundw
          case rel =>
            exact ⟨⟨k + 1, ta + tt.size, by rw [Int.natCast_add], by go_num, by have := HO.out.len; have := HKN.out; omega, by omega, HB4.out.drew, HA5.out⟩⟩
          case measure =>
            have h1 := HKN.out
            simp [intOf]
            omega
        · rw [HAL.out] at hR4; cases hR4
      · have hki : ¬ (k : Int) < (n : Int) := by omega
        have hdr : L.drop k = [] := List.drop_eq_nil_of_le (by omega)
        rw [hdr] at hap
        obtain ⟨h1, h2⟩ := hap
        have hbt : (s.extract p s.size).data.toList.all lexB = true := by
          refine blanks_of fun c hc => h2 c ?_
          rw [bs_extract, bs_list] at hc
          exact List.mem_of_mem_take hc
        have hbl := blanks_any (s.extract p s.size) (by rw [← lx_size, bs_extract, bs_list, List.length_take, List.length_drop, lx_size]; have := HS.out; omega)
        rw [hbt] at hbl
        have HBL := Lib.hid hbl
        have q1 : (p : Int) ≤ (s.size : Int) := by omega
        have q2 : (0 : Int) ≤ (p : Int) := by omega
        have HBE := Lib.hid (lx_then HB2.out hB)
        clear hbt hbl h1 h2 hdr hB hk
        go_wp2_with fail
        refine (HBL.out _).mono ?_
        rintro e w3 ⟨rfl, rfl⟩
        go_wp2_with fail
        go_ret
        exact ⟨rfl, HBE.out⟩
  · have hx0 : ¬ x = 0 := by
      unfold toksR at hR
      split at hR
      · cases hR; decide
      · have h := toks_err (r := s.data.toList) (q := 0) (a := a) (x := x) s.data.toList.length (by omega) (by rw [List.drop_zero]; exact hR)
        omega
    have hxb : (x != 0) = true := by rw [bne_iff_ne]; exact hx0
    clear hR
    go_wp2_with fail
    go_ret
    exact ⟨rfl, HB2.out⟩
set_option maxRecDepth 100000 in
set_option maxHeartbeats 2000000 in
theorem apart_long (s : ByteArray) (hs : s.size ≤ 9223372036854775807) (h : 100000 < s.size) (w : World) (hV : LexVars w) :
    Calls Tryd.prog 5 #[.string s] w fun e w' => e = .returned (.bool true) ∧ Below w.heap.size w w' := by
  have hi : (100000 : Int) < (s.size : Int) := by omega
  have HV := Lib.hid hV
  clear h hs hV
  go_enter Tryd.func5, Tryd.ntmps5
  go_wp2_with fail
  refine (alive_any _ HV.out).mono ?_
  rintro e w1 ⟨rfl, b1⟩
  have HB1 := Lib.hid b1
  clear b1
  go_wp2_with fail
  go_ret
  exact ⟨rfl, HB1.out⟩
theorem apart_any (s : ByteArray) (hs : s.size ≤ 9223372036854775807) (w : World) (hV : LexVars w) :
    Calls Tryd.prog 5 #[.string s] w fun e w' => e = .returned (.bool true) ∧ Below w.heap.size w w' := by
  by_cases h : 100000 < s.size
  · exact apart_long s hs h w hV
  · exact apart_main s (by omega) w hV
end Go.Proofs.YtedhnnechjnnfaaDoor
