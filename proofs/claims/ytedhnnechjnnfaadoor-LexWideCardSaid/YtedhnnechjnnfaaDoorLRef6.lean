/- The document's Name, Same. -/
import Derived.Test.YtedhnnechjnnfaaDoorLRef5
import Derived.Laws.StructEq
namespace Go.Proofs.YtedhnnechjnnfaaDoor
open Go.RowKit Go.Shelf
set_option linter.unusedVariables false
set_option linter.unusedSimpArgs false
set_option maxRecDepth 100000 in
set_option maxHeartbeats 2000000 in
/-- Two tokens, compared. -/
theorem eq_tok (k k2 : Int) (s s2 : ByteArray) (a a2 : Int) (w : World) : Sem.run Tryd.prog (Op.equalIn 10000 33 (.agg #[.int .u8 k, .string s, .int .i64 a]) (.agg #[.int .u8 k2, .string s2, .int .i64 a2])) w = .ok (k == k2 && (s.toList == s2.toList && a == a2)) w := by
  have hS : Tryd.prog.underlying 33 = some (.struct (Tryd.prog.fieldsOf 33)) := by kernel_rfl
  have hp : Tryd.prog.stoodInHeld 33 = false := by kernel_rfl
  have u5 := Tryd.underlying5
  have u9 := Tryd.underlying9
  have u3 := Tryd.underlying3
  have a5 := Tryd.isAgg5
  have a9 := Tryd.isAgg9
  have a3 := Tryd.isAgg3
  rw [show (10000 : Nat) = 9999 + 1 from rfl, run_equalIn_struct w 9999 33 _ _ hS hp]
  simp only [Program.fieldsOf, Tryd.underlying33]
  go_simp
  by_cases h1 : k = k2 <;> by_cases h2 : s.toList = s2.toList <;> by_cases h3 : a = a2 <;> simp [h1, h2, h3]
/-- A row's token, cell by cell. -/
theorem ownT_tok {w : World} {B : Nat} {A : Option Addr} {n c : Nat} {L : List LexTok} (h : OwnT w B A n c L) {k : Nat} {t : LexTok} (ht : L[k]? = some t) : ∃ b, A = some ⟨b, 0, none⟩ ∧ B ≤ b ∧ b < w.heap.size ∧ w.cell? ⟨b, k * 3, none⟩ = some (.int .u8 t.k) ∧ w.cell? ⟨b, k * 3 + 1, none⟩ = some (.string (bs t.text)) ∧ w.cell? ⟨b, k * 3 + 2, none⟩ = some (.int .i64 (t.at' : Int)) := by
  obtain ⟨b, e, h1, h2, h3⟩ := h.cell tokCs_len ht
  exact ⟨b, e, h1, h2, h3 0 _ rfl, h3 1 _ rfl, h3 2 _ rfl⟩
theorem eq_same (k : Int) (s : ByteArray) (a : Int) (w : World) : Sem.run Tryd.prog (Op.equalIn 10000 33 (.agg #[.int .u8 k, .string s, .int .i64 a]) (.agg #[.int .u8 k, .string s, .int .i64 a])) w = .ok true w := by
  rw [eq_tok]
  simp
set_option maxRecDepth 100000 in
set_option maxHeartbeats 2000000 in
/-- The document's Same, of two rows of the same tokens. -/
theorem same_any (A A2 : Option Addr) (n c c2 B B2 : Nat) (L : List LexTok) (w : World) (hO : OwnT w B A n c L) (hO2 : OwnT w B2 A2 n c2 L) (hn : n ≤ 100000) :
    Calls Tryd.prog 12 #[.slice A n c, .slice A2 n c2] w fun e w' => e = .returned (.bool true) ∧ Below w.heap.size w w' := by
  have HO := Lib.hid hO
  have HO2 := Lib.hid hO2
  clear hO hO2
  go_enter Tryd.func12, Tryd.ntmps12
  go_wp2
  go_loopw [5] (fun i wr => ∃ k : Nat, k ≤ n ∧ i = .int .i64 (k : Int) ∧ Below w.heap.size w wr) (fun i _ => n - (intOf i).toNat)
  case atStart => exact ⟨0, Nat.zero_le _, rfl, Below.refl _ _⟩
  case round =>
    obtain ⟨k, hk, rfl, hB⟩ := hrel
    by_cases hlt : k < n
    · obtain ⟨t, ht⟩ : ∃ t, L[k]? = some t := ⟨_, List.getElem?_eq_getElem (by rw [HO.out.len]; exact hlt)⟩
      obtain ⟨b, rfl, hb1, hb2, p0, p1, p2⟩ := ownT_tok (HO.out.below hB) ht
      obtain ⟨b2, rfl, hb3, hb4, q0, q1, q2⟩ := ownT_tok (HO2.out.below hB) ht
      have hE := eq_same t.k (bs t.text) (t.at' : Int)
      have hki : (k : Int) < (n : Int) := by omega
      have hk0 : (0 : Int) ≤ (k : Int) := by omega
      have HBW := Lib.hid hB
      obtain ⟨tk, htk⟩ : ∃ x, t.k = x := ⟨_, rfl⟩
      obtain ⟨tt, htt⟩ : ∃ x, bs t.text = x := ⟨_, rfl⟩
      obtain ⟨ta, hta⟩ : ∃ x, t.at' = x := ⟨_, rfl⟩
      rw [htk, htt, hta] at hE
      rw [htk] at p0 q0
      rw [htt] at p1 q1
      rw [hta] at p2 q2
      clear hB ht hb1 hb2 hb3 hb4 htk htt hta
      go_wp2
      go_region
      go_wp2
      go_roundw
      case rel => exact ⟨k + 1, hlt, by go_num, HBW.out.drew⟩
      case measure => simp [intOf]; omega
    · have hki : ¬ (k : Int) < (n : Int) := by omega
      clear hlt
      go_wp2
      go_ret
      exact ⟨rfl, hB⟩
set_option maxRecDepth 100000 in
set_option maxHeartbeats 4000000 in
/-- The document's Name. -/
theorem rname_any (s : ByteArray) (hs : s.size ≤ 1000000) (w : World) :
    Calls Tryd.prog 14 #[.string s] w fun e w' => e = .returned (.bool (isName s.data.toList)) ∧ Below w.heap.size w w' := by
  rw [name_is]
  by_cases h0 : s.size = 0
  · have hl : s.data.toList = [] := List.eq_nil_of_length_eq_zero (by rw [lx_size]; exact h0)
    rw [hl]
    have hi : (s.size : Int) < 1 := by omega
    clear hl h0
    go_enter Tryd.func14, Tryd.ntmps14
    go_wp2_with fail
    go_ret
    exact ⟨rfl, Below.refl _ _⟩
  · have hp : 0 < s.size := by omega
    obtain ⟨r, hr⟩ : ∃ r, s.data.toList.drop 1 = r := ⟨_, rfl⟩
    have hl : s.data.toList = s[0]'hp :: r := by rw [← hr]; exact (List.drop_zero (l := s.data.toList)) ▸ drop_cons (lx_at hp)
    have hlen : (s[0]'hp :: r).length = s.size := by rw [← hl, lx_size]
    have hi : ¬ (s.size : Int) < 1 := by omega
    have hpi : (0 : Int) < (s.size : Int) := by omega
    have hlt := rletter_any (s[0]'hp)
    rw [hl]
    dsimp only
    rw [hlen]
    by_cases h16 : s.size ≤ 16
    · have hj : ¬ (16 : Int) < (s.size : Int) := by omega
      rw [decide_eq_true h16, Bool.true_and]
      cases hq : lexL (s[0]'hp) with
      | false =>
        rw [hq] at hlt
        rw [Bool.false_and, Bool.false_and]
        have HLT := Lib.hid hlt
        clear hlt hq hl hlen hr h16 h0
        go_enter Tryd.func14, Tryd.ntmps14
        go_wp2_with fail
        refine (HLT.out _).mono ?_
        rintro e w1 ⟨rfl, rfl⟩
        go_wp2_with fail
        go_ret
        exact ⟨rfl, Below.refl _ _⟩
      | true =>
        rw [hq] at hlt
        rw [Bool.true_and, ← hl]
        have HLT := Lib.hid hlt
        have hkw := rkeyword_any s
        cases hk : isKw s.data.toList with
        | true =>
          rw [hk] at hkw
          rw [Bool.not_true, Bool.false_and]
          have HKW := Lib.hid hkw
          clear hlt hq hl hlen hr h16 h0 hkw hk
          go_enter Tryd.func14, Tryd.ntmps14
          go_wp2_with fail
          refine (HLT.out _).mono ?_
          rintro e w1 ⟨rfl, rfl⟩
          go_wp2_with fail
          refine (HKW.out _).mono ?_
          rintro e w2 ⟨rfl, hb2⟩
          have HB2 := Lib.hid hb2
          clear hb2
          go_wp2_with fail
          go_ret
          exact ⟨rfl, HB2.out⟩
        | false =>
          rw [hk] at hkw
          rw [Bool.not_false, Bool.true_and]
          have HKW := Lib.hid hkw
          generalize hB : s.data.toList.all lexW = b
          have HB := Lib.hid hB
          clear hlt hq hl hlen hr h16 h0 hkw hk hB
          go_enter Tryd.func14, Tryd.ntmps14
          go_wp2_with fail
          refine (HLT.out _).mono ?_
          rintro e w1 ⟨rfl, rfl⟩
          go_wp2_with fail
          refine (HKW.out _).mono ?_
          rintro e w2 ⟨rfl, hb2⟩
          have HB2 := Lib.hid hb2
          clear hb2
          go_wp2_with fail
          go_loopw [3] (fun v wr => ∃ e : Nat, e ≤ s.size ∧ v = .int .i64 (e : Int) ∧ wr = w2 ∧ Over lexW s 0 e) (fun v _ => s.size - (intOf v).toNat)
          case atStart => exact ⟨0, Nat.zero_le _, rfl, rfl, fun j c h1 h2 => absurd h2 (by omega)⟩
          case round =>
            obtain ⟨e, hes, rfl, rfl, hov⟩ := hrel
            have HOV := Lib.hid hov
            clear hov
            by_cases hlt : e < s.size
            · have hei : (e : Int) < (s.size : Int) := by omega
              have he0 : (0 : Int) ≤ (e : Int) := by omega
              have hcl := rletter_any (s[e]'hlt)
              have hcd := rdigit_any (s[e]'hlt)
              cases hl : lexL (s[e]'hlt) with
              | true =>
                rw [hl] at hcl
                have HL := Lib.hid hl
                have HCL := Lib.hid hcl
                clear hl hcl hcd
                go_wp2_with fail
                refine (HCL.out _).mono ?_
                rintro e2 w3 ⟨rfl, rfl⟩
                go_wp2_with fail
                go_roundw
                case rel => exact ⟨e + 1, hlt, by go_num, (by first | trivial | rfl), HOV.out.step hlt (by rw [lexW_parts, HL.out]; rfl)⟩
                case measure => simp [intOf]; omega
              | false =>
                rw [hl] at hcl
                have HCL := Lib.hid hcl
                cases hd : lexD (s[e]'hlt) with
                | true =>
                  rw [hd] at hcd
                  have HD := Lib.hid hd
                  have HCD := Lib.hid hcd
                  clear hl hcl hcd hd
                  go_wp2_with fail
                  refine (HCL.out _).mono ?_
                  rintro e2 w3 ⟨rfl, rfl⟩
                  go_wp2_with fail
                  refine (HCD.out _).mono ?_
                  rintro e2 w3 ⟨rfl, rfl⟩
                  go_wp2_with fail
                  go_roundw
                  case rel => exact ⟨e + 1, hlt, by go_num, (by first | trivial | rfl), HOV.out.step hlt (by rw [lexW_parts, HD.out, Bool.or_true])⟩
                  case measure => simp [intOf]; omega
                | false =>
                  rw [hd] at hcd
                  have HCD := Lib.hid hcd
                  have HF : Hid (b = false) := by
                    show b = false
                    rw [← HB.out]
                    exact List.all_eq_false.2 ⟨_, Array.mem_toList_iff.2 (Array.getElem_mem (xs := s.data) hlt), by
                      have h1 : lexW (s[e]'hlt) = false := by rw [lexW_parts, hl, hd]; rfl
                      intro h2
                      have h3 : lexW (s[e]'hlt) = true := h2
                      rw [h1] at h3
                      cases h3⟩
                  clear hl hcl hcd hd
                  go_wp2_with fail
                  refine (HCL.out _).mono ?_
                  rintro e2 w3 ⟨rfl, rfl⟩
                  go_wp2_with fail
                  refine (HCD.out _).mono ?_
                  rintro e2 w3 ⟨rfl, rfl⟩
                  go_wp2_with fail
                  go_ret
                  exact ⟨by rw [HF.out]; rfl, HB2.out⟩
            · have hei : ¬ (e : Int) < (s.size : Int) := by omega
              have HF : Hid (b = true) := by
                show b = true
                rw [← HB.out]
                refine List.all_eq_true.2 fun c hc => ?_
                obtain ⟨j, hj, hjc⟩ := List.getElem_of_mem hc
                exact HOV.out j c (Nat.zero_le _) (by rw [lx_size] at hj; omega) (by rw [List.getElem?_eq_getElem hj, hjc])
              clear hlt
              go_wp2_with fail
              go_ret
              exact ⟨by rw [HF.out]; rfl, HB2.out⟩
    · have hj : (16 : Int) < (s.size : Int) := by omega
      rw [decide_eq_false h16, Bool.false_and, Bool.false_and, Bool.false_and]
      clear hlt hl hlen hr h16 h0
      go_enter Tryd.func14, Tryd.ntmps14
      go_wp2_with fail
      go_ret
      exact ⟨rfl, Below.refl _ _⟩
end Go.Proofs.YtedhnnechjnnfaaDoor
