/- LexWide. -/
import Derived.Test.YtedhnnechjnnfaaDoorLApartL
import Derived.Laws.Concat
namespace Go.Proofs.YtedhnnechjnnfaaDoor
open Go.RowKit Go.Shelf
set_option linter.unusedVariables false
set_option linter.unusedSimpArgs false
theorem lexWide_snoc (l : List LexTok) (t : LexTok) : lexWide (l ++ [t]) = lexWide l ++ (t.text ++ [32, 9]) := by
  induction l with
  | nil => rfl
  | cons x l ih => rw [List.cons_append, lexWide, lexWide, ih]; simp
theorem apart_short {src : List UInt8} {t : LexTok} : ∀ {l : List LexTok} {p : Nat}, LexApartP src p l → t ∈ l → t.text.length ≤ src.length := by
  intro l
  induction l with
  | nil => intro p h ht; cases ht
  | cons x l ih =>
    intro p h ht
    obtain ⟨h1, h2, h3, h4, h5⟩ := h
    rcases List.mem_cons.1 ht with rfl | ht
    · omega
    · exact ih h5 ht
theorem toksR_short {s : ByteArray} {L : List LexTok} (h : toksR s = .ok L) {t : LexTok} (ht : t ∈ L) : t.text.length ≤ 4096 := by
  obtain ⟨h1, h2⟩ := toksR_small h
  have := apart_short (toks_apart h2) ht
  rw [lx_size] at this
  omega
theorem toksR_wide {s X : ByteArray} {L : List LexTok} (h : toksR s = .ok L) (hX : X.data.toList = 10 :: lexWide L) (hs : X.size ≤ 4096) : ∃ m, toksR X = .ok m ∧ m.map LexTok.kt = L.map LexTok.kt := by
  obtain ⟨m, h1, h2⟩ := toks_wide_all (toksR_small h).2
  exact ⟨m, by unfold toksR; rw [if_neg (by omega), hX]; exact h1, h2⟩
theorem kt_at {m L : List LexTok} (h : m.map LexTok.kt = L.map LexTok.kt) {k : Nat} {t : LexTok} (ht : L[k]? = some t) : ∃ u, m[k]? = some u ∧ u.k = t.k ∧ u.text = t.text := by
  have h1 : (m.map LexTok.kt)[k]? = (L.map LexTok.kt)[k]? := by rw [h]
  rw [List.getElem?_map, List.getElem?_map, ht] at h1
  cases hu : m[k]? with
  | none => rw [hu] at h1; cases h1
  | some u =>
    rw [hu] at h1
    have h2 : LexTok.kt u = LexTok.kt t := Option.some.inj h1
    exact ⟨u, rfl, congrArg Prod.fst h2, congrArg Prod.snd h2⟩
theorem wide_step {X T : ByteArray} {L : List LexTok} {k : Nat} {t : LexTok} (hX : X.data.toList = 10 :: lexWide (L.take k)) (ht : L[k]? = some t) (hT : bs t.text = T) : (X ++ T ++ ⟨#[32, 9]⟩).data.toList = 10 :: lexWide (L.take (k + 1)) := by
  obtain ⟨h1, h2⟩ := List.getElem?_eq_some_iff.1 ht
  rw [ByteArray.data_append, ByteArray.data_append, Array.toList_append, Array.toList_append, hX, ← hT, bs_list, List.take_succ_eq_append_getElem h1, h2, lexWide_snoc]
  simp
/-- What stands ahead of a round. -/
structure WdRound (s : ByteArray) (w2 : World) (L : List LexTok) (vw vi : Value) (wr : World) where
  k : Nat
  X : ByteArray
  ew : vw = .string X
  ei : vi = .int .i64 (k : Int)
  hk : k ≤ L.length
  hX : X.data.toList = 10 :: lexWide (L.take k)
  hs : X.size ≤ 1 + k * 4098
  bw : Below w2.heap.size w2 wr
set_option maxRecDepth 100000 in
set_option maxHeartbeats 8000000 in
theorem wide_main (s : ByteArray) (hs : s.size ≤ 100000) (w : World) (hV : LexVars w) :
    Calls Tryd.prog 6 #[.string s] w fun e w' => e = .returned (.bool true) ∧ Below w.heap.size w w' := by
  have hsi : ¬ (100000 : Int) < (s.size : Int) := by omega
  have HV := Lib.hid hV
  have HS := Lib.hid hs
  clear hV hs
  go_enter Tryd.func6, Tryd.ntmps6
  go_wp2_with fail
  refine (alive_any _ HV.out).mono ?_
  rintro e w1 ⟨rfl, b1⟩
  have HB1 := Lib.hid b1
  have HV1 := Lib.hid (HV.out.later b1)
  clear b1
  go_wp2_with fail
  refine (tokens_any s (by have := HS.out; omega) _ HV1.out).mono ?_
  rintro e w2 ⟨h2, b2⟩
  have HB2 := Lib.hid (lx_then HB1.out b2)
  have HV2 := Lib.hid (HV1.out.later b2)
  clear b2
  rcases h2 with ⟨A, n, c, L, hR, hn, rfl, hO⟩ | ⟨a, x, hR, rfl⟩
  · have HO := Lib.hid hO
    have HR := Lib.hid hR
    clear hO hR
    go_wp2_with fail
    go_loopw [7, 8] (fun vw vi wr => Nonempty (WdRound s w2 L vw vi wr)) (fun _ vi _ => n - (intOf vi).toNat)
    case atStart => exact ⟨⟨0, ⟨#[10]⟩, rfl, rfl, Nat.zero_le _, rfl, by decide, Below.refl _ _⟩⟩
    case round =>
      obtain ⟨⟨k, X, rfl, rfl, hk, hX, hXs, hB⟩⟩ := hrel
      have hln := HO.out.len
      have HBW := Lib.hid hB
      by_cases hlt : k < n
      · obtain ⟨t, ht⟩ : ∃ t, L[k]? = some t := ⟨_, List.getElem?_eq_getElem (by omega)⟩
        obtain ⟨b, rfl, _, hb2, p0, p1, p2⟩ := ownT_tok (HO.out.below hB) ht
        have hsh := toksR_short HR.out (List.mem_of_getElem? ht)
        obtain ⟨tt, htt⟩ : ∃ x, bs t.text = x := ⟨_, rfl⟩
        have hsz : tt.size = t.text.length := by rw [← htt, bs_size]
        have hW := wide_step hX ht htt
        rw [htt] at p1
        have HW := Lib.hid hW
        have HKN := Lib.hid hlt
        have HXS := Lib.hid hXs
        have HTS : Hid (tt.size ≤ 4096) := Lib.hid (by omega)
        have c1 : ¬ X.size + tt.size > 9223372036854775807 := by omega
        have c2 : ¬ X.size + tt.size + 2 > 9223372036854775807 := by omega
        have hki : (k : Int) < (n : Int) := by omega
        have hk0 : (0 : Int) ≤ (k : Int) := by omega
        clear hB ht hb2 hsh htt hsz hW hX hXs hlt hln hk p0 p2
        go_wp2_with (first | go_region | fail)
        go_roundw
        case rel =>
          exact ⟨⟨k + 1, _, rfl, by go_num, by have := HO.out.len; have := HKN.out; omega, HW.out, by
            have h1 := HXS.out
            have h2 := HTS.out
            rw [ByteArray.size_append, ByteArray.size_append]
            show X.size + tt.size + 2 ≤ _
            omega, HBW.out⟩⟩
        case measure =>
          have h1 := HKN.out
          simp [intOf]
          omega
      · have hki : ¬ (k : Int) < (n : Int) := by omega
        have hXL : X.data.toList = 10 :: lexWide L := by rw [hX, List.take_of_length_le (by omega)]
        have HXL := Lib.hid hXL
        have hXb : X.size ≤ 16789505 := by omega
        have HXB := Lib.hid hXb
        have HBE := Lib.hid (lx_then HB2.out hB)
        have HVE := Lib.hid (HV2.out.later hB)
        have HOE := Lib.hid (HO.out.below hB)
        clear hXL hXb hXs hX hB hk
        by_cases hbig : 4096 < X.size
        · have hRX : toksR X = .error (0, 3) := by unfold toksR; rw [if_pos hbig]
          have hbi : (4096 : Int) < (X.size : Int) := by omega
          have HRX := Lib.hid hRX
          clear hRX hbig
          go_wp2_with fail
          refine (tokens_any X (by have := HXB.out; omega) _ HVE.out).mono ?_
          rintro e w4 ⟨h4, b4⟩
          have HB4 := Lib.hid (lx_then HBE.out b4)
          clear b4
          rcases h4 with ⟨A4, n4, c4, L4, hR4, hn4, rfl, hO4⟩ | ⟨a4, x4, hR4, rfl⟩
          · rw [HRX.out] at hR4; cases hR4
          · rw [HRX.out] at hR4
            cases hR4
            go_wp2_with fail
            go_ret
            exact ⟨rfl, HB4.out⟩
        · obtain ⟨m, hRX, hkt⟩ := toksR_wide HR.out HXL.out (by omega)
          have hml : m.length = n := by
            have h := congrArg List.length hkt
            rw [List.length_map, List.length_map] at h
            omega
          have hbi : ¬ (4096 : Int) < (X.size : Int) := by omega
          have HRX := Lib.hid hRX
          have HKT := Lib.hid hkt
          have HML := Lib.hid hml
          clear hRX hbig hkt hml
          go_wp2_with fail
          refine (tokens_any X (by have := HXB.out; omega) _ HVE.out).mono ?_
          rintro e w4 ⟨h4, b4⟩
          have HB4 := Lib.hid (lx_then HBE.out b4)
          have HO5 := Lib.hid (HOE.out.below b4)
          clear b4
          rcases h4 with ⟨A4, n4, c4, L4, hR4, hn4, rfl, hO4⟩ | ⟨a4, x4, hR4, rfl⟩
          · rw [HRX.out] at hR4
            cases hR4
            obtain rfl : n4 = n := by have := hO4.len; have := HML.out; omega
            have HO4 := Lib.hid hO4
            clear hO4
            go_wp2_with fail
            go_loopw [12] (fun vi wr => ∃ k : Nat, k ≤ n4 ∧ vi = .int .i64 (k : Int) ∧ Below w4.heap.size w4 wr) (fun vi _ => n4 - (intOf vi).toNat)
            case atStart => exact ⟨0, Nat.zero_le _, rfl, Below.refl _ _⟩
            case round =>
              obtain ⟨k, hk, rfl, hB⟩ := hrel
              by_cases hlt : k < n4
              · obtain ⟨t, ht⟩ : ∃ t, L[k]? = some t := ⟨_, List.getElem?_eq_getElem (by have := HO.out.len; omega)⟩
                obtain ⟨u, hu, hku, htu⟩ := kt_at HKT.out ht
                obtain ⟨b, rfl, _, _, p0, p1, _⟩ := ownT_tok (HO5.out.below hB) ht
                obtain ⟨b5, rfl, _, _, q0, q1, _⟩ := ownT_tok (HO4.out.below hB) hu
                rw [hku] at q0
                rw [htu] at q1
                obtain ⟨tk, htk⟩ : ∃ x, t.k = x := ⟨_, rfl⟩
                obtain ⟨tt, htt⟩ : ∃ x, bs t.text = x := ⟨_, rfl⟩
                rw [htk] at p0 q0
                rw [htt] at p1 q1
                have m1 : (tk != tk) = false := by simp
                have m2 : (tt.toList != tt.toList) = false := by simp
                have hki2 : (k : Int) < (n4 : Int) := by omega
                have hk0 : (0 : Int) ≤ (k : Int) := by omega
                have HBW2 := Lib.hid hB
                clear hB ht hu hku htu htk htt hk
                go_wp2_with (first | go_region | fail)
                go_roundw
                case rel => exact ⟨k + 1, hlt, by go_num, HBW2.out.drew⟩
                case measure => simp [intOf]; omega
              · have hki2 : ¬ (k : Int) < (n4 : Int) := by omega
                have HBZ := Lib.hid (lx_then HB4.out hB)
                clear hlt hk hB
                go_wp2_with fail
                go_ret
                exact ⟨rfl, HBZ.out⟩
          · rw [HRX.out] at hR4; cases hR4
  · have hx0 : ¬ x = 0 := by
      unfold toksR at hR
      split at hR
      · cases hR; decide
      · have h := toks_err (r := s.data.toList) (q := 0) (a := a) (x := x) s.data.toList.length (by omega) (by rw [List.drop_zero]; exact hR)
        omega
    have hxb : (x != 0) = true := by rw [bne_iff_ne]; exact hx0
    clear hR
    go_wp2_with fail
    go_ret
    exact ⟨rfl, HB2.out⟩
set_option maxRecDepth 100000 in
set_option maxHeartbeats 2000000 in
theorem wide_long (s : ByteArray) (hs : s.size ≤ 9223372036854775807) (h : 100000 < s.size) (w : World) (hV : LexVars w) :
    Calls Tryd.prog 6 #[.string s] w fun e w' => e = .returned (.bool true) ∧ Below w.heap.size w w' := by
  have hi : (100000 : Int) < (s.size : Int) := by omega
  have HV := Lib.hid hV
  clear h hs hV
  go_enter Tryd.func6, Tryd.ntmps6
  go_wp2_with fail
  refine (alive_any _ HV.out).mono ?_
  rintro e w1 ⟨rfl, b1⟩
  have HB1 := Lib.hid b1
  clear b1
  go_wp2_with fail
  go_ret
  exact ⟨rfl, HB1.out⟩
theorem wide_any (s : ByteArray) (hs : s.size ≤ 9223372036854775807) (w : World) (hV : LexVars w) :
    Calls Tryd.prog 6 #[.string s] w fun e w' => e = .returned (.bool true) ∧ Below w.heap.size w w' := by
  by_cases h : 100000 < s.size
  · exact wide_long s hs h w hV
  · exact wide_main s (by omega) w hV
end Go.Proofs.YtedhnnechjnnfaaDoor
