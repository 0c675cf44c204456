/- lex: sign. -/
import Derived.Test.YtedhnnechjnnfaaDoorLTok
namespace Go.Proofs.YtedhnnechjnnfaaDoor
open Go.RowKit Go.Shelf
set_option linter.unusedVariables false
set_option linter.unusedSimpArgs false

/-- What lex.sign answers. -/
def signR (l : List UInt8) : Except Int (Int × ByteArray) := match signAt l with
  | some t => .ok (3, t)
  | none => .error 80
theorem signR_some {l : List UInt8} {k : Nat} {t : ByteArray} (h : ∀ j u, j < k → signsL[j]? = some u → Lib.hasPrefix l u.data.toList = false) (hk : signsL[k]? = some t) (hp : Lib.hasPrefix l t.data.toList = true) : signR l = .ok (3, t) := by
  have h1 : signAt l = some t := by
    unfold signAt
    have hlt : k < signsL.length := (List.getElem?_eq_some_iff.1 hk).1
    have hke : signsL[k] = t := (List.getElem?_eq_some_iff.1 hk).2
    rw [List.find?_eq_some_iff_getElem]
    refine ⟨hp, k, hlt, hke, fun j hj => ?_⟩
    have h2 := h j (signsL[j]'(by omega)) hj (List.getElem?_eq_getElem _)
    rw [h2]; rfl
  unfold signR
  rw [h1]
theorem signR_none {l : List UInt8} (h : ∀ j u, j < 25 → signsL[j]? = some u → Lib.hasPrefix l u.data.toList = false) : signR l = .error 80 := by
  have h1 : signAt l = none := by
    unfold signAt
    rw [List.find?_eq_none]
    intro x hx
    obtain ⟨j, hj, he⟩ := List.getElem_of_mem hx
    have h2 := h j x hj (by rw [List.getElem?_eq_getElem hj, he])
    rw [h2]; decide
  unfold signR
  rw [h1]
theorem sign_index {k : Nat} (hk : k < 25) {t : ByteArray} (ht : signsL[k]? = some t) (w : World) : (Instr.index 52 (.agg signsV) (.int .i64 (k : Int))).run Tryd.prog w = .ok (.string t) w := by
  have h1 := signsV_at ht
  simp [Instr.index, run_underlying Tryd.underlying52, asIntOf, go_sem, hk, h1]
theorem signs_small : ∀ t, t ∈ signsL → t.size ≤ 2 := by decide
set_option maxRecDepth 100000 in
set_option maxHeartbeats 2000000 in
theorem sign_any (s : ByteArray) (w : World) (hV : LexVars w) :
    Calls Tryd.prog 26 #[.string s] w fun e w' => e = .returned (tokR (signR s.data.toList)) ∧ Below w.heap.size w w' := by
  have HN := Lib.hid (lx_new w (tokO 0 ⟨#[]⟩ 0))
  have HT := Lib.hid (lx_made w (tokO 0 ⟨#[]⟩ 0))
  have hV2 := hV.later HN.out
  obtain ⟨ts, fs, hs⟩ := hV2.sign
  have HS := Lib.hid hs
  generalize hR : signR s.data.toList = R
  have HR := Lib.hid hR
  clear hs hV hV2 hR
  go_enter Tryd.func26, Tryd.ntmps26
  go_wp2_with (refine wpList_load_row rfl 52 (.global 0) rfl 0 rfl _ signsV _ _ HS.out Tryd.underlying52 rfl (by kernel_rfl) ?_)
  go_loopw [7] (fun i wr => ∃ k : Nat, k ≤ 25 ∧ i = .int .i64 (k : Int) ∧ wr = w.alloc (tokO 0 ⟨#[]⟩ 0) ∧ ∀ j u, j < k → signsL[j]? = some u → Lib.hasPrefix s.data.toList u.data.toList = false) (fun i _ => 25 - (intOf i).toNat)
  case atStart => exact ⟨0, by omega, rfl, rfl, fun j u hj => absurd hj (by omega)⟩
  case round =>
    obtain ⟨k, hk, rfl, rfl, hno⟩ := hrel
    have HO := Lib.hid hno
    clear hno
    by_cases hlt : k < 25
    · obtain ⟨t, ht⟩ : ∃ t, signsL[k]? = some t := ⟨_, List.getElem?_eq_getElem hlt⟩
      have hix := fun w => sign_index hlt ht w
      have hki : (k : Int) < 25 := by omega
      have hts : t.size ≤ 1000000 := by
        have := signs_small t (List.mem_of_getElem? ht)
        omega
      have HK := Lib.hid ht
      have HTS := Lib.hid hts
      clear ht hts
      cases hp : Lib.hasPrefix s.data.toList t.data.toList with
      | true =>
        have HP := Lib.hid hp
        go_wp2_with fail
        refine (lx_has_prefix _ _ _).mono ?_
        rw [HP.out]
        rintro e w1 ⟨rfl, rfl⟩
        clear hp
        go_wp2_with fail
        refine (made_any 3 t HTS.out _).mono ?_
        rintro e w2 ⟨rfl, hb⟩
        obtain ⟨c0, c1, c2, z0, z1, z2⟩ := tokAt_of (lx_block HT.out hb)
        have HB := Lib.hid (lx_then HN.out hb)
        have HE := Lib.hid (signR_some HO.out HK.out HP.out)
        clear hb hix
        unfold tokV
        go_wp2
        refine bodyPost_ret (v := tokR (.ok (3, t))) (by simp [results, Tryd.results26, go_sem, c0, c1, c2, tokV, tokR]) rfl ?_
        exact ⟨by rw [← HR.out, HE.out], tok_below HB.out (Nat.le_refl _) _ _ _⟩
      | false =>
        have HP := Lib.hid hp
        go_wp2_with fail
        refine (lx_has_prefix _ _ _).mono ?_
        rw [HP.out]
        rintro e w1 ⟨rfl, rfl⟩
        clear hp hix
        go_wp2_with fail
        go_roundw
        case rel =>
          refine ⟨k + 1, by omega, by go_num, (by first | trivial | rfl), fun j u hj hu => ?_⟩
          rcases Nat.lt_or_ge j k with h1 | h1
          · exact HO.out j u h1 hu
          · obtain rfl : j = k := by omega
            rw [HK.out] at hu
            cases hu
            exact HP.out
        case measure => simp [intOf]; omega
    · obtain rfl : k = 25 := by omega
      have HE := Lib.hid (signR_none HO.out)
      obtain ⟨c0, c1, c2, z0, z1, z2⟩ := tokAt_of HT.out
      clear hlt hk
      go_wp2
      refine bodyPost_ret (v := tokR (.error 80)) (by simp [results, Tryd.results26, go_sem, c0, c1, c2, tokV, tokR]) rfl ?_
      refine ⟨by rw [← HR.out, HE.out], ?_⟩
      first
        | exact HN.out
        | exact tok_below HN.out (Nat.le_refl _) _ _ _
end Go.Proofs.YtedhnnechjnnfaaDoor
