/- The document's Keyword, Name, Same. -/
import Derived.Test.YtedhnnechjnnfaaDoorLRef4
namespace Go.Proofs.YtedhnnechjnnfaaDoor
open Go.RowKit Go.Shelf
set_option linter.unusedVariables false
set_option linter.unusedSimpArgs false
/-- The document's keywords, as values. -/
def kwA : Array Value := #[.string ⟨#[118, 97, 114]⟩, .string ⟨#[97, 114, 114, 97, 121]⟩, .string ⟨#[112, 114, 111, 99]⟩, .string ⟨#[109, 97, 105, 110]⟩, .string ⟨#[115, 107, 105, 112]⟩, .string ⟨#[105, 110, 112, 117, 116]⟩, .string ⟨#[97, 115, 115, 117, 109, 101]⟩, .string ⟨#[97, 115, 115, 101, 114, 116]⟩, .string ⟨#[105, 102]⟩, .string ⟨#[101, 108, 115, 101]⟩, .string ⟨#[119, 104, 105, 108, 101]⟩, .string ⟨#[99, 97, 108, 108]⟩, .string ⟨#[116, 114, 117, 101]⟩, .string ⟨#[102, 97, 108, 115, 101]⟩]
theorem kwA_at {k : Nat} {l : List UInt8} (h : kwL[k]? = some l) : kwA[k]? = some (.string (bs l)) := by
  have h1 : kwA = (kwL.map fun l => Value.string (bs l)).toArray := rfl
  rw [h1, List.getElem?_toArray, List.getElem?_map, h]; rfl
set_option maxRecDepth 100000 in
set_option maxHeartbeats 2000000 in
/-- The document's Keyword. -/
theorem rkeyword_any (s : ByteArray) (w : World) :
    Calls Tryd.prog 13 #[.string s] w fun e w' => e = .returned (.bool (isKw s.data.toList)) ∧ Below w.heap.size w w' := by
  have HB := Lib.hid (lx_new w (.cells kwA 9))
  have HK := Lib.hid (lx_made w (.cells kwA 9))
  obtain ⟨WK, hWK⟩ : ∃ WK, w.alloc (.cells kwA 9) = WK := ⟨_, rfl⟩
  rw [hWK] at HB HK
  have hWL : w.alloc (.cells #[.string ⟨#[118, 97, 114]⟩, .string ⟨#[97, 114, 114, 97, 121]⟩, .string ⟨#[112, 114, 111, 99]⟩, .string ⟨#[109, 97, 105, 110]⟩, .string ⟨#[115, 107, 105, 112]⟩, .string ⟨#[105, 110, 112, 117, 116]⟩, .string ⟨#[97, 115, 115, 117, 109, 101]⟩, .string ⟨#[97, 115, 115, 101, 114, 116]⟩, .string ⟨#[105, 102]⟩, .string ⟨#[101, 108, 115, 101]⟩, .string ⟨#[119, 104, 105, 108, 101]⟩, .string ⟨#[99, 97, 108, 108]⟩, .string ⟨#[116, 114, 117, 101]⟩, .string ⟨#[102, 97, 108, 115, 101]⟩] 9) = WK := hWK
  generalize hR : isKw s.data.toList = R
  have HR := Lib.hid hR
  have HW := Lib.hid hWL
  clear hWK hR hWL
  go_enter Tryd.func13, Tryd.ntmps13
  go_wp2
  rw [HW.out]
  go_loopw [4] (fun i wr => ∃ k : Nat, k ≤ 14 ∧ i = .int .i64 (k : Int) ∧ wr = WK ∧ ∀ j l, j < k → kwL[j]? = some l → l ≠ s.data.toList) (fun i _ => 14 - (intOf i).toNat)
  case atStart => exact ⟨0, by omega, rfl, rfl, fun j l hj => absurd hj (by omega)⟩
  case round =>
    obtain ⟨k, hk, rfl, rfl, hno⟩ := hrel
    have HO := Lib.hid hno
    clear hno
    by_cases hlt : k < 14
    · obtain ⟨l, hl⟩ : ∃ l, kwL[k]? = some l := ⟨_, List.getElem?_eq_getElem hlt⟩
      have hck := (lx_cells HK.out (kwA_at hl)).1
      have hki : (k : Int) < 14 := by omega
      have hk0 : (0 : Int) ≤ (k : Int) := by omega
      have hbl : (bs l).toList = l := by rw [Lib.toList_data]; rfl
      have HL := Lib.hid hl
      by_cases he : l = s.data.toList
      · have heq : ((bs l).toList == s.toList) = true := by rw [hbl, Lib.toList_data, beq_iff_eq]; exact he
        have HT : Hid (R = true) := by
          show R = true
          rw [← HR.out, ← he]
          exact List.contains_iff_mem.2 (List.mem_of_getElem? hl)
        clear hbl he hl
        go_wp2
        go_ret
        exact ⟨by rw [HT.out]; rfl, HB.out⟩
      · have heq : ((bs l).toList == s.toList) = false := by rw [hbl, Lib.toList_data, beq_eq_false_iff_ne]; exact he
        have HE := Lib.hid he
        clear hbl he hl
        go_wp2
        go_roundw
        case rel =>
          refine ⟨k + 1, hlt, by go_num, (by first | trivial | rfl), fun j m hj hm => ?_⟩
          rcases Nat.lt_or_ge j k with h1 | h1
          · exact HO.out j m h1 hm
          · obtain rfl : j = k := by omega
            rw [HL.out] at hm
            cases hm
            exact HE.out
        case measure => simp [intOf]; omega
    · have HT : Hid (R = false) := by
        show R = false
        rw [← HR.out]
        cases hq : isKw s.data.toList with
        | false => rfl
        | true =>
          obtain ⟨j, hj, hjl⟩ := List.getElem_of_mem (List.contains_iff_mem.1 hq)
          have hj2 : j < k := by
            have h3 : kwL.length = 14 := rfl
            omega
          exact absurd rfl (HO.out j s.data.toList hj2 (by rw [List.getElem?_eq_getElem hj, hjl]))
      have hki : ¬ (k : Int) < 14 := by omega
      clear hlt
      go_wp2
      go_ret
      exact ⟨by rw [HT.out]; rfl, HB.out⟩
/-- A name, by its bytes. -/
theorem name_is (l : List UInt8) : isName l = (match l with
    | [] => false
    | c :: t => decide ((c :: t).length ≤ 16) && lexL c && !isKw (c :: t) && (c :: t).all lexW) := by
  match l with
  | [] => rfl
  | c :: t =>
    dsimp only
    cases hl : lexL c with
    | false =>
      rw [Bool.and_false, Bool.false_and, Bool.false_and]
      cases ho : oneT (c :: t) with
      | error x => exact isName_err ho
      | ok kn =>
        obtain ⟨k, n⟩ := kn
        rw [isName_ok ho]
        have hk : k ≠ 1 := by
          intro hk
          subst hk
          rw [oneT_cons, hl, if_neg (by decide)] at ho
          split at ho
          · split at ho
            · cases ho
            · injection ho with ho; injection ho with h1 h2; cases h1
          · split at ho
            · injection ho with ho; injection ho with h1 h2; cases h1
            · split at ho
              · injection ho with ho; injection ho with h1 h2; cases h1
              · cases ho
        rw [decide_eq_false hk, Bool.false_and]
    | true =>
      rw [Bool.and_true]
      have ho := oneT_word (t := t) hl
      by_cases h16 : 16 < ((c :: t).takeWhile lexW).length
      · rw [if_pos h16] at ho
        rw [isName_err ho]
        have h1 := takeWhile_len lexW (c :: t)
        rw [decide_eq_false (by omega)]
        rfl
      · rw [if_neg h16] at ho
        rw [isName_ok ho, take_takeWhile]
        by_cases hall : (c :: t).takeWhile lexW = c :: t
        · have h2 : (c :: t).all lexW = true := by rw [← hall]; exact all_takeWhile _ _
          rw [h2, hall]
          rw [hall] at h16
          rw [decide_eq_true (show (c :: t).length ≤ 16 by omega)]
          simp
        · have h2 : (c :: t).all lexW = false := by
            cases hq : (c :: t).all lexW with
            | false => rfl
            | true =>
              refine absurd ?_ hall
              have h3 : ∀ l : List UInt8, l.all lexW = true → l.takeWhile lexW = l := by
                intro l
                induction l with
                | nil => intro _; rfl
                | cons a b ih =>
                  intro h
                  rw [List.all_cons, Bool.and_eq_true] at h
                  rw [List.takeWhile_cons, if_pos h.1, ih h.2]
              exact h3 _ hq
          rw [h2, decide_eq_false hall]
          simp
end Go.Proofs.YtedhnnechjnnfaaDoor
