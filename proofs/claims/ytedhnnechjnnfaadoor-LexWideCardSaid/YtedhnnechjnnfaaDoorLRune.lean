/- lex: strings.ContainsRune, of a text of bytes below 128. -/
import Derived.Test.YtedhnnechjnnfaaDoorLBase
import Derived.Test.YtedhnnechjnnfaaDoorLPlain
import Derived.Laws.Runes
import Derived.WalkMore
namespace Go.Proofs.YtedhnnechjnnfaaDoor
open Go.RowKit Go.Shelf
set_option linter.unusedVariables false
set_option linter.unusedSimpArgs false

set_option maxRecDepth 100000 in
set_option maxHeartbeats 1000000 in
theorem index_bad (s : ByteArray) (x : Nat) (h128 : 128 ≤ x) (hx : x ≤ 1114111) (hne : x ≠ 65533) (hv : validRune (x : Int) = false) (w : World) :
    Calls Tryd.prog 39 #[.string s, .int .i32 (x : Int)] w fun e w' => e = .returned (.int .i64 (-1)) ∧ Below w.heap.size w w' := by
  have a0 : (0 : Int) ≤ (x : Int) := by omega
  have a1 : ¬ (x : Int) < 128 := by omega
  have a2 : ¬ (x : Int) = 65533 := by omega
  have a3 : ¬ (x : Int) < 55296 ∧ (57343 : Int) < (x : Int) → False := by
    intro h
    unfold validRune at hv
    have := of_decide_eq_false hv
    omega
  have a4 : (55296 : Int) ≤ (x : Int) ∧ (x : Int) ≤ 57343 := by
    unfold validRune at hv
    have := of_decide_eq_false hv
    omega
  have a5 : ¬ (x : Int) < 55296 := by omega
  have a6 : ¬ (57343 : Int) < (x : Int) := by omega
  clear hv a3 h128 hne
  have b2 : decide ((x : Int) = 65533) = false := decide_eq_false a2
  have b5 : decide ((x : Int) < 55296) = false := decide_eq_false a5
  have b6 : decide ((57343 : Int) < (x : Int)) = false := decide_eq_false a6
  have b7 : ((x : Int) == 65533) = false := by rw [beq_eq_false_iff_ne]; exact a2
  clear a2 a4 a5 a6
  go_enter Tryd.func39, Tryd.ntmps39
  go_wp2
  go_ret
  exact ⟨rfl, Below.refl _ _⟩
set_option maxRecDepth 100000 in
set_option maxHeartbeats 1000000 in
theorem index_err (s : ByteArray) (hs : ∀ b, b ∈ s.data.toList → b.toNat < 128) (w : World) :
    Calls Tryd.prog 39 #[.string s, .int .i32 65533] w fun e w' => e = .returned (.int .i64 (-1)) ∧ Below w.heap.size w w' := by
  go_enter Tryd.func39, Tryd.ntmps39
  go_wp2
  go_loopw [] (fun wr => ∃ pos : Nat, pos ≤ s.size ∧ wr = w.iter s pos) (fun wr => s.size - wr.iterPos w.heap.size)
  case atStart => exact ⟨0, Nat.zero_le _, rfl⟩
  case round =>
    obtain ⟨pos, hp, rfl⟩ := hrel
    have hB : Below w.heap.size w (w.iter s pos) := (Below.refl _ w).alloc (Nat.le_refl _) _
    have HMU := Lib.hid (World.iterPos_iter w s pos)
    by_cases hlt : pos < s.size
    · have h128 : (s[pos]'hlt).toNat < 128 := hs _ (Array.mem_toList_iff.2 (Array.getElem_mem (xs := s.data) hlt))
      have hnext : ∀ ty, (Instr.next (.pointer (some ⟨w.heap.size, 0, none⟩)) true ty).run Tryd.prog (w.iter s pos) = _ := fun ty => run_next_ascii w s pos ty hlt h128
      have hne : ¬ ((s[pos].toNat : Int) = 65533) := by omega
      clear hs hB
      go_wp2
      go_roundw
      case rel => exact ⟨pos + 1, by omega, rfl⟩
      case measure =>
        rw [HMU.out, World.iterPos_iter]
        omega
    · have hnext : ∀ ty, (Instr.next (.pointer (some ⟨w.heap.size, 0, none⟩)) true ty).run Tryd.prog (w.iter s pos) = _ := fun ty => run_next_end w s pos ty hlt
      clear hs
      go_wp2
      go_ret
      exact ⟨rfl, hB⟩
theorem indexByte_none {l : List UInt8} {c : UInt8} (h : ∀ b, b ∈ l → b ≠ c) : Lib.indexByte l c = -1 := by
  induction l with
  | nil => rfl
  | cons a l ih =>
    have h1 : (a == c) = false := beq_eq_false_iff_ne.2 (h a (by simp))
    have h2 := ih fun b hb => h b (by simp [hb])
    simp [Lib.indexByte, h1, h2]
/-- The blanks, as the program has them. -/
def blankS : ByteArray := ⟨#[32, 9, 10, 13]⟩
set_option maxRecDepth 100000 in
set_option maxHeartbeats 2000000 in
theorem index_past (s : ByteArray) (hs1 : s.size ≤ 1) (x : Nat) (h128 : 128 ≤ x) (hx : x ≤ 1114111) (hne : x ≠ 65533) (hv : validRune (x : Int) = true) (w : World) :
    Calls Tryd.prog 39 #[.string s, .int .i32 (x : Int)] w fun e w' => e = .returned (.int .i64 (-1)) ∧ Below w.heap.size w w' := by
  have a0 : (0 : Int) ≤ (x : Int) := by omega
  have a1 : ¬ (x : Int) < 128 := by omega
  have a2 : ¬ (x : Int) = 65533 := by omega
  have hf := encode_facts (x : Int) (by rw [validRune_eq]; exact hv) (by omega)
  have hv1 := hv
  unfold validRune at hv1
  have hv2 := of_decide_eq_true hv1
  obtain ⟨E, hE⟩ : ∃ E, Utf8.encode (x : Int) = E := ⟨_, rfl⟩
  have hcv : ∀ w, (convert 21 9 (.int .i32 (x : Int))).run Tryd.prog w = .ok (.string E) w := fun w => by rw [← hE]; exact run_convert_int_string w _ _ _ _ (by rw [Tryd.underlying21]; rfl) Tryd.underlying9
  rw [hE] at hf
  clear hE
  obtain ⟨f1, f2, f3⟩ := hf
  obtain ⟨n, hz⟩ : ∃ n, E.size = n + 1 := ⟨E.size - 1, by omega⟩
  have hn1 : n < E.size := by omega
  have hn3 : n ≤ 3 := by omega
  have b2 : decide ((x : Int) = 65533) = false := decide_eq_false a2
  have b7 : ((x : Int) == 65533) = false := by rw [beq_eq_false_iff_ne]; exact a2
  have hvv : (decide ((x : Int) < 55296) = true) ∨ (decide ((x : Int) < 55296) = false ∧ decide ((57343 : Int) < (x : Int)) = true ∧ decide ((x : Int) ≤ 1114111) = true) := by
    rcases hv2 with h | h
    · exact .inl (decide_eq_true (by omega))
    · exact .inr ⟨decide_eq_false (by omega), decide_eq_true (by omega), decide_eq_true (by omega)⟩
  have hge : (s.size : Int) ≤ (n : Int) := by omega
  clear a2 hv1 hv2 hv hne f3 f1 f2
  rcases hvv with h5 | ⟨h5, h6, h7⟩
  all_goals
    go_enter Tryd.func39, Tryd.ntmps39
    go_wp2
    go_step3
    go_wp2
    go_loopw [9] (fun i wr => i = .int .i64 (n : Int) ∧ wr = w) (fun _ _ => 0)
    case atStart => exact ⟨rfl, rfl⟩
    case round =>
      obtain ⟨rfl, rfl⟩ := hrel
      clear hz
      have hlt : ¬ n < s.size := by omega
      have hlt2 : ¬ ((n : Int) < (s.size : Int)) := by omega
      go_wp2
      go_ret
      exact ⟨rfl, Below.refl _ _⟩
theorem blank_none {c : UInt8} (h : 128 ≤ c.toNat) (a b : Nat) : Lib.indexByte ((⟨#[32, 9, 10, 13]⟩ : ByteArray).extract a b).data.toList (c.toNat : Int).toNat.toUInt8 = -1 := by
  refine indexByte_none fun y hy e => ?_
  have h1 := mem_extract hy
  have h2 : ∀ z, z ∈ (⟨#[32, 9, 10, 13]⟩ : ByteArray).data.toList → z.toNat < 128 := by decide
  have h3 := h2 y h1
  rw [e] at h3
  simp at h3
  omega
set_option maxRecDepth 100000 in
set_option maxHeartbeats 2000000 in
theorem index_blank1 (s : ByteArray) (hsz : s.size = 4) (hls : 1 < s.size) (hbe : s[1]'hls = 9) (hib : ∀ (c : UInt8), 128 ≤ c.toNat → ∀ a b, Lib.indexByte (s.extract a b).data.toList (c.toNat : Int).toNat.toUInt8 = -1) (x : Nat) (h128 : 128 ≤ x) (hx : x ≤ 1114111) (hne : x ≠ 65533) (hv : validRune (x : Int) = true) (hz : (Utf8.encode (x : Int)).size = 2) (w : World) :
    Calls Tryd.prog 39 #[.string s, .int .i32 (x : Int)] w fun e w' => e = .returned (.int .i64 (-1)) ∧ Below w.heap.size w w' := by
  have a0 : (0 : Int) ≤ (x : Int) := by omega
  have a1 : ¬ (x : Int) < 128 := by omega
  have a2 : ¬ (x : Int) = 65533 := by omega
  have hf := encode_facts (x : Int) (by rw [validRune_eq]; exact hv) (by omega)
  have hv1 := hv
  unfold validRune at hv1
  have hv2 := of_decide_eq_true hv1
  obtain ⟨E, hE⟩ : ∃ E, Utf8.encode (x : Int) = E := ⟨_, rfl⟩
  have hcv : ∀ w, (convert 21 9 (.int .i32 (x : Int))).run Tryd.prog w = .ok (.string E) w := fun w => by rw [← hE]; exact run_convert_int_string w _ _ _ _ (by rw [Tryd.underlying21]; rfl) Tryd.underlying9
  rw [hE] at hf hz
  clear hE
  obtain ⟨f1, f2, f3⟩ := hf
  have hn1 : 1 < E.size := by omega
  have f4 : 128 ≤ (E[1]'hn1).toNat := by
    have h1 : ∀ k (hk : k < E.size), k = E.size - 1 → 128 ≤ (E[k]'hk).toNat := by
      rintro k hk rfl
      exact f3 (by omega)
    exact h1 1 hn1 (by omega)
  have HB := Lib.hid (hib _ f4)
  have HEM : Hid (∀ c : UInt8, Lib.indexByte ByteArray.empty.data.toList c = -1) := fun _ => rfl
  clear hib
  have b2 : decide ((x : Int) = 65533) = false := decide_eq_false a2
  have b7 : ((x : Int) == 65533) = false := by rw [beq_eq_false_iff_ne]; exact a2
  have hvv : (decide ((x : Int) < 55296) = true) ∨ (decide ((x : Int) < 55296) = false ∧ decide ((57343 : Int) < (x : Int)) = true ∧ decide ((x : Int) ≤ 1114111) = true) := by
    rcases hv2 with h | h
    · exact .inl (decide_eq_true (by omega))
    · exact .inr ⟨decide_eq_false (by omega), decide_eq_true (by omega), decide_eq_true (by omega)⟩
  have hbne : ¬ (((s[1]'hls).toNat : Int) = ((E[1]'hn1).toNat : Int)) := by
    rw [hbe]
    have h1 : ((9 : UInt8).toNat : Int) = 9 := rfl
    omega
  have hbn2 : (((s[1]'hls).toNat : Int) != ((E[1]'hn1).toNat : Int)) = true := by rw [bne_iff_ne]; exact hbne
  clear hbe
  have HBN := Lib.hid hbne
  have HB2 := Lib.hid hbn2
  clear a2 hv1 hv2 hv hne f3 f4 f1 f2 hbne hbn2
  rcases hvv with h5 | ⟨h5, h6, h7⟩
  all_goals
    go_enter Tryd.func39, Tryd.ntmps39
    go_wp2
    go_step3
    go_wp2
    go_loopw [9] (fun i wr => i = .int .i64 1 ∧ wr = w) (fun _ _ => 0)
    case atStart => exact ⟨rfl, rfl⟩
    case round =>
      obtain ⟨rfl, rfl⟩ := hrel
      clear b2 b7 h5 hx h128 a0 a1 hcv
      try clear h6
      try clear h7
      have hlt2 : (1 : Int) < (s.size : Int) := by omega
      have hbne := HBN.out
      have hbn2 := HB2.out
      go_wp2
      go_step3
      go_wp2
      go_region
      go_wp2
      clear hbne hbn2 HBN HB2 hlt2
      have q2 : (2 : Int) ≤ (s.size : Int) := by omega
      go_region_with
        (first
          | (go_at_call 44; refine (lx_index_byte _ _ _).mono ?_; (first | rw [HB.out] | rw [HEM.out]); rintro e w4 ⟨rfl, rfl⟩))
      all_goals
        go_wp2
        rw [Exit.noGoto_ret]
        go_wp2
        rw [Exit.noGoto_ret]
        go_ret
        exact ⟨rfl, ((Below.refl _ _).drew).drew⟩
set_option maxRecDepth 100000 in
set_option maxHeartbeats 2000000 in
theorem index_blank2 (s : ByteArray) (hsz : s.size = 4) (hls : 2 < s.size) (hbe : s[2]'hls = 10) (hib : ∀ (c : UInt8), 128 ≤ c.toNat → ∀ a b, Lib.indexByte (s.extract a b).data.toList (c.toNat : Int).toNat.toUInt8 = -1) (x : Nat) (h128 : 128 ≤ x) (hx : x ≤ 1114111) (hne : x ≠ 65533) (hv : validRune (x : Int) = true) (hz : (Utf8.encode (x : Int)).size = 3) (w : World) :
    Calls Tryd.prog 39 #[.string s, .int .i32 (x : Int)] w fun e w' => e = .returned (.int .i64 (-1)) ∧ Below w.heap.size w w' := by
  have a0 : (0 : Int) ≤ (x : Int) := by omega
  have a1 : ¬ (x : Int) < 128 := by omega
  have a2 : ¬ (x : Int) = 65533 := by omega
  have hf := encode_facts (x : Int) (by rw [validRune_eq]; exact hv) (by omega)
  have hv1 := hv
  unfold validRune at hv1
  have hv2 := of_decide_eq_true hv1
  obtain ⟨E, hE⟩ : ∃ E, Utf8.encode (x : Int) = E := ⟨_, rfl⟩
  have hcv : ∀ w, (convert 21 9 (.int .i32 (x : Int))).run Tryd.prog w = .ok (.string E) w := fun w => by rw [← hE]; exact run_convert_int_string w _ _ _ _ (by rw [Tryd.underlying21]; rfl) Tryd.underlying9
  rw [hE] at hf hz
  clear hE
  obtain ⟨f1, f2, f3⟩ := hf
  have hn1 : 2 < E.size := by omega
  have f4 : 128 ≤ (E[2]'hn1).toNat := by
    have h1 : ∀ k (hk : k < E.size), k = E.size - 1 → 128 ≤ (E[k]'hk).toNat := by
      rintro k hk rfl
      exact f3 (by omega)
    exact h1 2 hn1 (by omega)
  have HB := Lib.hid (hib _ f4)
  have HEM : Hid (∀ c : UInt8, Lib.indexByte ByteArray.empty.data.toList c = -1) := fun _ => rfl
  clear hib
  have b2 : decide ((x : Int) = 65533) = false := decide_eq_false a2
  have b7 : ((x : Int) == 65533) = false := by rw [beq_eq_false_iff_ne]; exact a2
  have hvv : (decide ((x : Int) < 55296) = true) ∨ (decide ((x : Int) < 55296) = false ∧ decide ((57343 : Int) < (x : Int)) = true ∧ decide ((x : Int) ≤ 1114111) = true) := by
    rcases hv2 with h | h
    · exact .inl (decide_eq_true (by omega))
    · exact .inr ⟨decide_eq_false (by omega), decide_eq_true (by omega), decide_eq_true (by omega)⟩
  have hbne : ¬ (((s[2]'hls).toNat : Int) = ((E[2]'hn1).toNat : Int)) := by
    rw [hbe]
    have h1 : ((10 : UInt8).toNat : Int) = 10 := rfl
    omega
  have hbn2 : (((s[2]'hls).toNat : Int) != ((E[2]'hn1).toNat : Int)) = true := by rw [bne_iff_ne]; exact hbne
  clear hbe
  have HBN := Lib.hid hbne
  have HB2 := Lib.hid hbn2
  clear a2 hv1 hv2 hv hne f3 f4 f1 f2 hbne hbn2
  rcases hvv with h5 | ⟨h5, h6, h7⟩
  all_goals
    go_enter Tryd.func39, Tryd.ntmps39
    go_wp2
    go_step3
    go_wp2
    go_loopw [9] (fun i wr => i = .int .i64 2 ∧ wr = w) (fun _ _ => 0)
    case atStart => exact ⟨rfl, rfl⟩
    case round =>
      obtain ⟨rfl, rfl⟩ := hrel
      clear b2 b7 h5 hx h128 a0 a1 hcv
      try clear h6
      try clear h7
      have hlt2 : (2 : Int) < (s.size : Int) := by omega
      have hbne := HBN.out
      have hbn2 := HB2.out
      go_wp2
      go_step3
      go_wp2
      go_region
      go_wp2
      clear hbne hbn2 HBN HB2 hlt2
      have q2 : (3 : Int) ≤ (s.size : Int) := by omega
      go_region_with
        (first
          | (go_at_call 44; refine (lx_index_byte _ _ _).mono ?_; (first | rw [HB.out] | rw [HEM.out]); rintro e w4 ⟨rfl, rfl⟩))
      all_goals
        go_wp2
        rw [Exit.noGoto_ret]
        go_wp2
        rw [Exit.noGoto_ret]
        go_ret
        exact ⟨rfl, ((Below.refl _ _).drew).drew⟩
set_option maxRecDepth 100000 in
set_option maxHeartbeats 2000000 in
theorem index_blank3 (s : ByteArray) (hsz : s.size = 4) (hls : 3 < s.size) (hbe : s[3]'hls = 13) (hib : ∀ (c : UInt8), 128 ≤ c.toNat → ∀ a b, Lib.indexByte (s.extract a b).data.toList (c.toNat : Int).toNat.toUInt8 = -1) (x : Nat) (h128 : 128 ≤ x) (hx : x ≤ 1114111) (hne : x ≠ 65533) (hv : validRune (x : Int) = true) (hz : (Utf8.encode (x : Int)).size = 4) (w : World) :
    Calls Tryd.prog 39 #[.string s, .int .i32 (x : Int)] w fun e w' => e = .returned (.int .i64 (-1)) ∧ Below w.heap.size w w' := by
  have a0 : (0 : Int) ≤ (x : Int) := by omega
  have a1 : ¬ (x : Int) < 128 := by omega
  have a2 : ¬ (x : Int) = 65533 := by omega
  have hf := encode_facts (x : Int) (by rw [validRune_eq]; exact hv) (by omega)
  have hv1 := hv
  unfold validRune at hv1
  have hv2 := of_decide_eq_true hv1
  obtain ⟨E, hE⟩ : ∃ E, Utf8.encode (x : Int) = E := ⟨_, rfl⟩
  have hcv : ∀ w, (convert 21 9 (.int .i32 (x : Int))).run Tryd.prog w = .ok (.string E) w := fun w => by rw [← hE]; exact run_convert_int_string w _ _ _ _ (by rw [Tryd.underlying21]; rfl) Tryd.underlying9
  rw [hE] at hf hz
  clear hE
  obtain ⟨f1, f2, f3⟩ := hf
  have hn1 : 3 < E.size := by omega
  have f4 : 128 ≤ (E[3]'hn1).toNat := by
    have h1 : ∀ k (hk : k < E.size), k = E.size - 1 → 128 ≤ (E[k]'hk).toNat := by
      rintro k hk rfl
      exact f3 (by omega)
    exact h1 3 hn1 (by omega)
  have HB := Lib.hid (hib _ f4)
  have HEM : Hid (∀ c : UInt8, Lib.indexByte ByteArray.empty.data.toList c = -1) := fun _ => rfl
  clear hib
  have b2 : decide ((x : Int) = 65533) = false := decide_eq_false a2
  have b7 : ((x : Int) == 65533) = false := by rw [beq_eq_false_iff_ne]; exact a2
  have hvv : (decide ((x : Int) < 55296) = true) ∨ (decide ((x : Int) < 55296) = false ∧ decide ((57343 : Int) < (x : Int)) = true ∧ decide ((x : Int) ≤ 1114111) = true) := by
    rcases hv2 with h | h
    · exact .inl (decide_eq_true (by omega))
    · exact .inr ⟨decide_eq_false (by omega), decide_eq_true (by omega), decide_eq_true (by omega)⟩
  have hbne : ¬ (((s[3]'hls).toNat : Int) = ((E[3]'hn1).toNat : Int)) := by
    rw [hbe]
    have h1 : ((13 : UInt8).toNat : Int) = 13 := rfl
    omega
  have hbn2 : (((s[3]'hls).toNat : Int) != ((E[3]'hn1).toNat : Int)) = true := by rw [bne_iff_ne]; exact hbne
  clear hbe
  have HBN := Lib.hid hbne
  have HB2 := Lib.hid hbn2
  clear a2 hv1 hv2 hv hne f3 f4 f1 f2 hbne hbn2
  rcases hvv with h5 | ⟨h5, h6, h7⟩
  all_goals
    go_enter Tryd.func39, Tryd.ntmps39
    go_wp2
    go_step3
    go_wp2
    go_loopw [9] (fun i wr => i = .int .i64 3 ∧ wr = w) (fun _ _ => 0)
    case atStart => exact ⟨rfl, rfl⟩
    case round =>
      obtain ⟨rfl, rfl⟩ := hrel
      clear b2 b7 h5 hx h128 a0 a1 hcv
      try clear h6
      try clear h7
      have hlt2 : (3 : Int) < (s.size : Int) := by omega
      have hbne := HBN.out
      have hbn2 := HB2.out
      go_wp2
      go_step3
      go_wp2
      go_region
      go_wp2
      clear hbne hbn2 HBN HB2 hlt2
      have q2 : (4 : Int) ≤ (s.size : Int) := by omega
      go_region_with
        (first
          | (go_at_call 44; refine (lx_index_byte _ _ _).mono ?_; (first | rw [HB.out] | rw [HEM.out]); rintro e w4 ⟨rfl, rfl⟩))
      all_goals
        go_wp2
        rw [Exit.noGoto_ret]
        go_wp2
        rw [Exit.noGoto_ret]
        go_ret
        exact ⟨rfl, ((Below.refl _ _).drew).drew⟩
theorem blank_low : ∀ z, z ∈ (⟨#[32, 9, 10, 13]⟩ : ByteArray).data.toList → z.toNat < 128 := by decide
/-- No rune above 127 is in the blanks. -/
theorem index_blank (x : Nat) (h128 : 128 ≤ x) (hx : x ≤ 1114111) (w : World) :
    Calls Tryd.prog 39 #[.string ⟨#[32, 9, 10, 13]⟩, .int .i32 (x : Int)] w fun e w' => e = .returned (.int .i64 (-1)) ∧ Below w.heap.size w w' := by
  by_cases hne : x = 65533
  · subst hne
    exact index_err _ blank_low w
  · cases hv : validRune (x : Int) with
    | false => exact index_bad _ x h128 hx hne hv w
    | true =>
      obtain ⟨f1, f2, _⟩ := encode_facts (x : Int) (by rw [validRune_eq]; exact hv) (by omega)
      have h3 : (Utf8.encode (x : Int)).size = 2 ∨ (Utf8.encode (x : Int)).size = 3 ∨ (Utf8.encode (x : Int)).size = 4 := by omega
      rcases h3 with h3 | h3 | h3
      · exact index_blank1 _ rfl (by decide) rfl (fun c hc a b => blank_none hc a b) x h128 hx hne hv h3 w
      · exact index_blank2 _ rfl (by decide) rfl (fun c hc a b => blank_none hc a b) x h128 hx hne hv h3 w
      · exact index_blank3 _ rfl (by decide) rfl (fun c hc a b => blank_none hc a b) x h128 hx hne hv h3 w
/-- .. nor in the text of _. -/
theorem index_bar (x : Nat) (h128 : 128 ≤ x) (hx : x ≤ 1114111) (w : World) :
    Calls Tryd.prog 39 #[.string ⟨#[95]⟩, .int .i32 (x : Int)] w fun e w' => e = .returned (.int .i64 (-1)) ∧ Below w.heap.size w w' := by
  by_cases hne : x = 65533
  · subst hne
    exact index_err _ (by decide) w
  · cases hv : validRune (x : Int) with
    | false => exact index_bad _ x h128 hx hne hv w
    | true => exact index_past _ (by decide) x h128 hx hne hv w
set_option maxRecDepth 100000 in
set_option maxHeartbeats 1000000 in
theorem index_low (s : ByteArray) (x : Nat) (h128 : x < 128) (w : World) :
    Calls Tryd.prog 39 #[.string s, .int .i32 (x : Int)] w fun e w' => e = .returned (.int .i64 (Lib.indexByte s.data.toList (UInt8.ofNat x))) ∧ Below w.heap.size w w' := by
  have a0 : (0 : Int) ≤ (x : Int) := by omega
  have a1 : (x : Int) < 128 := by omega
  have hw : IntKind.u8.wrap (x : Int) = (x : Int) := by rw [IntKind.wrap_u8]; omega
  have HX : Hid ((x : Int).toNat.toUInt8 = UInt8.ofNat x) := by show (x : Int).toNat.toUInt8 = UInt8.ofNat x; rw [Int.toNat_natCast]
  generalize hR : Lib.indexByte s.data.toList (UInt8.ofNat x) = R
  have HR := Lib.hid hR
  clear hR
  go_enter Tryd.func39, Tryd.ntmps39
  go_wp2_with (go_at_call 44; refine (lx_index_byte _ _ _).mono ?_; (rw [HX.out, HR.out]); rintro e w4 ⟨rfl, rfl⟩)
  go_ret
  exact ⟨rfl, Below.refl _ _⟩
/-- strings.ContainsRune, of a text whose runes are known. -/
theorem contains_of (s : ByteArray) (x : Nat) (r : Int) (hr : -1 ≤ r) (hI : ∀ w, Calls Tryd.prog 39 #[.string s, .int .i32 (x : Int)] w fun e w' => e = .returned (.int .i64 r) ∧ Below w.heap.size w w') (w : World) :
    Calls Tryd.prog 35 #[.string s, .int .i32 (x : Int)] w fun e w' => e = .returned (.bool (decide (0 ≤ r))) ∧ Below w.heap.size w w' := by
  go_enter Tryd.func35, Tryd.ntmps35
  go_wp2_with (go_at_call 39; refine (hI _).mono ?_; rintro e w4 ⟨rfl, hb⟩)
  go_ret
  exact ⟨rfl, hb⟩
end Go.Proofs.YtedhnnechjnnfaaDoor
