/- lex: made, sign, number, word. -/
import Derived.Test.YtedhnnechjnnfaaDoorLAhead
import Derived.Test.YtedhnnechjnnfaaDoorLPlain
namespace Go.Proofs.YtedhnnechjnnfaaDoor
open Go.RowKit Go.Shelf
set_option linter.unusedVariables false
set_option linter.unusedSimpArgs false

/-- A token as a value; none. -/
def tokV (k : Int) (s : ByteArray) (a : Int) : Value := .agg #[.int .u8 k, .string s, .int .i64 a]
/-- A block with such cells. -/
abbrev tokO (k : Int) (s : ByteArray) (a : Int) : Obj := .cells #[.int .u8 k, .string s, .int .i64 a] 33
structure TokAt (w : World) (g : Nat) (k : Int) (s : ByteArray) (a : Int) : Prop where
  c0 : w.cell? ⟨g, 0, none⟩ = some (.int .u8 k)
  c1 : w.cell? ⟨g, 1, none⟩ = some (.string s)
  c2 : w.cell? ⟨g, 2, none⟩ = some (.int .i64 a)
  z0 : w.frozen? ⟨g, 0, none⟩ = false
  z1 : w.frozen? ⟨g, 1, none⟩ = false
  z2 : w.frozen? ⟨g, 2, none⟩ = false
theorem tokAt_of {w : World} {g : Nat} {k : Int} {s : ByteArray} {a : Int} (h : w.heap[g]? = some (tokO k s a)) : TokAt w g k s a :=
  ⟨(lx_cells h (i := 0) (v := .int .u8 k) rfl).1, (lx_cells h (i := 1) (v := .string s) rfl).1, (lx_cells h (i := 2) (v := .int .i64 a) rfl).1, (lx_cells h (i := 0) (v := .int .u8 k) rfl).2, (lx_cells h (i := 1) (v := .string s) rfl).2, (lx_cells h (i := 2) (v := .int .i64 a) rfl).2⟩
/-- Stores into such a block. -/
theorem tok_below {B g : Nat} {w W : World} (h : Below B w W) (hg : B ≤ g) (x y z : Value) : Below B w (((W.setCell ⟨g, 0, none⟩ x).setCell ⟨g, 1, none⟩ y).setCell ⟨g, 2, none⟩ z) :=
  ((h.setCell (p := ⟨g, 0, none⟩) hg x).setCell (p := ⟨g, 1, none⟩) hg y).setCell (p := ⟨g, 2, none⟩) hg z
/-- What a call answers: a token, or an error. -/
def tokR : Except Int (Int × ByteArray) → Value
  | .error x => .tuple #[tokV 0 ⟨#[]⟩ 0, .int .i64 x]
  | .ok (k, s) => .tuple #[tokV k s 0, .int .i64 0]
set_option maxRecDepth 100000 in
set_option maxHeartbeats 1000000 in
theorem clone_any (s : ByteArray) (hs : s.size ≤ 1000000) (w : World) :
    Calls Tryd.prog 41 #[.string s] w fun e w' => e = .returned (.string s) ∧ Below w.heap.size w w' := by
  go_enter Tryd.func41, Tryd.ntmps41
  go_wp2_with (go_at_call 48; refine (lx_clone s _ (by omega)).mono ?_; rintro e w1 ⟨rfl, hb⟩)
  go_ret
  exact ⟨rfl, hb⟩
set_option maxRecDepth 100000 in
set_option maxHeartbeats 1000000 in
theorem made_any (k : Int) (s : ByteArray) (hs : s.size ≤ 1000000) (w : World) :
    Calls Tryd.prog 37 #[.int .u8 k, .string s] w fun e w' => e = .returned (tokV k s 0) ∧ Below w.heap.size w w' := by
  have HN := Lib.hid (lx_new w (tokO 0 ⟨#[]⟩ 0))
  have HT := Lib.hid (lx_made w (tokO 0 ⟨#[]⟩ 0))
  go_enter Tryd.func37, Tryd.ntmps37
  go_wp2_with fail
  refine (clone_any s hs _).mono ?_
  rintro e w1 ⟨rfl, hb⟩
  obtain ⟨c0, c1, c2, z0, z1, z2⟩ := tokAt_of (lx_block HT.out hb)
  have HB := Lib.hid (lx_then HN.out hb)
  clear hb
  go_wp2
  refine bodyPost_ret (v := .agg #[.int .u8 k, .string s, .int .i64 0]) (by simp [results, Tryd.results37, go_sem, c0, c1, c2]) rfl ?_
  exact ⟨rfl, tok_below HB.out (Nat.le_refl _) _ _ _⟩
set_option maxRecDepth 100000 in
set_option maxHeartbeats 1000000 in
theorem word_any (s : ByteArray) (hs : s.size ≤ 1000000) (w : World) :
    Calls Tryd.prog 28 #[.string s] w fun e w' => e = .returned (tokR (if 16 < s.size then .error 82 else .ok (1, s))) ∧ Below w.heap.size w w' := by
  have HN := Lib.hid (lx_new w (tokO 0 ⟨#[]⟩ 0))
  have HT := Lib.hid (lx_made w (tokO 0 ⟨#[]⟩ 0))
  by_cases h : 16 < s.size
  · rw [if_pos h]
    have hi : (16 : Int) < (s.size : Int) := by omega
    obtain ⟨c0, c1, c2, z0, z1, z2⟩ := tokAt_of HT.out
    clear h
    go_enter Tryd.func28, Tryd.ntmps28
    go_wp2
    refine bodyPost_ret (v := .tuple #[tokV 0 ⟨#[]⟩ 0, .int .i64 82]) (by simp [results, Tryd.results28, go_sem, c0, c1, c2, tokV]) rfl ?_
    exact ⟨rfl, HN.out⟩
  · rw [if_neg h]
    have hi : ¬ (16 : Int) < (s.size : Int) := by omega
    clear h
    go_enter Tryd.func28, Tryd.ntmps28
    go_wp2_with fail
    refine (made_any 1 s hs _).mono ?_
    rintro e w1 ⟨rfl, hb⟩
    obtain ⟨c0, c1, c2, z0, z1, z2⟩ := tokAt_of (lx_block HT.out hb)
    have HB := Lib.hid (lx_then HN.out hb)
    clear hb
    unfold tokV
    go_wp2
    refine bodyPost_ret (v := .tuple #[tokV 1 s 0, .int .i64 0]) (by simp [results, Tryd.results28, go_sem, c0, c1, c2, tokV]) rfl ?_
    exact ⟨rfl, tok_below HB.out (Nat.le_refl _) _ _ _⟩
set_option maxRecDepth 100000 in
set_option maxHeartbeats 2000000 in
theorem number_nought (s : ByteArray) (h0 : 0 < s.size) (hc : s[0]'h0 = 48) (hne : s.toList ≠ [48]) (w : World) :
    Calls Tryd.prog 27 #[.string s] w fun e w' => e = .returned (tokR (.error 81)) ∧ Below w.heap.size w w' := by
  have HN := Lib.hid (lx_new w (tokO 0 ⟨#[]⟩ 0))
  obtain ⟨c0, c1, c2, z0, z1, z2⟩ := tokAt_of (lx_made w (tokO 0 ⟨#[]⟩ 0))
  have hci : ((s[0]'h0).toNat : Int) = 48 := by rw [hc]; rfl
  have h0i : (0 : Int) < (s.size : Int) := by omega
  have hnb : (s.toList == [48]) = false := by rw [beq_eq_false_iff_ne]; exact hne
  clear hc
  go_enter Tryd.func27, Tryd.ntmps27
  go_wp2
  refine bodyPost_ret (v := tokR (.error 81)) (by simp [results, Tryd.results27, go_sem, c0, c1, c2, tokR, tokV]) rfl ?_
  exact ⟨rfl, HN.out⟩
set_option maxRecDepth 100000 in
set_option maxHeartbeats 2000000 in
theorem number_ok (s : ByteArray) (hs : s.size ≤ 1000000) (h0 : 0 < s.size) (hf : ¬ ((s[0]'h0).toNat : Int) = 48 ∨ (((s[0]'h0).toNat : Int) = 48 ∧ s.toList = [48])) (v : Int)
    (hP : ∀ w, Calls Tryd.prog 38 #[.string s, .int .i64 10, .int .i64 64] w fun e w' => e = .returned (.tuple #[.int .i64 v, .nilIface]) ∧ Below w.heap.size w w') (w : World) :
    Calls Tryd.prog 27 #[.string s] w fun e w' => e = .returned (tokR (.ok (2, s))) ∧ Below w.heap.size w w' := by
  have HN := Lib.hid (lx_new w (tokO 0 ⟨#[]⟩ 0))
  have HT := Lib.hid (lx_made w (tokO 0 ⟨#[]⟩ 0))
  have HP := Lib.hid hP
  clear hP
  have h0i : (0 : Int) < (s.size : Int) := by omega
  rcases hf with hf | ⟨hf, hf2⟩
  all_goals
    go_enter Tryd.func27, Tryd.ntmps27
    go_wp2_with fail
    refine (HP.out _).mono ?_
    rintro e w1 ⟨rfl, hb1⟩
    have HT1 := Lib.hid (lx_block HT.out hb1)
    have HB1 := Lib.hid (lx_then HN.out hb1)
    clear hb1
    go_wp2_with fail
    refine (made_any 2 s hs _).mono ?_
    rintro e w2 ⟨rfl, hb⟩
    obtain ⟨c0, c1, c2, z0, z1, z2⟩ := tokAt_of (lx_block HT1.out hb)
    have HB := Lib.hid (lx_then HB1.out hb)
    clear hb
    unfold tokV
    go_wp2
    refine bodyPost_ret (v := tokR (.ok (2, s))) (by simp [results, Tryd.results27, go_sem, c0, c1, c2, tokV, tokR]) rfl ?_
    exact ⟨rfl, tok_below HB.out (Nat.le_refl _) _ _ _⟩
set_option maxRecDepth 100000 in
set_option maxHeartbeats 2000000 in
theorem number_bad (s : ByteArray) (h0 : 0 < s.size) (hf : ¬ ((s[0]'h0).toNat : Int) = 48 ∨ (((s[0]'h0).toNat : Int) = 48 ∧ s.toList = [48])) (w : World)
    (hP : Calls Tryd.prog 38 #[.string s, .int .i64 10, .int .i64 64] (w.alloc (tokO 0 ⟨#[]⟩ 0)) fun e w' => ∃ N v, e = .returned (.tuple #[.int .i64 v, .iface 69 (.pointer (some ⟨N, 0, none⟩))]) ∧ Below (w.alloc (tokO 0 ⟨#[]⟩ 0)).heap.size (w.alloc (tokO 0 ⟨#[]⟩ 0)) w') :
    Calls Tryd.prog 27 #[.string s] w fun e w' => e = .returned (tokR (.error 81)) ∧ Below w.heap.size w w' := by
  have HN := Lib.hid (lx_new w (tokO 0 ⟨#[]⟩ 0))
  have HT := Lib.hid (lx_made w (tokO 0 ⟨#[]⟩ 0))
  have HP := Lib.hid hP
  clear hP
  have h0i : (0 : Int) < (s.size : Int) := by omega
  rcases hf with hf | ⟨hf, hf2⟩
  all_goals
    go_enter Tryd.func27, Tryd.ntmps27
    go_wp2_with fail
    refine HP.out.mono ?_
    rintro e w1 ⟨N, v, rfl, hb1⟩
    obtain ⟨c0, c1, c2, z0, z1, z2⟩ := tokAt_of (lx_block HT.out hb1)
    have HB1 := Lib.hid (lx_then HN.out hb1)
    clear hb1
    go_wp2
    refine bodyPost_ret (v := tokR (.error 81)) (by simp [results, Tryd.results27, go_sem, c0, c1, c2, tokV, tokR]) rfl ?_
    exact ⟨rfl, tok_below HB1.out (Nat.le_refl _) _ _ _⟩
/-- lex.number, of a text that begins with a digit. -/
theorem number_any (c : UInt8) (r : List UInt8) (hr : (bs (c :: r)).size ≤ 1000000) (hc : lexD c = true) (w : World) (hV : LexVars w) :
    Calls Tryd.prog 27 #[.string (bs (c :: r))] w fun e w' => e = .returned (tokR (if numT (c :: r) then .ok (2, bs (c :: r)) else .error 81)) ∧ Below w.heap.size w w' := by
  have hV2 := hV.later (lx_new w (tokO 0 ⟨#[]⟩ 0))
  obtain ⟨s, hs⟩ : ∃ s, bs (c :: r) = s := ⟨_, rfl⟩
  have hl : s.data.toList = c :: r := by rw [← hs, bs_list]
  have h0 : 0 < s.size := by rw [← lx_size, hl]; simp
  have hc0 : s[0]'h0 = c := by
    have h1 := lx_at h0
    rw [hl] at h1
    exact (Option.some.inj h1).symm
  have hsl : s.toList = c :: r := by rw [Lib.toList_data]; exact hl
  rw [hs] at hr ⊢
  by_cases hz : (c :: r).headD 0 = 48 ∧ c :: r ≠ [48]
  · have hn : numT (c :: r) = false := by unfold numT; rw [decide_eq_true hz.1, decide_eq_true hz.2]; rfl
    rw [hn]
    exact number_nought s h0 (by rw [hc0]; exact hz.1) (by rw [hsl]; exact hz.2) w
  · have hf : ¬ ((s[0]'h0).toNat : Int) = 48 ∨ (((s[0]'h0).toNat : Int) = 48 ∧ s.toList = [48]) := by
      rw [hc0, hsl]
      by_cases h : c = 48
      · subst h
        refine .inr ⟨rfl, ?_⟩
        exact Classical.byContradiction fun h2 => hz ⟨rfl, h2⟩
      · exact .inl fun h2 => h (UInt8.toNat_inj.1 (by show c.toNat = 48; omega))
    have hn : numT (c :: r) = ((c :: r).all lexD && decide (lexN (c :: r) ≤ 9223372036854775807)) := by
      unfold numT
      have h1 : (decide ((c :: r).headD 0 = 48) && decide (c :: r ≠ [48])) = false := by
        rw [← Bool.decide_and, decide_eq_false hz]
      rw [h1]; rfl
    rw [hn]
    cases hg : ((c :: r).all lexD && decide (lexN (c :: r) ≤ 9223372036854775807)) with
    | true =>
      rw [Bool.and_eq_true, decide_eq_true_iff] at hg
      have hp := parse_ok hg.1 hg.2
      exact number_ok s hr h0 hf _ (fun w => lx_parse_ok s (by omega) _ (by rw [hl]; exact hp) w) w
    | false =>
      refine number_bad s h0 hf w ?_
      exact lx_parse_bad s (by omega) (by rw [hl]; exact parse_bad hc hg) _ hV2.syn hV2.rng
end Go.Proofs.YtedhnnechjnnfaaDoor
