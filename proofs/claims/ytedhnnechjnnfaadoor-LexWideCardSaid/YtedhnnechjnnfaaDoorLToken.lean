/- lex: the token with which a text begins. -/
import Derived.Test.YtedhnnechjnnfaaDoorLSign
import Derived.Test.YtedhnnechjnnfaaDoorLAll
namespace Go.Proofs.YtedhnnechjnnfaaDoor
open Go.RowKit Go.Shelf
set_option linter.unusedVariables false
set_option linter.unusedSimpArgs false

/-- What lex's token answers. -/
def tokenR (l : List UInt8) : Except Int (Int × ByteArray) := match oneT l with
  | .error e => .error e
  | .ok (k, n) => .ok (k, bs (l.take n))
theorem lexW_high (c : UInt8) (h : 128 ≤ c.toNat) : lexW c = false := by
  unfold lexW lexL lexD
  simp
  omega
theorem lexW_parts {c : UInt8} : lexW c = (lexL c || lexD c) := rfl
theorem takeWhile_nil {p : UInt8 → Bool} {l : List UInt8} (h : l.takeWhile p = []) : l = [] ∨ ∃ c t, l = c :: t ∧ p c = false := by
  cases l with
  | nil => exact .inl rfl
  | cons c t =>
    refine .inr ⟨c, t, rfl, ?_⟩
    rw [List.takeWhile_cons] at h
    cases hp : p c with
    | false => rfl
    | true => rw [hp, if_pos rfl] at h; cases h
theorem tokenR_sign {l : List UInt8} (h : l.takeWhile lexW = []) : tokenR l = signR l := by
  unfold tokenR signR
  rcases takeWhile_nil h with rfl | ⟨c, t, rfl, hw⟩
  · rw [signAt_nil]; rfl
  · rw [lexW_parts, Bool.or_eq_false_iff] at hw
    rcases oneT_sign (t := t) hw.1 hw.2 with ⟨s, h1, h2, h3⟩ | ⟨h1, h2⟩
    · rw [h1, h2]
      dsimp only
      rw [← h3, bs_of]
    · rw [h1, h2]
theorem tokenR_word {c : UInt8} {t T : List UInt8} (hl : lexL c = true) (hT : (c :: t).takeWhile lexW = T) : tokenR (c :: t) = if 16 < (bs T).size then .error 82 else .ok (1, bs T) := by
  unfold tokenR
  rw [oneT_word hl, hT, bs_size]
  by_cases h : 16 < T.length
  · rw [if_pos h, if_pos h]
  · rw [if_neg h, if_neg h]
    dsimp only
    rw [← hT, take_takeWhile]
theorem tokenR_number {c : UInt8} {t T : List UInt8} (hl : lexL c = false) (hd : lexD c = true) (hT : (c :: t).takeWhile lexW = T) : tokenR (c :: t) = if numT T then .ok (2, bs T) else .error 81 := by
  unfold tokenR
  rw [oneT_number hl hd, hT]
  cases numT T with
  | false => rfl
  | true =>
    rw [if_pos rfl, if_pos rfl]
    dsimp only
    rw [← hT, take_takeWhile]
theorem head_takeWhile {p : UInt8 → Bool} {l T : List UInt8} (h : l.takeWhile p = T) (hne : T ≠ []) : ∃ c t r, l = c :: t ∧ T = c :: r ∧ p c = true := by
  cases l with
  | nil => exact absurd h.symm hne
  | cons c t =>
    rw [List.takeWhile_cons] at h
    cases hp : p c with
    | false => rw [hp, if_neg (by decide)] at h; exact absurd h.symm hne
    | true => rw [hp, if_pos rfl] at h; exact ⟨c, t, _, rfl, h.symm, hp⟩
set_option maxRecDepth 100000 in
set_option maxHeartbeats 2000000 in
theorem token_any (B : Nat) (s : ByteArray) (hs : s.size ≤ 1000000) (v : Value) (w : World) (hV : LexVars w) (hM : MarksAre B w v) :
    Calls Tryd.prog 17 #[v, .string s] w fun e w' => e = .returned (tokR (tokenR s.data.toList)) ∧ Below w.heap.size w w' := by
  obtain ⟨vb, vd, vp, rfl, mb, md, mp⟩ := hM.out
  obtain ⟨Fb, kb, rfl⟩ := mb.shape
  obtain ⟨Fd, kd, rfl⟩ := md.shape
  obtain ⟨Fp, kp, rfl⟩ := mp.shape
  have hn1 := lx_new w (.cells #[Value.func (.func Fb) #[] kb, Value.func (.func Fd) #[] kd, Value.func (.func Fp) #[] kp] 37)
  obtain ⟨wm, hwm⟩ : ∃ wm, w.alloc (.cells #[Value.func (.func Fb) #[] kb, Value.func (.func Fd) #[] kd, Value.func (.func Fp) #[] kp] 37) = wm := ⟨_, rfl⟩
  have hms : wm.heap.size = w.heap.size + 1 := by rw [← hwm, World.size_alloc]
  have hbm := lx_made w (.cells #[Value.func (.func Fb) #[] kb, Value.func (.func Fd) #[] kd, Value.func (.func Fp) #[] kp] 37)
  rw [hwm] at hn1 hbm
  have hn2 := lx_new wm (tokO 0 ⟨#[]⟩ 0)
  have hbt := lx_made wm (tokO 0 ⟨#[]⟩ 0)
  have hbm2 := lx_block hbm hn2
  rw [hms] at hbt
  have hn3 := lx_then hn1 hn2
  have HV := Lib.hid (hV.later hn3)
  have HD := Lib.hid (md.later hn3)
  have hah := ahead_any B s hs _ lexW _ (mp.later hn3) lexW_high
  rw [← hwm] at hah hbt hbm2 hn3 HV HD
  have HT := Lib.hid hbt
  have HM := Lib.hid hbm2
  have HN := Lib.hid hn3
  generalize hR : tokenR s.data.toList = R
  have HR := Lib.hid hR
  obtain ⟨T, hT⟩ : ∃ T, s.data.toList.takeWhile lexW = T := ⟨_, rfl⟩
  rw [hT] at hah
  have HTT := Lib.hid hT
  have hTs : (bs T).size ≤ 1000000 := by
    rw [bs_size, ← hT]
    have := takeWhile_len lexW s.data.toList
    rw [lx_size] at this
    omega
  obtain ⟨m0, y0⟩ := lx_cells hbm2 (i := 0) (v := .func (.func Fb) #[] kb) rfl
  obtain ⟨m1, y1⟩ := lx_cells hbm2 (i := 1) (v := .func (.func Fd) #[] kd) rfl
  obtain ⟨m2, y2⟩ := lx_cells hbm2 (i := 2) (v := .func (.func Fp) #[] kp) rfl
  clear hM mb md mp hV hR hT hn1 hn2 hn3 hbm hbt hbm2 hms hwm
  go_enter Tryd.func17, Tryd.ntmps17
  go_wp2_with fail
  refine hah.mono ?_
  rintro e w1 ⟨rfl, hb1⟩
  clear m0 y0 m1 y1 m2 y2
  have HT1 := Lib.hid (lx_block HT.out hb1)
  have HM1 := Lib.hid (lx_block HM.out hb1)
  have HN1 := Lib.hid (lx_then HN.out hb1)
  have HV1 := Lib.hid (HV.out.later hb1)
  have HD1 := Lib.hid (HD.out.later hb1)
  obtain ⟨m1, y1⟩ := lx_cells HM1.out (i := 1) (v := .func (.func Fd) #[] kd) rfl
  clear hb1 hah
  cases T with
  | nil =>
    have e1 : (bs []).toList = [] := by rw [Lib.toList_data]; rfl
    have e2 : (bs []).toList.isEmpty = true := by rw [e1]; rfl
    have hsg : signR s.data.toList = R := by rw [← HR.out, tokenR_sign HTT.out]
    have HSG := Lib.hid hsg
    clear hsg
    go_wp2_with fail
    refine (sign_any s _ HV1.out).mono ?_
    rw [HSG.out]
    rintro e w2 ⟨rfl, hb2⟩
    obtain ⟨c0, c1, c2, z0, z1, z2⟩ := tokAt_of (lx_block HT1.out hb2)
    have HB := Lib.hid (lx_then HN1.out hb2)
    clear hb2 HSG HR m1 y1
    cases R with
    | error x =>
      unfold tokR tokV
      go_wp2
      refine bodyPost_ret (v := tokR (.error x)) (by simp [results, Tryd.results17, go_sem, c0, c1, c2, tokV, tokR]) rfl ?_
      exact ⟨rfl, tok_below HB.out (Nat.le_succ _) _ _ _⟩
    | ok kt =>
      obtain ⟨k, t⟩ := kt
      unfold tokR tokV
      go_wp2
      refine bodyPost_ret (v := tokR (.ok (k, t))) (by simp [results, Tryd.results17, go_sem, c0, c1, c2, tokV, tokR]) rfl ?_
      exact ⟨rfl, tok_below HB.out (Nat.le_succ _) _ _ _⟩
  | cons c r =>
    obtain ⟨tx, htx⟩ : ∃ tx, bs (c :: r) = tx := ⟨_, rfl⟩
    have hl : tx.data.toList = c :: r := by rw [← htx, bs_list]
    have h0 : 0 < tx.size := by rw [← lx_size, hl]; simp
    have hc0 : tx[0]'h0 = c := by
      have h1 := lx_at h0
      rw [hl] at h1
      exact (Option.some.inj h1).symm
    have e1 : tx.toList ≠ [] := by rw [Lib.toList_data, hl]; simp
    have e2 : tx.toList.isEmpty = false := List.isEmpty_eq_false_iff.2 e1
    have h0i : (0 : Int) < (tx.size : Int) := by omega
    obtain ⟨c2, t2, r2, q1, q2, q3⟩ := head_takeWhile HTT.out (by simp)
    cases q2
    have h128 : c.toNat < 128 := by
      rcases Nat.lt_or_ge c.toNat 128 with h | h
      · exact h
      · rw [lexW_high c h] at q3; cases q3
    obtain ⟨F9, k9, e9, hE, hF⟩ := HD1.out.out
    cases e9
    have hcd : ∀ W, KeptFrom B w1 W → Calls Tryd.prog Fd (#[.int .i32 (c.toNat : Int)] ++ kd) W fun e W' => e = .returned (.bool (lexD c)) ∧ Below W.heap.size W W' := fun W hW => by
      have h1 := hF W c.toNat (by omega) hW
      rw [runeB_low h128] at h1
      exact h1
    have hw32 : IntKind.i32.wrap (c.toNat : Int) = (c.toNat : Int) := by rw [IntKind.wrap_i32]; omega
    have hci : ((tx[0]'h0).toNat : Int) = (c.toNat : Int) := by rw [hc0]
    have HL1 := Lib.hid q1
    have HTX := Lib.hid htx
    have HTS := Lib.hid (show tx.size ≤ 1000000 by rw [← htx]; exact hTs)
    clear hF q1 hl hc0 h128
    rw [htx]
    clear htx
    cases hdd : lexD c with
    | true =>
      have hll : lexL c = false := by
        have h1 := lexD_iff.1 hdd
        unfold lexL
        simp
        omega
      have hnum : ∀ w, LexVars w → Calls Tryd.prog 27 #[.string tx] w fun e w' => e = .returned (tokR R) ∧ Below w.heap.size w w' := fun w hw => by
        have h1 := number_any c r (by rw [HTX.out]; exact HTS.out) hdd w hw
        have h2 : (if numT (c :: r) then .ok (2, bs (c :: r)) else .error 81) = R := by rw [← HR.out, HL1.out]; exact (tokenR_number hll hdd (by rw [← HL1.out]; exact HTT.out)).symm
        rw [h2, HTX.out] at h1
        exact h1
      have HNU := Lib.hid hnum
      rw [hdd] at hcd
      have HDD := Lib.hid hdd
      clear hnum hdd hll q3
      go_wp2_with fail
      go_region_held3 (fun w' => w'.cell? ⟨w.heap.size, 1, none⟩ = some (.func (.func Fd) #[] kd)) (first
          | exact m1
          | exact lx_cell (w := w1.drew) m1 hb2 (Lib.lt_of_cell m1))
        (first
          | (go_at_fn Fd; refine (hcd w1.drew ⟨Nat.le_refl _, fun _ _ _ => rfl⟩).mono ?_; rintro e w2 ⟨rfl, hb2⟩))
      all_goals
        go_wp2_with fail
        have HV2 := Lib.hid (HV1.out.later (lx_then ((Below.refl w1.heap.size w1).drew) hb2))
        have HT2 := Lib.hid (lx_block HT1.out (lx_then ((Below.refl w1.heap.size w1).drew) hb2))
        have HB2 := Lib.hid (lx_then HN1.out (lx_then ((Below.refl w1.heap.size w1).drew) hb2))
        clear hb2 m1 y1
        refine (HNU.out _ HV2.out).mono ?_
        rintro e w3 ⟨rfl, hb3⟩
        obtain ⟨c0, c1, c2, z0, z1, z2⟩ := tokAt_of (lx_block HT2.out hb3)
        have HB := Lib.hid (lx_then HB2.out hb3)
        clear hb3
        cases R with
        | error x =>
          unfold tokR tokV
          go_wp2
          refine bodyPost_ret (v := tokR (.error x)) (by simp [results, Tryd.results17, go_sem, c0, c1, c2, tokV, tokR]) rfl ?_
          exact ⟨rfl, tok_below HB.out (Nat.le_succ _) _ _ _⟩
        | ok kt =>
          obtain ⟨k, u⟩ := kt
          unfold tokR tokV
          go_wp2
          refine bodyPost_ret (v := tokR (.ok (k, u))) (by simp [results, Tryd.results17, go_sem, c0, c1, c2, tokV, tokR]) rfl ?_
          exact ⟨rfl, tok_below HB.out (Nat.le_succ _) _ _ _⟩
    | false =>
      have hll : lexL c = true := by
        rw [lexW_parts, hdd, Bool.or_false] at q3
        exact q3
      have hwd : ∀ w, Calls Tryd.prog 28 #[.string tx] w fun e w' => e = .returned (tokR R) ∧ Below w.heap.size w w' := fun w => by
        have h1 := word_any tx HTS.out w
        have h2 : (if 16 < (bs (c :: r)).size then .error 82 else .ok (1, bs (c :: r))) = R := by rw [← HR.out, HL1.out]; exact (tokenR_word hll (by rw [← HL1.out]; exact HTT.out)).symm
        rw [HTX.out] at h2
        rw [h2] at h1
        exact h1
      have HWD := Lib.hid hwd
      rw [hdd] at hcd
      clear hwd hdd hll q3
      go_wp2_with fail
      go_region_held3 (fun w' => w'.cell? ⟨w.heap.size, 1, none⟩ = some (.func (.func Fd) #[] kd)) (first
          | exact m1
          | exact lx_cell (w := w1.drew) m1 hb2 (Lib.lt_of_cell m1))
        (first
          | (go_at_fn Fd; refine (hcd w1.drew ⟨Nat.le_refl _, fun _ _ _ => rfl⟩).mono ?_; rintro e w2 ⟨rfl, hb2⟩))
      all_goals
        go_wp2_with fail
        have HV2 := Lib.hid (HV1.out.later (lx_then ((Below.refl w1.heap.size w1).drew) hb2))
        have HT2 := Lib.hid (lx_block HT1.out (lx_then ((Below.refl w1.heap.size w1).drew) hb2))
        have HB2 := Lib.hid (lx_then HN1.out (lx_then ((Below.refl w1.heap.size w1).drew) hb2))
        clear hb2 m1 y1
        refine (HWD.out _).mono ?_
        rintro e w3 ⟨rfl, hb3⟩
        obtain ⟨c0, c1, c2, z0, z1, z2⟩ := tokAt_of (lx_block HT2.out hb3)
        have HB := Lib.hid (lx_then HB2.out hb3)
        clear hb3
        cases R with
        | error x =>
          unfold tokR tokV
          go_wp2
          refine bodyPost_ret (v := tokR (.error x)) (by simp [results, Tryd.results17, go_sem, c0, c1, c2, tokV, tokR]) rfl ?_
          exact ⟨rfl, tok_below HB.out (Nat.le_succ _) _ _ _⟩
        | ok kt =>
          obtain ⟨k, u⟩ := kt
          unfold tokR tokV
          go_wp2
          refine bodyPost_ret (v := tokR (.ok (k, u))) (by simp [results, Tryd.results17, go_sem, c0, c1, c2, tokV, tokR]) rfl ?_
          exact ⟨rfl, tok_below HB.out (Nat.le_succ _) _ _ _⟩
end Go.Proofs.YtedhnnechjnnfaaDoor
