import Derived.Test.YtjipdfebehcggaaGreatDoorZZTexts
/- ZNames. -/
/- The law WholeNames. -/
namespace Go.Proofs.YtjipdfebehcggaaGreatDoor
open Go.RowKit Go.Shelf
set_option linter.unusedVariables false
set_option linter.unusedSimpArgs false

theorem top_wd : (9223372036854775808 : Nat) < B64 := by rw [B64_eq]; omega
theorem int_top (W : World) (T : TypeId) : Calls Tryz.prog 6 #[.agg #[.bool false, .slice (some ⟨W.heap.size, 0, none⟩) 1 1]] (W.alloc (.cells #[.int .u64 9223372036854775808] T)) (IAns (W.alloc (.cells #[.int .u64 9223372036854775808] T)) 0 4) := by
  have h := intZ_any (p := false) (w := W.alloc (.cells #[.int .u64 9223372036854775808] T)) (a := [9223372036854775808]) (A := some ⟨W.heap.size, 0, none⟩) (na := 1) (ca := 1) ⟨rd_new1 W 9223372036854775808 T top_wd, by omega, by omega, by omega⟩
  have e : intE false [9223372036854775808] = 4 := by decide
  have e2 : intZ false [9223372036854775808] = 0 := by unfold intZ; rw [e]; rfl
  rw [e, e2] at h
  exact h
theorem int_low (W : World) (T : TypeId) : Calls Tryz.prog 6 #[.agg #[.bool true, .slice (some ⟨W.heap.size, 0, none⟩) 1 1]] (W.alloc (.cells #[.int .u64 9223372036854775808] T)) (IAns (W.alloc (.cells #[.int .u64 9223372036854775808] T)) (-9223372036854775808) 0) := by
  have h := intZ_any (p := true) (w := W.alloc (.cells #[.int .u64 9223372036854775808] T)) (a := [9223372036854775808]) (A := some ⟨W.heap.size, 0, none⟩) (na := 1) (ca := 1) ⟨rd_new1 W 9223372036854775808 T top_wd, by omega, by omega, by omega⟩
  have e : intE true [9223372036854775808] = 0 := by decide
  have e2 : intZ true [9223372036854775808] = -9223372036854775808 := by unfold intZ; rw [e]; decide
  rw [e, e2] at h
  exact h
theorem dozen : textB 12 = ⟨#[49, 50]⟩ := by
  have h := textB_num (s := ⟨#[49, 50]⟩) (by decide)
  rw [show numV (⟨#[49, 50]⟩ : ByteArray).data.toList = 12 from by decide] at h
  exact h
theorem dozen_text : textZE (decide ((-12 : Int) < 0)) (limbs (-12 : Int).natAbs) = 0 ∧ textZS (decide ((-12 : Int) < 0)) (limbs (-12 : Int).natAbs) = ⟨#[45, 49, 50]⟩ := by
  have hl : (textL 12).length = 2 := by
    have h := congrArg ByteArray.size dozen
    rw [textB_size] at h
    exact h
  have e : textZE (decide ((-12 : Int) < 0)) (limbs (-12 : Int).natAbs) = 0 := by
    unfold textZE
    rw [if_pos (mayZ_num _)]
    exact textE_ok (may_limbs _) (by rw [val_limbs, show (-12 : Int).natAbs = 12 from rfl, hl]; omega)
  refine ⟨e, ?_⟩
  rw [(textZ_form e).2, if_pos (by decide), show (-12 : Int).natAbs = 12 from rfl, dozen]
  rfl
theorem dozen_back : parseZE ⟨#[45, 49, 50]⟩ = 0 ∧ parseZ ⟨#[45, 49, 50]⟩ = -12 := by
  have h := text_back dozen_text.1
  rw [dozen_text.2] at h
  exact ⟨h.1, h.2.1⟩
theorem nought_back : parseZE ⟨#[45, 48]⟩ = 8 := parseE_48 (by decide) (by decide)
theorem floor_none {W : World} {A : Option Addr} {na ca : Nat} (h : ZNm W A na ca 1) (l : na ≤ 400) : Calls Tryz.prog 11 #[.agg #[.bool (decide ((1 : Int) < 0)), .slice A na ca], .agg #[.bool false, .slice none 0 0]] W (ZAns W 0 30) := by
  have h2 := floorZ_any (p := decide ((1 : Int) < 0)) (q := false) (w := W) (b := []) (A2 := none) (nb := 0) (cb := 0) ⟨h.rd, rd_nil W none, l, by omega, h.nc, h.cm, by omega, by omega⟩
  have e : quoE (decide ((1 : Int) < 0)) (limbs (1 : Int).natAbs) false [] = 30 := by
    unfold quoE
    rw [if_pos (twoM_iff.2 ⟨mayZ_num 1, rfl⟩), if_pos rfl]
  have e2 : quoZ Int.fdiv (decide ((1 : Int) < 0)) (limbs (1 : Int).natAbs) false [] = 0 := by unfold quoZ; rw [e]; rfl
  rw [e, e2] at h2
  exact h2
theorem check_none (W : World) : Calls Tryz.prog 14 #[.agg #[.bool true, .slice none 0 0]] W fun e w' => e = .returned (.int .i64 8) ∧ Below W.heap.size W w' := by
  have h := checkZ_any (p := true) (w := W) (a := []) (A := none) (na := 0) (ca := 0) ⟨rd_nil W none, by omega, by omega, by omega⟩
  rw [show oneE true [] = 8 from rfl] at h
  exact h
theorem ofM {m k : Int} (W : World) (hm : m = k) (h1 : -1000 ≤ k) (h2 : k ≤ 1000) : Calls Tryz.prog 8 #[.int .i64 k] W (ZOne W m) := by
  subst hm
  exact wOf_any m (by omega) (by omega)
theorem textM {m : Int} {A : Option Addr} {na ca : Nat} {W : World} (hm : m = -12) (h : ZNm W A na ca m) (l : na ≤ 400) : Calls Tryz.prog 7 #[.agg #[.bool (decide (m < 0)), .slice A na ca]] W fun e w' => e = .returned (.tuple #[.string ⟨#[45, 49, 50]⟩, .int .i64 0]) ∧ Below W.heap.size W w' := by
  subst hm
  have ht := textN h l
  rw [dozen_text.1, dozen_text.2] at ht
  exact ht
theorem parseM {m : Int} (W : World) (hm : m = -12) : Calls Tryz.prog 9 #[.string ⟨#[45, 49, 50]⟩] W (ZAns W m 0) := by
  subst hm
  have h := parseZ_any ⟨#[45, 49, 50]⟩ W (by decide)
  rw [dozen_back.1, dozen_back.2] at h
  exact h
theorem parseO {z : Int} (W : World) (hz : z = 0) : Calls Tryz.prog 9 #[.string ⟨#[45, 48]⟩] W (ZAns W z 8) := by
  subst hz
  have h := parseZ_any ⟨#[45, 48]⟩ W (by decide)
  rw [nought_back, parseZE_no (by rw [nought_back]; decide)] at h
  exact h
theorem negO {z : Int} (W : World) (hz : z = 0) : Calls Tryz.prog 10 #[.agg #[.bool false, .slice none 0 0]] W (ZAns W z 0) := by
  subst hz
  have h := negN (zero_znm W) (Nat.zero_le _)
  rw [show decide ((0 : Int) < 0) = false from decide_eq_false (by omega)] at h
  exact h
theorem floorO {z o : Int} {A : Option Addr} {na ca : Nat} {W : World} (ho : o = 1) (hz : z = 0) (h : ZNm W A na ca o) (l : na ≤ 400) : Calls Tryz.prog 11 #[.agg #[.bool (decide (o < 0)), .slice A na ca], .agg #[.bool false, .slice none 0 0]] W (ZAns W z 30) := by
  subst ho
  subst hz
  exact floor_none h l
set_option maxRecDepth 100000 in
set_option maxHeartbeats 20000000 in
theorem namesZ_any (w : World) : Calls Tryz.prog 3 #[] w fun e w' => e = .returned (.bool true) ∧ Below w.heap.size w w' := by
  obtain ⟨m, hm⟩ : ∃ m : Int, m = -12 := ⟨_, rfl⟩
  obtain ⟨o, ho⟩ : ∃ m : Int, m = 1 := ⟨_, rfl⟩
  obtain ⟨z, hz⟩ : ∃ m : Int, m = 0 := ⟨_, rfl⟩
  have Lm : Hid (Bd 1 m) := by show m.natAbs < B64 ^ 1; rw [Nat.pow_one, B64_eq]; omega
  have Lo : Hid (Bd 1 o) := by show o.natAbs < B64 ^ 1; rw [Nat.pow_one, B64_eq]; omega
  have Lz : Hid (Bd 1 z) := by show z.natAbs < B64 ^ 1; rw [Nat.pow_one, B64_eq]; omega
  have HM := Lib.hid hm
  have HO := Lib.hid ho
  have HZ := Lib.hid hz
  have HH0 := Lib.hid (held_nil w)
  have HB0 := Lib.hid (Below.refl w.heap.size w)
  clear hm ho hz
  go_enter Tryz.func3, Tryz.ntmps3
  go_wp2_with fail
  have hA := bxb w (.cells #[.int .u64 9223372036854775808] 25)
  have HH1 := Lib.hid (HH0.out.next hA)
  have HB1 := Lib.hid (below_then HB0.out hA)
  clear hA HH0 HB0
  refine (int_top w _).mono ?_
  rintro e v2_ ⟨rfl, hb⟩
  have HH2 := Lib.hid (HH1.out.next hb)
  have HB2 := Lib.hid (below_then HB1.out hb)
  clear hb HH1 HB1
  go_wp2_with fail
  have hA := bxb v2_ (.cells #[.int .u64 9223372036854775808] 25)
  have HH3 := Lib.hid (HH2.out.next hA)
  have HB3 := Lib.hid (below_then HB2.out hA)
  clear hA HH2 HB2
  refine (int_low v2_ _).mono ?_
  rintro e v4_ ⟨rfl, hb⟩
  have HH4 := Lib.hid (HH3.out.next hb)
  have HB4 := Lib.hid (below_then HB3.out hb)
  clear hb HH3 HB3
  go_wp2_with fail
  refine (ofM _ HM.out (by omega) (by omega)).mono ?_
  rintro e ua_ ⟨Pa, pa, qa, rfl, ooa, hb⟩
  have Ha := Lib.hid ooa.nm
  have lla : pa ≤ 400 := by have := Lm.out.len ooa; omega
  have hbb := hb
  clear hb ooa
  unfold zV zv
  have hA := hbb
  have HH5 := Lib.hid (HH4.out.next hA)
  have HB5 := Lib.hid (below_then HB4.out hA)
  clear hA HH4 HB4
  clear hbb
  go_wp2_with fail
  refine (textM HM.out Ha.out lla).mono ?_
  rintro e v6_ ⟨rfl, hb⟩
  have HH6 := Lib.hid (HH5.out.next hb)
  have HB6 := Lib.hid (below_then HB5.out hb)
  clear hb HH5 HB5
  go_wp2_with fail
  refine (parseO _ HZ.out).mono ?_
  rintro e v7_ ⟨N7, n7, d7, rfl, o7, hb⟩
  have HL := Lib.hid (Lz.out.len o7)
  have HH7 := Lib.hid ((HH6.out.next (below_then hb (bxb _ (zo (decide (z < 0)) N7 n7 d7)))).cons (It.fresh o7 (by have := HL.out; omega)))
  have HB7 := Lib.hid (below_then HB6.out (below_then hb (bxb _ (zo (decide (z < 0)) N7 n7 d7))))
  clear hb o7 HL HH6 HB6
  unfold zV zv
  go_wp2_with fail
  refine (parseM _ HM.out).mono ?_
  rintro e v8_ ⟨N8, n8, d8, rfl, o8, hb⟩
  have HL := Lib.hid (Lm.out.len o8)
  have HH8 := Lib.hid ((HH7.out.next (below_then hb (bxb _ (zo (decide (m < 0)) N8 n8 d8)))).cons (It.fresh o8 (by have := HL.out; omega)))
  have HB8 := Lib.hid (below_then HB7.out (below_then hb (bxb _ (zo (decide (m < 0)) N8 n8 d8))))
  clear hb o8 HL HH7 HB7
  unfold zV zv
  go_wp2_with fail
  refine (negO _ HZ.out).mono ?_
  rintro e v9_ ⟨N9, n9, d9, rfl, o9, hb⟩
  have HL := Lib.hid (Lz.out.len o9)
  have HH9 := Lib.hid ((HH8.out.next (below_then hb (bxb _ (zo (decide (z < 0)) N9 n9 d9)))).cons (It.fresh o9 (by have := HL.out; omega)))
  have HB9 := Lib.hid (below_then HB8.out (below_then hb (bxb _ (zo (decide (z < 0)) N9 n9 d9))))
  clear hb o9 HL HH8 HB8
  unfold zV zv
  go_wp2_with fail
  refine (ofM _ HO.out (by omega) (by omega)).mono ?_
  rintro e ub_ ⟨Pb, pb, qb, rfl, oob, hb⟩
  have Hb := Lib.hid oob.nm
  have llb : pb ≤ 400 := by have := Lo.out.len oob; omega
  have hbb := hb
  clear hb oob
  unfold zV zv
  have hA := hbb
  have HH10 := Lib.hid (HH9.out.next hA)
  have HB10 := Lib.hid (below_then HB9.out hA)
  clear hA HH9 HB9
  clear hbb
  go_wp2_with fail
  refine (floorO HO.out HZ.out Hb.out llb).mono ?_
  rintro e v11_ ⟨N11, n11, d11, rfl, o11, hb⟩
  have HL := Lib.hid (Lz.out.len o11)
  have HH11 := Lib.hid ((HH10.out.next (below_then hb (bxb _ (zo (decide (z < 0)) N11 n11 d11)))).cons (It.fresh o11 (by have := HL.out; omega)))
  have HB11 := Lib.hid (below_then HB10.out (below_then hb (bxb _ (zo (decide (z < 0)) N11 n11 d11))))
  clear hb o11 HL HH10 HB10
  unfold zV zv
  have xm20 := (HH11.out _ (.tail _ (.tail _ (.head _)))).b.c0
  have xm21 := (HH11.out _ (.tail _ (.tail _ (.head _)))).b.c1
  have HHd := Lib.hid (HH11.out.next (Below.refl _ _).drew)
  have HBd := Lib.hid (below_then HB11.out (Below.refl _ _).drew)
  go_wp2_with fail
  go_region_held3 (fun W' => W'.cell? ⟨v8_.heap.size, 0, none⟩ = some (.bool (decide (m < 0))) ∧ W'.cell? ⟨v8_.heap.size, 1, none⟩ = some (.slice N8 n8 d8)) (first | (refine ⟨?_, ?_⟩ <;> exact cell_far (cell_far (by assumption) (by omega) _) (by omega) _) | go_keep)
    (first
      | (go_at_call 8; refine (ofM _ HM.out (by omega) (by omega)).mono ?_; rintro e u1 ⟨A8, k8, c8, rfl, o8, hb8⟩; have ll8 : k8 ≤ 400 := (by have := Lm.out.len o8; omega); have it := (HHd.out _ (.tail _ (.tail _ (.head _)))).below hb8; have HH8 := Lib.hid (HHd.out.next hb8); have HB8 := Lib.hid (below_then HBd.out hb8); clear xm20 xm21; have xm20 := it.b.c0; have xm21 := it.b.c1; unfold zV zv)
      | (go_at_call 12; refine (sameT it.m o8.nm it.l ll8 rfl).mono ?_; rintro e u2 ⟨rfl, hb9⟩; have HH9 := Lib.hid (HH8.out.next hb9); have HB9 := Lib.hid (below_then HB8.out hb9); have it2 := it.below hb9; clear xm20 xm21; have xm20 := it2.b.c0; have xm21 := it2.b.c1))
  all_goals
    clear xm20 xm21
    have xz20 := (HH9.out _ (.tail _ (.head _))).b.c0
    have xz21 := (HH9.out _ (.tail _ (.head _))).b.c1
    go_wp2_with fail
    refine (zalive_any _).mono ?_
    rintro e u3 ⟨rfl, hb⟩
    have HH10 := Lib.hid (HH9.out.next hb)
    have HB10 := Lib.hid (below_then HB9.out hb)
    clear hb xz20 xz21
    have xz20 := (HH10.out _ (.tail _ (.head _))).b.c0
    have xz21 := (HH10.out _ (.tail _ (.head _))).b.c1
    go_wp2_with fail
    refine (sameT0 (HH10.out _ (.tail _ (.head _))).m (HH10.out _ (.tail _ (.head _))).l HZ.out).mono ?_
    rintro e u4 ⟨rfl, hb⟩
    have HB11 := Lib.hid (below_then HB10.out hb)
    clear hb xz20 xz21
    go_wp2_with fail
    refine (check_none _).mono ?_
    rintro e u5 ⟨rfl, hb⟩
    have HB12 := Lib.hid (below_then HB11.out hb)
    clear hb
    go_wp2
    go_ret
    exact ⟨by simp, HB12.out⟩
end Go.Proofs.YtjipdfebehcggaaGreatDoor
