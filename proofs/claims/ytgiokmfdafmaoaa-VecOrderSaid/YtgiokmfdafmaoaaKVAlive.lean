import Derived.Test.YtgiokmfdafmaoaaKVLawW
/- VAlive. -/
/- The chapter's first examples. -/
namespace Go.Proofs.Ytgiokmfdafmaoaa
open Go.RowKit Go.Shelf
set_option linter.unusedVariables false
set_option linter.unusedSimpArgs false

section
variable {w : World}
set_option maxRecDepth 100000 in
set_option maxHeartbeats 4000000 in
theorem valive_any (w : World) : Calls Try.prog 9 #[] w fun e w' => e = .returned (.bool true) ∧ Below w.heap.size w w' := by
  obtain ⟨s12, es12⟩ : ∃ s : Int, s = (12 : Int) := ⟨_, rfl⟩
  have Ls12 : Hid (Bd 60 s12) := by show Bd _ _; rw [es12]; exact small_bd rfl (by omega) (by omega)
  have Es12 := Lib.hid es12
  clear es12
  obtain ⟨t12, et12⟩ : ∃ s : Int, s = (12 : Int) := ⟨_, rfl⟩
  have Lt12 : Hid (Bd 60 t12) := by show Bd _ _; rw [et12]; exact small_bd rfl (by omega) (by omega)
  have Et12 := Lib.hid et12
  clear et12
  obtain ⟨m2, em2⟩ : ∃ s : Int, s = (2 : Int) := ⟨_, rfl⟩
  have Lm2 : Hid (Bd 60 m2) := by show Bd _ _; rw [em2]; exact small_bd rfl (by omega) (by omega)
  have Em2 := Lib.hid em2
  clear em2
  obtain ⟨m1, em1⟩ : ∃ s : Int, s = (-1 : Int) := ⟨_, rfl⟩
  have Lm1 : Hid (Bd 60 m1) := by show Bd _ _; rw [em1]; exact small_bd rfl (by omega) (by omega)
  have Em1 := Lib.hid em1
  clear em1
  have Q1 : Hid (sumTo (fun i => iat [1, 2, 3] i * iat [4, -5, 6] i) 3 = s12) := by show _ = s12; rw [Es12.out]; simp [sumTo, iat]
  have Q2 : Hid (∀ i, i < 2 → m2 * iat [1, 0] i + m1 * iat [0, 3] i = iat [2, -3] i) := fun i hi => by
    rw [Em2.out, Em1.out]
    match i, hi with
    | 0, _ => rfl
    | 1, _ => rfl
  have Q3 : Hid (BdV 1 2 (fun i => m2 * iat [1, 0] i + m1 * iat [0, 3] i)) := (iatK_bd (X := [2, -3]) 2 rfl (by decide)).congr fun i hi => (Q2.out i hi).symm
  have KV0 := heldv_nil w
  have KN0 := heldn_nil w
  have KX0 := heldx_nil w
  have D0 := Below.refl w.heap.size w
  try simp only [World.size_alloc] at KV0
  have HV0 := Lib.hid KV0
  try simp only [World.size_alloc] at KN0
  have HN0 := Lib.hid KN0
  try simp only [World.size_alloc] at KX0
  have HX0 := Lib.hid KX0
  have HB0 := Lib.hid D0
  clear KV0 KN0 KX0 D0
  go_enter Try.func9, Try.ntmps9
  go_wp2_with fail
  refine (ofK_any ([1, 2, 3] : List Int) 3 rfl (World.alloc_heap_new _ _) rfl (by decide) (by omega)).mono ?_
  rintro e v1_ ⟨A1_, c1_, L1_, rfl, o, hb⟩
  have Ia := Lib.hid o.v
  have HV1 := Lib.hid ((HV0.out.next (below_then (bxb _ _) hb)).cons (o.v1 (iatK_bd (X := [1, 2, 3]) 3 rfl (by decide)) (by omega) (by omega)))
  have HN1 := Lib.hid (HN0.out.next (below_then (bxb _ _) hb))
  have HX1 := Lib.hid (HX0.out.next (below_then (bxb _ _) hb))
  have HB1 := Lib.hid (below_then HB0.out (below_then (bxb _ _) hb))
  clear o hb HV0 HN0 HX0 HB0
  go_wp2_with fail
  refine (ofK_any ([4, -5, 6] : List Int) 3 rfl (World.alloc_heap_new _ _) rfl (by decide) (by omega)).mono ?_
  rintro e v2_ ⟨A2_, c2_, L2_, rfl, o, hb⟩
  have Ib := Lib.hid o.v
  have HV2 := Lib.hid ((HV1.out.next (below_then (bxb _ _) hb)).cons (o.v1 (iatK_bd (X := [4, -5, 6]) 3 rfl (by decide)) (by omega) (by omega)))
  have HN2 := Lib.hid (HN1.out.next (below_then (bxb _ _) hb))
  have HX2 := Lib.hid (HX1.out.next (below_then (bxb _ _) hb))
  have HB2 := Lib.hid (below_then HB1.out (below_then (bxb _ _) hb))
  clear o hb HV1 HN1 HX1 HB1
  go_wp2_with fail
  refine (dotS (show V1 _ A1_ 3 c1_ L1_ from HV2.out ⟨A1_, 3, c1_, L1_⟩ (.tail _ (.head _))) (show V1 _ A2_ 3 c2_ L2_ from HV2.out ⟨A2_, 3, c2_, L2_⟩ (.head _)) Ia.out Ib.out (by omega) Q1.out).mono ?_
  rintro e v3_ ⟨A3_, n3_, c3_, rfl, o, hb⟩
  have hl := Ls12.out.len o
  have HV3 := Lib.hid (HV2.out.next (below_then hb (bxb _ (zo (decide (s12 < 0)) A3_ n3_ c3_))))
  have HN3 := Lib.hid ((HN2.out.next (below_then hb (bxb _ (zo (decide (s12 < 0)) A3_ n3_ c3_)))).cons (o.nm.below (bxb _ (zo (decide (s12 < 0)) A3_ n3_ c3_))) (show n3_ ≤ 60 by omega))
  have HX3 := Lib.hid ((HX2.out.next (below_then hb (bxb _ (zo (decide (s12 < 0)) A3_ n3_ c3_)))).cons (show BoxZ _ _ (decide (s12 < 0)) A3_ n3_ c3_ from World.alloc_heap_new _ _))
  have HB3 := Lib.hid (below_then HB2.out (below_then hb (bxb _ (zo (decide (s12 < 0)) A3_ n3_ c3_))))
  clear o hb hl HV2 HN2 HX2 HB2
  try unfold zV
  try unfold zv
  go_wp2_with fail
  refine (wofS (m := m2) _ Em2.out (by omega) (by omega)).mono ?_
  rintro e v4_ ⟨A4_, n4_, c4_, rfl, o, hb⟩
  have hl := Lm2.out.len o
  have HV4 := Lib.hid (HV3.out.next hb)
  have HN4 := Lib.hid ((HN3.out.next hb).cons (o.nm) (show n4_ ≤ 60 by omega))
  have HX4 := Lib.hid (HX3.out.next hb)
  have HB4 := Lib.hid (below_then HB3.out hb)
  clear o hb hl HV3 HN3 HX3 HB3
  try unfold zV
  try unfold zv
  go_wp2_with fail
  refine (ofK_any ([1, 0] : List Int) 2 rfl (World.alloc_heap_new _ _) rfl (by decide) (by omega)).mono ?_
  rintro e v5_ ⟨A5_, c5_, L5_, rfl, o, hb⟩
  have Ic := Lib.hid o.v
  have HV5 := Lib.hid ((HV4.out.next (below_then (bxb _ _) hb)).cons (o.v1 (iatK_bd (X := [1, 0]) 2 rfl (by decide)) (by omega) (by omega)))
  have HN5 := Lib.hid (HN4.out.next (below_then (bxb _ _) hb))
  have HX5 := Lib.hid (HX4.out.next (below_then (bxb _ _) hb))
  have HB5 := Lib.hid (below_then HB4.out (below_then (bxb _ _) hb))
  clear o hb HV4 HN4 HX4 HB4
  go_wp2_with fail
  refine (wofS (m := m1) _ Em1.out (by omega) (by omega)).mono ?_
  rintro e v6_ ⟨A6_, n6_, c6_, rfl, o, hb⟩
  have hl := Lm1.out.len o
  have HV6 := Lib.hid (HV5.out.next hb)
  have HN6 := Lib.hid ((HN5.out.next hb).cons (o.nm) (show n6_ ≤ 60 by omega))
  have HX6 := Lib.hid (HX5.out.next hb)
  have HB6 := Lib.hid (below_then HB5.out hb)
  clear o hb hl HV5 HN5 HX5 HB5
  try unfold zV
  try unfold zv
  go_wp2_with fail
  refine (ofK_any ([0, 3] : List Int) 2 rfl (World.alloc_heap_new _ _) rfl (by decide) (by omega)).mono ?_
  rintro e v7_ ⟨A7_, c7_, L7_, rfl, o, hb⟩
  have Id := Lib.hid o.v
  have HV7 := Lib.hid ((HV6.out.next (below_then (bxb _ _) hb)).cons (o.v1 (iatK_bd (X := [0, 3]) 2 rfl (by decide)) (by omega) (by omega)))
  have HN7 := Lib.hid (HN6.out.next (below_then (bxb _ _) hb))
  have HX7 := Lib.hid (HX6.out.next (below_then (bxb _ _) hb))
  have HB7 := Lib.hid (below_then HB6.out (below_then (bxb _ _) hb))
  clear o hb HV6 HN6 HX6 HB6
  go_wp2_with fail
  refine (mixR (show V1 _ A5_ 2 c5_ L5_ from HV7.out ⟨A5_, 2, c5_, L5_⟩ (.tail _ (.head _))) (show V1 _ A7_ 2 c7_ L7_ from HV7.out ⟨A7_, 2, c7_, L7_⟩ (.head _)) (show ZNm _ A4_ n4_ c4_ m2 from (HN7.out ⟨m2, A4_, n4_, c4_⟩ (.tail _ (.head _))).1) (show ZNm _ A6_ n6_ c6_ m1 from (HN7.out ⟨m1, A6_, n6_, c6_⟩ (.head _)).1) (show n4_ ≤ 60 from (HN7.out ⟨m2, A4_, n4_, c4_⟩ (.tail _ (.head _))).2) (show n6_ ≤ 60 from (HN7.out ⟨m1, A6_, n6_, c6_⟩ (.head _)).2) Ic.out Id.out (by omega)).mono ?_
  rintro e v8_ ⟨A8_, c8_, L8_, rfl, o, hb⟩
  have Ix := Lib.hid o.v
  have HV8 := Lib.hid ((HV7.out.next hb).cons (o.v1 (Q3.out) (by omega) (by omega)))
  have HN8 := Lib.hid (HN7.out.next hb)
  have HX8 := Lib.hid (HX7.out.next hb)
  have HB8 := Lib.hid (below_then HB7.out hb)
  clear o hb HV7 HN7 HX7 HB7
  have HV9 := Lib.hid (HV8.out.next (Below.refl _ _).drew)
  have HN9 := Lib.hid (HN8.out.next (Below.refl _ _).drew)
  have HX9 := Lib.hid (HX8.out.next (Below.refl _ _).drew)
  have HB9 := Lib.hid (below_then HB8.out (Below.refl _ _).drew)
  have xs0 := (show BoxZ _ (v3_.heap.size) (decide (s12 < 0)) A3_ n3_ c3_ from HX9.out ⟨v3_.heap.size, (decide (s12 < 0)), A3_, n3_, c3_⟩ (.head _)).c0
  have xs1 := (show BoxZ _ (v3_.heap.size) (decide (s12 < 0)) A3_ n3_ c3_ from HX9.out ⟨v3_.heap.size, (decide (s12 < 0)), A3_, n3_, c3_⟩ (.head _)).c1
  go_wp2_with fail
  go_region_held3 (fun W' => W'.cell? ⟨v3_.heap.size, 0, none⟩ = some (.bool (decide (s12 < 0))) ∧ W'.cell? ⟨v3_.heap.size, 1, none⟩ = some (.slice A3_ n3_ c3_)) (first | (with_reducible exact ⟨xs0, xs1⟩) | go_keep)
    (first
      | (go_at_call 6; refine (rsameT (show V1 _ A8_ 2 c8_ L8_ from HV12.out ⟨A8_, 2, c8_, L8_⟩ (.tail _ (.head _))) (show V1 _ A12_ 2 c12_ L12_ from HV12.out ⟨A12_, 2, c12_, L12_⟩ (.head _)) ((isv_keys Ix.out Iy.out).2 Q2.out)).mono ?_; rintro e v13_ ⟨rfl, hb⟩; have HV13 := Lib.hid (HV12.out.next hb); have HN13 := Lib.hid (HN12.out.next hb); have HX13 := Lib.hid (HX12.out.next hb); have HB13 := Lib.hid (below_then HB12.out hb); clear HV12 HN12 HX12 HB12; clear hb; clear xs0 xs1; have xs0 := (show BoxZ _ (v3_.heap.size) (decide (s12 < 0)) A3_ n3_ c3_ from HX13.out ⟨v3_.heap.size, (decide (s12 < 0)), A3_, n3_, c3_⟩ (.head _)).c0; have xs1 := (show BoxZ _ (v3_.heap.size) (decide (s12 < 0)) A3_ n3_ c3_ from HX13.out ⟨v3_.heap.size, (decide (s12 < 0)), A3_, n3_, c3_⟩ (.head _)).c1)
      | (go_at_call 7; refine (ofK_any ([2, -3] : List Int) 2 rfl (World.alloc_heap_new _ _) rfl (by decide) (by omega)).mono ?_; rintro e v12_ ⟨A12_, c12_, L12_, rfl, o, hb⟩; have Iy := Lib.hid o.v; have HV12 := Lib.hid ((HV11.out.next (below_then (bxb _ _) hb)).cons (o.v1 (iatK_bd (X := [2, -3]) 2 rfl (by decide)) (by omega) (by omega))); have HN12 := Lib.hid (HN11.out.next (below_then (bxb _ _) hb)); have HX12 := Lib.hid (HX11.out.next (below_then (bxb _ _) hb)); have HB12 := Lib.hid (below_then HB11.out (below_then (bxb _ _) hb)); clear o hb HV11 HN11 HX11 HB11; clear xs0 xs1; have xs0 := (show BoxZ _ (v3_.heap.size) (decide (s12 < 0)) A3_ n3_ c3_ from HX12.out ⟨v3_.heap.size, (decide (s12 < 0)), A3_, n3_, c3_⟩ (.head _)).c0; have xs1 := (show BoxZ _ (v3_.heap.size) (decide (s12 < 0)) A3_ n3_ c3_ from HX12.out ⟨v3_.heap.size, (decide (s12 < 0)), A3_, n3_, c3_⟩ (.head _)).c1)
      | (go_at_call 17; refine (sameT (show ZNm _ A3_ n3_ c3_ s12 from (HN10.out ⟨s12, A3_, n3_, c3_⟩ (.tail _ (.tail _ (.tail _ (.head _))))).1) (show ZNm _ A10_ n10_ c10_ t12 from (HN10.out ⟨t12, A10_, n10_, c10_⟩ (.head _)).1) (Nat.le_trans (show n3_ ≤ 60 from (HN10.out ⟨s12, A3_, n3_, c3_⟩ (.tail _ (.tail _ (.tail _ (.head _))))).2) (by omega)) (Nat.le_trans (show n10_ ≤ 60 from (HN10.out ⟨t12, A10_, n10_, c10_⟩ (.head _)).2) (by omega)) (Es12.out.trans Et12.out.symm)).mono ?_; rintro e v11_ ⟨rfl, hb⟩; have HV11 := Lib.hid (HV10.out.next hb); have HN11 := Lib.hid (HN10.out.next hb); have HX11 := Lib.hid (HX10.out.next hb); have HB11 := Lib.hid (below_then HB10.out hb); clear HV10 HN10 HX10 HB10; clear hb; clear xs0 xs1; have xs0 := (show BoxZ _ (v3_.heap.size) (decide (s12 < 0)) A3_ n3_ c3_ from HX11.out ⟨v3_.heap.size, (decide (s12 < 0)), A3_, n3_, c3_⟩ (.head _)).c0; have xs1 := (show BoxZ _ (v3_.heap.size) (decide (s12 < 0)) A3_ n3_ c3_ from HX11.out ⟨v3_.heap.size, (decide (s12 < 0)), A3_, n3_, c3_⟩ (.head _)).c1)
      | (go_at_call 23; refine (wofS (m := t12) _ Et12.out (by omega) (by omega)).mono ?_; rintro e v10_ ⟨A10_, n10_, c10_, rfl, o, hb⟩; have hl := Lt12.out.len o; have HV10 := Lib.hid (HV9.out.next hb); have HN10 := Lib.hid ((HN9.out.next hb).cons (o.nm) (show n10_ ≤ 60 by omega)); have HX10 := Lib.hid (HX9.out.next hb); have HB10 := Lib.hid (below_then HB9.out hb); clear o hb hl HV9 HN9 HX9 HB9; (try unfold zV); (try unfold zv); clear xs0 xs1; have xs0 := (show BoxZ _ (v3_.heap.size) (decide (s12 < 0)) A3_ n3_ c3_ from HX10.out ⟨v3_.heap.size, (decide (s12 < 0)), A3_, n3_, c3_⟩ (.head _)).c0; have xs1 := (show BoxZ _ (v3_.heap.size) (decide (s12 < 0)) A3_ n3_ c3_ from HX10.out ⟨v3_.heap.size, (decide (s12 < 0)), A3_, n3_, c3_⟩ (.head _)).c1))
  go_wp2_with fail
  go_ret
  exact ⟨rfl, HB13.out⟩
end
end Go.Proofs.Ytgiokmfdafmaoaa
