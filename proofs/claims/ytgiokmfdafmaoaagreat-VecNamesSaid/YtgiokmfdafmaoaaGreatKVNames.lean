import Derived.Test.YtgiokmfdafmaoaaGreatKVPrimeL
/- VNames. -/
/- The law VecNames. -/
namespace Go.Proofs.YtgiokmfdafmaoaaGreat
open Go.RowKit Go.Shelf
set_option linter.unusedVariables false
set_option linter.unusedSimpArgs false

theorem gcdK {X : List Int} (n : Nat) {g : Nat} (h : gcdTo (iat X) n = g) : gcdTo (iat X) n = g := h
set_option maxRecDepth 100000 in
set_option maxHeartbeats 4000000 in
theorem vnames_any (w : World) : Calls Tryz.prog 3 #[] w fun e w' => e = .returned (.bool true) ∧ Below w.heap.size w w' := by
  obtain ⟨gc, eg⟩ : ∃ g, g = 2 := ⟨_, rfl⟩
  obtain ⟨gz, ez⟩ : ∃ g, g = 0 := ⟨_, rfl⟩
  have Lgc : Hid (gc < B64 ^ 60) := by show gc < _; rw [eg]; exact Nat.lt_of_lt_of_le (show 2 < B64 ^ 1 by rw [Nat.pow_one, B64_eq]; omega) (Nat.pow_le_pow_right B64_pos (by omega))
  have Lgz : Hid (gz < B64 ^ 60) := by show gz < _; rw [ez]; exact Nat.pow_pos B64_pos
  have G1 : Hid (gcdTo (iat [4, -6, 0]) 3 = gc) := by show _ = gc; rw [eg]; simp [gcdTo, iat]
  have G2 : Hid (gcdTo (iat [0, 0]) 2 = gz) := by show _ = gz; rw [ez]; simp [gcdTo, iat]
  have G3 : Hid (firstTo (fun i => sgn (iat [1, 2] i - iat [1, 3] i)) 2 = -1) := by show _ = _; simp [firstTo, iat, sgn]
  have Qp : Hid (∀ i, i < 3 → primeV (iat [4, -6, 0]) 3 i = iat [2, -3, 0] i) := fun i hi => by
    unfold primeV
    rw [G1.out, eg]
    match i, hi with
    | 0, _ => rfl
    | 1, _ => rfl
    | 2, _ => rfl
  have Bp : Hid (BdV 1 3 (primeV (iat [4, -6, 0]) 3)) := prime_bd (iatK_bd (X := [4, -6, 0]) 3 rfl (by decide))
  have E2 := Lib.hid eg
  have E0 := Lib.hid ez
  clear eg ez
  have hmk := fun W => run_makeV 28 Tryz.underlying28 65 (by omega) W
  have hmk2 : ∀ W : World, _ := fun W => hmk W
  simp only [show ((65 : Nat) : Int) = 65 from rfl] at hmk
  clear hmk2
  have KV0 := heldv_nil w
  have KN0 := heldn_nil w
  have KX0 := heldx_nil w
  have D0 := Below.refl w.heap.size w
  try simp only [World.size_alloc] at KV0
  have HV0 := Lib.hid KV0
  try simp only [World.size_alloc] at KN0
  have HN0 := Lib.hid KN0
  try simp only [World.size_alloc] at KX0
  have HX0 := Lib.hid KX0
  have HB0 := Lib.hid D0
  clear KV0 KN0 KX0 D0
  go_enter Tryz.func3, Tryz.ntmps3
  go_wp2_with fail
  refine (ofK_any ([4, -6, 0] : List Int) 3 rfl (World.alloc_heap_new _ _) rfl (by decide) (by omega)).mono ?_
  rintro e v1_ ⟨A1_, c1_, L1_, rfl, o, hb⟩
  have Ia := Lib.hid o.v
  have HV1 := Lib.hid ((HV0.out.next (below_then (bxb _ _) hb)).cons (o.v1 (iatK_bd (X := [4, -6, 0]) 3 rfl (by decide)) (by omega) (by omega)))
  have HN1 := Lib.hid (HN0.out.next (below_then (bxb _ _) hb))
  have HX1 := Lib.hid (HX0.out.next (below_then (bxb _ _) hb))
  have HB1 := Lib.hid (below_then HB0.out (below_then (bxb _ _) hb))
  clear o hb HV0 HN0 HX0 HB0
  go_wp2_with fail
  refine (G1.out ▸ contentR (show V1 _ A1_ 3 c1_ L1_ from HV1.out ⟨A1_, 3, c1_, L1_⟩ (.head _)) Ia.out (by omega)).mono ?_
  rintro e v2_ ⟨A2_, n2_, c2_, rfl, o, hb⟩
  have hl := o.nm.len Lgc.out
  have HV2 := Lib.hid (HV1.out.next hb)
  have HN2 := Lib.hid ((HN1.out.next hb).cons (nat_nm o.nm) (show n2_ ≤ 60 by omega))
  have HX2 := Lib.hid (HX1.out.next hb)
  have HB2 := Lib.hid (below_then HB1.out hb)
  have Zgc : Hid (n2_ = 0 ↔ gc = 0) := o.nm.zero
  have Rgc : Hid (A2_ = A2_) := rfl
  clear o hb hl HV1 HN1 HX1 HB1
  go_wp2_with fail
  refine (ofK_any ([4, -6, 0] : List Int) 3 rfl (World.alloc_heap_new _ _) rfl (by decide) (by omega)).mono ?_
  rintro e v3_ ⟨A3_, c3_, L3_, rfl, o, hb⟩
  have Ib := Lib.hid o.v
  have HV3 := Lib.hid ((HV2.out.next (below_then (bxb _ _) hb)).cons (o.v1 (iatK_bd (X := [4, -6, 0]) 3 rfl (by decide)) (by omega) (by omega)))
  have HN3 := Lib.hid (HN2.out.next (below_then (bxb _ _) hb))
  have HX3 := Lib.hid (HX2.out.next (below_then (bxb _ _) hb))
  have HB3 := Lib.hid (below_then HB2.out (below_then (bxb _ _) hb))
  clear o hb HV2 HN2 HX2 HB2
  go_wp2_with fail
  refine (primeR (show V1 _ A3_ 3 c3_ L3_ from HV3.out ⟨A3_, 3, c3_, L3_⟩ (.head _)) Ib.out (by omega)).mono ?_
  rintro e v4_ ⟨A4_, c4_, L4_, rfl, o, hb⟩
  have Ip := Lib.hid o.v
  have HV4 := Lib.hid ((HV3.out.next hb).cons (o.v1 (Bp.out) (by omega) (by omega)))
  have HN4 := Lib.hid (HN3.out.next hb)
  have HX4 := Lib.hid (HX3.out.next hb)
  have HB4 := Lib.hid (below_then HB3.out hb)
  clear o hb HV3 HN3 HX3 HB3
  go_wp2_with fail
  refine (ofK_any ([0, 0] : List Int) 2 rfl (World.alloc_heap_new _ _) rfl (by decide) (by omega)).mono ?_
  rintro e v5_ ⟨A5_, c5_, L5_, rfl, o, hb⟩
  have Iz := Lib.hid o.v
  have HV5 := Lib.hid ((HV4.out.next (below_then (bxb _ _) hb)).cons (o.v1 (iatK_bd (X := [0, 0]) 2 rfl (by decide)) (by omega) (by omega)))
  have HN5 := Lib.hid (HN4.out.next (below_then (bxb _ _) hb))
  have HX5 := Lib.hid (HX4.out.next (below_then (bxb _ _) hb))
  have HB5 := Lib.hid (below_then HB4.out (below_then (bxb _ _) hb))
  clear o hb HV4 HN4 HX4 HB4
  go_wp2_with fail
  refine (G2.out ▸ contentR (show V1 _ A5_ 2 c5_ L5_ from HV5.out ⟨A5_, 2, c5_, L5_⟩ (.head _)) Iz.out (by omega)).mono ?_
  rintro e v6_ ⟨A6_, n6_, c6_, rfl, o, hb⟩
  have hl := o.nm.len Lgz.out
  have HV6 := Lib.hid (HV5.out.next hb)
  have HN6 := Lib.hid ((HN5.out.next hb).cons (nat_nm o.nm) (show n6_ ≤ 60 by omega))
  have HX6 := Lib.hid (HX5.out.next hb)
  have HB6 := Lib.hid (below_then HB5.out hb)
  have Zgz : Hid (n6_ = 0 ↔ gz = 0) := o.nm.zero
  have Rgz : Hid (A6_ = A6_) := rfl
  clear o hb hl HV5 HN5 HX5 HB5
  go_wp2_with fail
  refine (ofK_any ([1, 2] : List Int) 2 rfl (World.alloc_heap_new _ _) rfl (by decide) (by omega)).mono ?_
  rintro e v7_ ⟨A7_, c7_, L7_, rfl, o, hb⟩
  have Ic := Lib.hid o.v
  have HV7 := Lib.hid ((HV6.out.next (below_then (bxb _ _) hb)).cons (o.v1 (iatK_bd (X := [1, 2]) 2 rfl (by decide)) (by omega) (by omega)))
  have HN7 := Lib.hid (HN6.out.next (below_then (bxb _ _) hb))
  have HX7 := Lib.hid (HX6.out.next (below_then (bxb _ _) hb))
  have HB7 := Lib.hid (below_then HB6.out (below_then (bxb _ _) hb))
  clear o hb HV6 HN6 HX6 HB6
  go_wp2_with fail
  refine (ofK_any ([1, 3] : List Int) 2 rfl (World.alloc_heap_new _ _) rfl (by decide) (by omega)).mono ?_
  rintro e v8_ ⟨A8_, c8_, L8_, rfl, o, hb⟩
  have Id := Lib.hid o.v
  have HV8 := Lib.hid ((HV7.out.next (below_then (bxb _ _) hb)).cons (o.v1 (iatK_bd (X := [1, 3]) 2 rfl (by decide)) (by omega) (by omega)))
  have HN8 := Lib.hid (HN7.out.next (below_then (bxb _ _) hb))
  have HX8 := Lib.hid (HX7.out.next (below_then (bxb _ _) hb))
  have HB8 := Lib.hid (below_then HB7.out (below_then (bxb _ _) hb))
  clear o hb HV7 HN7 HX7 HB7
  go_wp2_with fail
  refine (cmpS (show V1 _ A7_ 2 c7_ L7_ from HV8.out ⟨A7_, 2, c7_, L7_⟩ (.tail _ (.head _))) (show V1 _ A8_ 2 c8_ L8_ from HV8.out ⟨A8_, 2, c8_, L8_⟩ (.head _)) Ic.out Id.out (by omega) G3.out).mono ?_
  rintro e v9_ ⟨rfl, hb⟩
  have HV9 := Lib.hid (HV8.out.next hb)
  have HN9 := Lib.hid (HN8.out.next hb)
  have HX9 := Lib.hid (HX8.out.next hb)
  have HB9 := Lib.hid (below_then HB8.out hb)
  clear HV8 HN8 HX8 HB8
  clear hb
  go_wp2_with fail
  refine (ofK_any ([1] : List Int) 1 rfl (World.alloc_heap_new _ _) rfl (by decide) (by omega)).mono ?_
  rintro e v10_ ⟨A10_, c10_, L10_, rfl, o, hb⟩
  have Ie := Lib.hid o.v
  have HV10 := Lib.hid ((HV9.out.next (below_then (bxb _ _) hb)).cons (o.v1 (iatK_bd (X := [1]) 1 rfl (by decide)) (by omega) (by omega)))
  have HN10 := Lib.hid (HN9.out.next (below_then (bxb _ _) hb))
  have HX10 := Lib.hid (HX9.out.next (below_then (bxb _ _) hb))
  have HB10 := Lib.hid (below_then HB9.out (below_then (bxb _ _) hb))
  clear o hb HV9 HN9 HX9 HB9
  go_wp2_with fail
  refine (ofK_any ([1, 2] : List Int) 2 rfl (World.alloc_heap_new _ _) rfl (by decide) (by omega)).mono ?_
  rintro e v11_ ⟨A11_, c11_, L11_, rfl, o, hb⟩
  have If := Lib.hid o.v
  have HV11 := Lib.hid ((HV10.out.next (below_then (bxb _ _) hb)).cons (o.v1 (iatK_bd (X := [1, 2]) 2 rfl (by decide)) (by omega) (by omega)))
  have HN11 := Lib.hid (HN10.out.next (below_then (bxb _ _) hb))
  have HX11 := Lib.hid (HX10.out.next (below_then (bxb _ _) hb))
  have HB11 := Lib.hid (below_then HB10.out (below_then (bxb _ _) hb))
  clear o hb HV10 HN10 HX10 HB10
  go_wp2_with fail
  have hE : twoVE L10_ L11_ = 70 := by unfold twoVE; rw [isv_mayR Ie.out (by omega), isv_mayR If.out (by omega), Ie.out.len, If.out.len]; rfl
  have hW := Lib.hid (addW (show V1 _ A10_ 1 c10_ L10_ from HV11.out ⟨A10_, 1, c10_, L10_⟩ (.tail _ (.head _))) (show V1 _ A11_ 2 c11_ L11_ from HV11.out ⟨A11_, 2, c11_, L11_⟩ (.head _)))
  rw [hE] at hW
  clear hE
  refine hW.out.mono ?_
  rintro e v12_ ⟨A12_, n12_, c12_, rfl, hb⟩
  have HV12 := Lib.hid (HV11.out.next hb)
  have HN12 := Lib.hid (HN11.out.next hb)
  have HX12 := Lib.hid (HX11.out.next hb)
  have HB12 := Lib.hid (below_then HB11.out hb)
  clear HV11 HN11 HX11 HB11
  clear hb hW
  go_wp2_with fail
  have hdn : Nm _ _ _ _ ((gc : Int)).natAbs := (show ZNm _ A2_ n2_ c2_ (gc : Int) from (HN12.out ⟨(gc : Int), A2_, n2_, c2_⟩ (.tail _ (.head _))).1)
  refine (same_eq _ _ _ _ _ _ _ _ _ (hdn.below (bxb _ _)) (nmK 2 (by omega) (by rw [B64_eq]; omega)) (Nat.le_trans (show n2_ ≤ 60 from (HN12.out ⟨(gc : Int), A2_, n2_, c2_⟩ (.tail _ (.head _))).2) (by omega)) (by omega) (by rw [E2.out]; rfl)).mono ?_
  rintro e v13_ ⟨rfl, hb⟩
  have HV13 := Lib.hid (HV12.out.next (below_then (bxb _ _) hb))
  have HN13 := Lib.hid (HN12.out.next (below_then (bxb _ _) hb))
  have HX13 := Lib.hid (HX12.out.next (below_then (bxb _ _) hb))
  have HB13 := Lib.hid (below_then HB12.out (below_then (bxb _ _) hb))
  clear HV12 HN12 HX12 HB12
  clear hb
  clear hdn
  go_wp2_with fail
  refine (ofK_any ([2, -3, 0] : List Int) 3 rfl (World.alloc_heap_new _ _) rfl (by decide) (by omega)).mono ?_
  rintro e v14_ ⟨A14_, c14_, L14_, rfl, o, hb⟩
  have Iy := Lib.hid o.v
  have HV14 := Lib.hid ((HV13.out.next (below_then (bxb _ _) hb)).cons (o.v1 (iatK_bd (X := [2, -3, 0]) 3 rfl (by decide)) (by omega) (by omega)))
  have HN14 := Lib.hid (HN13.out.next (below_then (bxb _ _) hb))
  have HX14 := Lib.hid (HX13.out.next (below_then (bxb _ _) hb))
  have HB14 := Lib.hid (below_then HB13.out (below_then (bxb _ _) hb))
  clear o hb HV13 HN13 HX13 HB13
  go_wp2_with fail
  refine (rsameT (show V1 _ A4_ 3 c4_ L4_ from HV14.out ⟨A4_, 3, c4_, L4_⟩ (.tail _ (.tail _ (.tail _ (.tail _ (.tail _ (.tail _ (.head _)))))))) (show V1 _ A14_ 3 c14_ L14_ from HV14.out ⟨A14_, 3, c14_, L14_⟩ (.head _)) ((isv_keys Ip.out Iy.out).2 Qp.out)).mono ?_
  rintro e v15_ ⟨rfl, hb⟩
  have HV15 := Lib.hid (HV14.out.next hb)
  have HN15 := Lib.hid (HN14.out.next hb)
  have HX15 := Lib.hid (HX14.out.next hb)
  have HB15 := Lib.hid (below_then HB14.out hb)
  clear HV14 HN14 HX14 HB14
  clear hb
  have y1 : n6_ = 0 := Zgz.out.2 E0.out
  have y2 : ((n6_ : Int) == 0) = true := by rw [y1]; rfl
  go_wp2_with fail
  refine (valive_any _).mono ?_
  rintro e v16_ ⟨rfl, hb⟩
  have HV16 := Lib.hid (HV15.out.next hb)
  have HN16 := Lib.hid (HN15.out.next hb)
  have HX16 := Lib.hid (HX15.out.next hb)
  have HB16 := Lib.hid (below_then HB15.out hb)
  clear HV15 HN15 HX15 HB15
  clear hb
  go_wp2_with fail
  have om := ownv_made v16_ 65 (by omega)
  have vm : V1 _ _ _ _ _ := ⟨om.rd, Nat.le_refl _, by omega, by omega, fun e he => by rw [List.eq_of_mem_replicate he]; exact Nat.zero_le _, fun e he _ => by rw [List.eq_of_mem_replicate he]; exact ⟨rfl, rfl⟩⟩
  have hm : mayR (List.replicate 65 ZE.nought) = false := by unfold mayR; rw [List.length_replicate]; simp
  have hc := checkV_any vm
  rw [hm] at hc
  simp only [Bool.false_eq_true, if_false] at hc
  clear om vm hm
  refine (hc).mono ?_
  rintro e v17_ ⟨rfl, hb⟩
  have HV17 := Lib.hid (HV16.out.next (below_then (bxb _ _) hb))
  have HN17 := Lib.hid (HN16.out.next (below_then (bxb _ _) hb))
  have HX17 := Lib.hid (HX16.out.next (below_then (bxb _ _) hb))
  have HB17 := Lib.hid (below_then HB16.out (below_then (bxb _ _) hb))
  clear HV16 HN16 HX16 HB16
  clear hb
  clear hc
  go_wp2
  go_ret
  exact ⟨rfl, HB17.out⟩
section
end
end Go.Proofs.YtgiokmfdafmaoaaGreat
