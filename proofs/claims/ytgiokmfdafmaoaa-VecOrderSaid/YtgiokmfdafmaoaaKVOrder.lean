import Derived.Test.YtgiokmfdafmaoaaKVAlive
import Derived.Test.YtgiokmfdafmaoaaKVGuard
/- VOrder. -/
/- The law VecOrder. -/
namespace Go.Proofs.Ytgiokmfdafmaoaa
open Go.RowKit Go.Shelf
set_option linter.unusedVariables false
set_option linter.unusedSimpArgs false

theorem first_sgn (f : Nat → Int) (n : Nat) : firstTo (fun i => sgn (f i)) n = -1 ∨ firstTo (fun i => sgn (f i)) n = 0 ∨ firstTo (fun i => sgn (f i)) n = 1 := by
  induction n with
  | zero => exact .inr (.inl rfl)
  | succ k ih =>
    rw [firstTo]
    split
    · exact ih
    · unfold sgn
      split <;> (try split) <;> simp
set_option maxRecDepth 100000 in
set_option maxHeartbeats 4000000 in
theorem order_long (A1 A2 A3 : Option Addr) (n1 c1 n2 c2 n3 c3 : Nat) (La Lb Lc : List ZE) (w : World) (ra : RV w A1 n1 c1 La) (rb : RV w A2 n2 c2 Lb) (rc : RV w A3 n3 c3 Lc) (hl : ¬ (greatV La 20 10 = false ∧ greatV Lb 20 10 = false ∧ greatV Lc 20 10 = false)) : Calls Try.prog 5 #[.slice A1 n1 c1, .slice A2 n2 c2, .slice A3 n3 c3] w fun e w' => e = .returned (.bool true) ∧ Below w.heap.size w w' := by
  have Ga := Lib.hid (fun W (hW : Below w.heap.size w W) => (ra.below hW).great20)
  have Gb := Lib.hid (fun W (hW : Below w.heap.size w W) => (rb.below hW).great20)
  have Gc := Lib.hid (fun W (hW : Below w.heap.size w W) => (rc.below hW).great20)
  clear ra rb rc
  cases ka : greatV La 20 10 with
  | true =>
    have Ka := Lib.hid ka
    clear hl ka
    have KV0 := heldv_nil w
    have KN0 := heldn_nil w
    have KX0 := heldx_nil w
    have D0 := Below.refl w.heap.size w
    try simp only [World.size_alloc] at KV0
    have HV0 := Lib.hid KV0
    try simp only [World.size_alloc] at KN0
    have HN0 := Lib.hid KN0
    try simp only [World.size_alloc] at KX0
    have HX0 := Lib.hid KX0
    have HB0 := Lib.hid D0
    clear KV0 KN0 KX0 D0
    go_enter Try.func5, Try.ntmps5
    go_wp2_with fail
    refine (valive_any _).mono ?_
    rintro e v1_ ⟨rfl, hb⟩
    have HV1 := Lib.hid (HV0.out.next hb)
    have HN1 := Lib.hid (HN0.out.next hb)
    have HX1 := Lib.hid (HX0.out.next hb)
    have HB1 := Lib.hid (below_then HB0.out hb)
    clear HV0 HN0 HX0 HB0
    clear hb
    go_wp2_with fail
    refine (Ga.out _ HB1.out).mono ?_
    rintro e v2_ ⟨rfl, hb⟩
    rw [Ka.out]
    have HV2 := Lib.hid (HV1.out.next hb)
    have HN2 := Lib.hid (HN1.out.next hb)
    have HX2 := Lib.hid (HX1.out.next hb)
    have HB2 := Lib.hid (below_then HB1.out hb)
    clear HV1 HN1 HX1 HB1
    clear hb
    go_wp2
    go_ret
    exact ⟨rfl, HB2.out⟩
  | false =>
    have Ka := Lib.hid ka
    cases kb : greatV Lb 20 10 with
    | true =>
      have Kb := Lib.hid kb
      clear hl ka kb
      have KV0 := heldv_nil w
      have KN0 := heldn_nil w
      have KX0 := heldx_nil w
      have D0 := Below.refl w.heap.size w
      try simp only [World.size_alloc] at KV0
      have HV0 := Lib.hid KV0
      try simp only [World.size_alloc] at KN0
      have HN0 := Lib.hid KN0
      try simp only [World.size_alloc] at KX0
      have HX0 := Lib.hid KX0
      have HB0 := Lib.hid D0
      clear KV0 KN0 KX0 D0
      go_enter Try.func5, Try.ntmps5
      go_wp2_with fail
      refine (valive_any _).mono ?_
      rintro e v1_ ⟨rfl, hb⟩
      have HV1 := Lib.hid (HV0.out.next hb)
      have HN1 := Lib.hid (HN0.out.next hb)
      have HX1 := Lib.hid (HX0.out.next hb)
      have HB1 := Lib.hid (below_then HB0.out hb)
      clear HV0 HN0 HX0 HB0
      clear hb
      go_wp2_with fail
      refine (Ga.out _ HB1.out).mono ?_
      rintro e v2_ ⟨rfl, hb⟩
      rw [Ka.out]
      have HV2 := Lib.hid (HV1.out.next hb)
      have HN2 := Lib.hid (HN1.out.next hb)
      have HX2 := Lib.hid (HX1.out.next hb)
      have HB2 := Lib.hid (below_then HB1.out hb)
      clear HV1 HN1 HX1 HB1
      clear hb
      go_wp2_with fail
      refine (Gb.out _ HB2.out).mono ?_
      rintro e v3_ ⟨rfl, hb⟩
      rw [Kb.out]
      have HV3 := Lib.hid (HV2.out.next hb)
      have HN3 := Lib.hid (HN2.out.next hb)
      have HX3 := Lib.hid (HX2.out.next hb)
      have HB3 := Lib.hid (below_then HB2.out hb)
      clear HV2 HN2 HX2 HB2
      clear hb
      go_wp2
      go_ret
      exact ⟨rfl, HB3.out⟩
    | false =>
      have Kb := Lib.hid kb
      have Kc : Hid (greatV Lc 20 10 = true) := by
        cases kc : greatV Lc 20 10 with
        | true => exact rfl
        | false => exact absurd ⟨ka, kb, kc⟩ hl
      clear hl ka kb
      have KV0 := heldv_nil w
      have KN0 := heldn_nil w
      have KX0 := heldx_nil w
      have D0 := Below.refl w.heap.size w
      try simp only [World.size_alloc] at KV0
      have HV0 := Lib.hid KV0
      try simp only [World.size_alloc] at KN0
      have HN0 := Lib.hid KN0
      try simp only [World.size_alloc] at KX0
      have HX0 := Lib.hid KX0
      have HB0 := Lib.hid D0
      clear KV0 KN0 KX0 D0
      go_enter Try.func5, Try.ntmps5
      go_wp2_with fail
      refine (valive_any _).mono ?_
      rintro e v1_ ⟨rfl, hb⟩
      have HV1 := Lib.hid (HV0.out.next hb)
      have HN1 := Lib.hid (HN0.out.next hb)
      have HX1 := Lib.hid (HX0.out.next hb)
      have HB1 := Lib.hid (below_then HB0.out hb)
      clear HV0 HN0 HX0 HB0
      clear hb
      go_wp2_with fail
      refine (Ga.out _ HB1.out).mono ?_
      rintro e v2_ ⟨rfl, hb⟩
      rw [Ka.out]
      have HV2 := Lib.hid (HV1.out.next hb)
      have HN2 := Lib.hid (HN1.out.next hb)
      have HX2 := Lib.hid (HX1.out.next hb)
      have HB2 := Lib.hid (below_then HB1.out hb)
      clear HV1 HN1 HX1 HB1
      clear hb
      go_wp2_with fail
      refine (Gb.out _ HB2.out).mono ?_
      rintro e v3_ ⟨rfl, hb⟩
      rw [Kb.out]
      have HV3 := Lib.hid (HV2.out.next hb)
      have HN3 := Lib.hid (HN2.out.next hb)
      have HX3 := Lib.hid (HX2.out.next hb)
      have HB3 := Lib.hid (below_then HB2.out hb)
      clear HV2 HN2 HX2 HB2
      clear hb
      go_wp2_with fail
      refine (Gc.out _ HB3.out).mono ?_
      rintro e v4_ ⟨rfl, hb⟩
      rw [Kc.out]
      have HV4 := Lib.hid (HV3.out.next hb)
      have HN4 := Lib.hid (HN3.out.next hb)
      have HX4 := Lib.hid (HX3.out.next hb)
      have HB4 := Lib.hid (below_then HB3.out hb)
      clear HV3 HN3 HX3 HB3
      clear hb
      go_wp2
      go_ret
      exact ⟨rfl, HB4.out⟩
set_option maxRecDepth 100000 in
set_option maxHeartbeats 4000000 in
theorem order_bad (A1 A2 A3 : Option Addr) (n1 c1 n2 c2 n3 c3 : Nat) (La Lb Lc : List ZE) (w : World) (ra : RV w A1 n1 c1 La) (rb : RV w A2 n2 c2 Lb) (rc : RV w A3 n3 c3 Lc) (va : V1 w A1 n1 c1 La) (vb : V1 w A2 n2 c2 Lb) (vc : V1 w A3 n3 c3 Lc) (Ka : Hid (greatV La 20 10 = false)) (Kb : Hid (greatV Lb 20 10 = false)) (Kc : Hid (greatV Lc 20 10 = false)) (hbad : ¬ (twoVE La Lb = 0 ∧ twoVE La Lc = 0 ∧ twoVE Lb Lc = 0)) : Calls Try.prog 5 #[.slice A1 n1 c1, .slice A2 n2 c2, .slice A3 n3 c3] w fun e w' => e = .returned (.bool true) ∧ Below w.heap.size w w' := by
  have Ga := Lib.hid (fun W (hW : Below w.heap.size w W) => (ra.below hW).great20)
  have Gb := Lib.hid (fun W (hW : Below w.heap.size w W) => (rb.below hW).great20)
  have Gc := Lib.hid (fun W (hW : Below w.heap.size w W) => (rc.below hW).great20)
  have N1 := Lib.hid (fun W (hW : Below w.heap.size w W) => cmpW (va.below hW) (vb.below hW))
  have N2 := Lib.hid (fun W (hW : Below w.heap.size w W) => cmpW (vb.below hW) (va.below hW))
  have N3 := Lib.hid (fun W (hW : Below w.heap.size w W) => addW (va.below hW) (vc.below hW))
  have N4 := Lib.hid (fun W (hW : Below w.heap.size w W) => addW (vb.below hW) (vc.below hW))
  have hE : ¬ (twoVE La Lb = 0 ∧ twoVE Lb La = 0 ∧ twoVE La Lc = 0 ∧ twoVE Lb Lc = 0) := fun h => hbad ⟨h.1, h.2.2.1, h.2.2.2⟩
  clear ra rb rc va vb vc hbad
  unfold IAns WRow at *
  generalize (if twoVE La Lb = 0 then firstTo (fun i => sgn (zat La i - zat Lb i)) n1 else 0) = u1 at *
  generalize (if twoVE Lb La = 0 then firstTo (fun i => sgn (zat Lb i - zat La i)) n2 else 0) = u2 at *
  generalize twoVE La Lb = E1 at *
  generalize twoVE Lb La = E2 at *
  generalize twoVE La Lc = E3 at *
  generalize twoVE Lb Lc = E4 at *
  by_cases h1 : E1 = 0
  · subst h1
    by_cases h2 : E2 = 0
    · subst h2
      by_cases h3 : E3 = 0
      · subst h3
        have h0 : ¬ E4 = 0 := fun h => hE ⟨rfl, rfl, rfl, h⟩
        have s1 : ((E4 : Int) != 0) = true := by simpa using h0
        have s2 : ((E4 : Int) == 0) = false := by simpa using h0
        clear hE h0
        have KV0 := heldv_nil w
        have KN0 := heldn_nil w
        have KX0 := heldx_nil w
        have D0 := Below.refl w.heap.size w
        try simp only [World.size_alloc] at KV0
        have HV0 := Lib.hid KV0
        try simp only [World.size_alloc] at KN0
        have HN0 := Lib.hid KN0
        try simp only [World.size_alloc] at KX0
        have HX0 := Lib.hid KX0
        have HB0 := Lib.hid D0
        clear KV0 KN0 KX0 D0
        go_enter Try.func5, Try.ntmps5
        go_wp2_with fail
        refine (valive_any _).mono ?_
        rintro e v1_ ⟨rfl, hb⟩
        have HV1 := Lib.hid (HV0.out.next hb)
        have HN1 := Lib.hid (HN0.out.next hb)
        have HX1 := Lib.hid (HX0.out.next hb)
        have HB1 := Lib.hid (below_then HB0.out hb)
        clear HV0 HN0 HX0 HB0
        clear hb
        go_wp2_with fail
        refine (Ga.out _ HB1.out).mono ?_
        rintro e v2_ ⟨rfl, hb⟩
        rw [Ka.out]
        have HV2 := Lib.hid (HV1.out.next hb)
        have HN2 := Lib.hid (HN1.out.next hb)
        have HX2 := Lib.hid (HX1.out.next hb)
        have HB2 := Lib.hid (below_then HB1.out hb)
        clear HV1 HN1 HX1 HB1
        clear hb
        go_wp2_with fail
        refine (Gb.out _ HB2.out).mono ?_
        rintro e v3_ ⟨rfl, hb⟩
        rw [Kb.out]
        have HV3 := Lib.hid (HV2.out.next hb)
        have HN3 := Lib.hid (HN2.out.next hb)
        have HX3 := Lib.hid (HX2.out.next hb)
        have HB3 := Lib.hid (below_then HB2.out hb)
        clear HV2 HN2 HX2 HB2
        clear hb
        go_wp2_with fail
        refine (Gc.out _ HB3.out).mono ?_
        rintro e v4_ ⟨rfl, hb⟩
        rw [Kc.out]
        have HV4 := Lib.hid (HV3.out.next hb)
        have HN4 := Lib.hid (HN3.out.next hb)
        have HX4 := Lib.hid (HX3.out.next hb)
        have HB4 := Lib.hid (below_then HB3.out hb)
        clear HV3 HN3 HX3 HB3
        clear hb
        go_wp2_with fail
        refine (N1.out _ HB4.out).mono ?_
        rintro e v5_ ⟨rfl, hb⟩
        have HV5 := Lib.hid (HV4.out.next hb)
        have HN5 := Lib.hid (HN4.out.next hb)
        have HX5 := Lib.hid (HX4.out.next hb)
        have HB5 := Lib.hid (below_then HB4.out hb)
        clear HV4 HN4 HX4 HB4
        clear hb
        go_wp2_with fail
        refine (N2.out _ HB5.out).mono ?_
        rintro e v6_ ⟨rfl, hb⟩
        have HV6 := Lib.hid (HV5.out.next hb)
        have HN6 := Lib.hid (HN5.out.next hb)
        have HX6 := Lib.hid (HX5.out.next hb)
        have HB6 := Lib.hid (below_then HB5.out hb)
        clear HV5 HN5 HX5 HB5
        clear hb
        go_wp2_with fail
        refine (N3.out _ HB6.out).mono ?_
        rintro e v7_ ⟨A7_, n7_, c7_, rfl, hb⟩
        have HV7 := Lib.hid (HV6.out.next hb)
        have HN7 := Lib.hid (HN6.out.next hb)
        have HX7 := Lib.hid (HX6.out.next hb)
        have HB7 := Lib.hid (below_then HB6.out hb)
        clear HV6 HN6 HX6 HB6
        clear hb
        go_wp2_with fail
        refine (N4.out _ HB7.out).mono ?_
        rintro e v8_ ⟨A8_, n8_, c8_, rfl, hb⟩
        have HV8 := Lib.hid (HV7.out.next hb)
        have HN8 := Lib.hid (HN7.out.next hb)
        have HX8 := Lib.hid (HX7.out.next hb)
        have HB8 := Lib.hid (below_then HB7.out hb)
        clear HV7 HN7 HX7 HB7
        clear hb
        go_wp2
        go_ret
        exact ⟨rfl, HB8.out⟩
      · have h0 := h3
        clear h3
        have s1 : ((E3 : Int) != 0) = true := by simpa using h0
        have s2 : ((E3 : Int) == 0) = false := by simpa using h0
        clear hE h0
        have KV0 := heldv_nil w
        have KN0 := heldn_nil w
        have KX0 := heldx_nil w
        have D0 := Below.refl w.heap.size w
        try simp only [World.size_alloc] at KV0
        have HV0 := Lib.hid KV0
        try simp only [World.size_alloc] at KN0
        have HN0 := Lib.hid KN0
        try simp only [World.size_alloc] at KX0
        have HX0 := Lib.hid KX0
        have HB0 := Lib.hid D0
        clear KV0 KN0 KX0 D0
        go_enter Try.func5, Try.ntmps5
        go_wp2_with fail
        refine (valive_any _).mono ?_
        rintro e v1_ ⟨rfl, hb⟩
        have HV1 := Lib.hid (HV0.out.next hb)
        have HN1 := Lib.hid (HN0.out.next hb)
        have HX1 := Lib.hid (HX0.out.next hb)
        have HB1 := Lib.hid (below_then HB0.out hb)
        clear HV0 HN0 HX0 HB0
        clear hb
        go_wp2_with fail
        refine (Ga.out _ HB1.out).mono ?_
        rintro e v2_ ⟨rfl, hb⟩
        rw [Ka.out]
        have HV2 := Lib.hid (HV1.out.next hb)
        have HN2 := Lib.hid (HN1.out.next hb)
        have HX2 := Lib.hid (HX1.out.next hb)
        have HB2 := Lib.hid (below_then HB1.out hb)
        clear HV1 HN1 HX1 HB1
        clear hb
        go_wp2_with fail
        refine (Gb.out _ HB2.out).mono ?_
        rintro e v3_ ⟨rfl, hb⟩
        rw [Kb.out]
        have HV3 := Lib.hid (HV2.out.next hb)
        have HN3 := Lib.hid (HN2.out.next hb)
        have HX3 := Lib.hid (HX2.out.next hb)
        have HB3 := Lib.hid (below_then HB2.out hb)
        clear HV2 HN2 HX2 HB2
        clear hb
        go_wp2_with fail
        refine (Gc.out _ HB3.out).mono ?_
        rintro e v4_ ⟨rfl, hb⟩
        rw [Kc.out]
        have HV4 := Lib.hid (HV3.out.next hb)
        have HN4 := Lib.hid (HN3.out.next hb)
        have HX4 := Lib.hid (HX3.out.next hb)
        have HB4 := Lib.hid (below_then HB3.out hb)
        clear HV3 HN3 HX3 HB3
        clear hb
        go_wp2_with fail
        refine (N1.out _ HB4.out).mono ?_
        rintro e v5_ ⟨rfl, hb⟩
        have HV5 := Lib.hid (HV4.out.next hb)
        have HN5 := Lib.hid (HN4.out.next hb)
        have HX5 := Lib.hid (HX4.out.next hb)
        have HB5 := Lib.hid (below_then HB4.out hb)
        clear HV4 HN4 HX4 HB4
        clear hb
        go_wp2_with fail
        refine (N2.out _ HB5.out).mono ?_
        rintro e v6_ ⟨rfl, hb⟩
        have HV6 := Lib.hid (HV5.out.next hb)
        have HN6 := Lib.hid (HN5.out.next hb)
        have HX6 := Lib.hid (HX5.out.next hb)
        have HB6 := Lib.hid (below_then HB5.out hb)
        clear HV5 HN5 HX5 HB5
        clear hb
        go_wp2_with fail
        refine (N3.out _ HB6.out).mono ?_
        rintro e v7_ ⟨A7_, n7_, c7_, rfl, hb⟩
        have HV7 := Lib.hid (HV6.out.next hb)
        have HN7 := Lib.hid (HN6.out.next hb)
        have HX7 := Lib.hid (HX6.out.next hb)
        have HB7 := Lib.hid (below_then HB6.out hb)
        clear HV6 HN6 HX6 HB6
        clear hb
        go_wp2_with fail
        refine (N4.out _ HB7.out).mono ?_
        rintro e v8_ ⟨A8_, n8_, c8_, rfl, hb⟩
        have HV8 := Lib.hid (HV7.out.next hb)
        have HN8 := Lib.hid (HN7.out.next hb)
        have HX8 := Lib.hid (HX7.out.next hb)
        have HB8 := Lib.hid (below_then HB7.out hb)
        clear HV7 HN7 HX7 HB7
        clear hb
        go_wp2
        go_ret
        exact ⟨rfl, HB8.out⟩
    · have h0 := h2
      clear h2
      have s1 : ((E2 : Int) != 0) = true := by simpa using h0
      have s2 : ((E2 : Int) == 0) = false := by simpa using h0
      clear hE h0
      have KV0 := heldv_nil w
      have KN0 := heldn_nil w
      have KX0 := heldx_nil w
      have D0 := Below.refl w.heap.size w
      try simp only [World.size_alloc] at KV0
      have HV0 := Lib.hid KV0
      try simp only [World.size_alloc] at KN0
      have HN0 := Lib.hid KN0
      try simp only [World.size_alloc] at KX0
      have HX0 := Lib.hid KX0
      have HB0 := Lib.hid D0
      clear KV0 KN0 KX0 D0
      go_enter Try.func5, Try.ntmps5
      go_wp2_with fail
      refine (valive_any _).mono ?_
      rintro e v1_ ⟨rfl, hb⟩
      have HV1 := Lib.hid (HV0.out.next hb)
      have HN1 := Lib.hid (HN0.out.next hb)
      have HX1 := Lib.hid (HX0.out.next hb)
      have HB1 := Lib.hid (below_then HB0.out hb)
      clear HV0 HN0 HX0 HB0
      clear hb
      go_wp2_with fail
      refine (Ga.out _ HB1.out).mono ?_
      rintro e v2_ ⟨rfl, hb⟩
      rw [Ka.out]
      have HV2 := Lib.hid (HV1.out.next hb)
      have HN2 := Lib.hid (HN1.out.next hb)
      have HX2 := Lib.hid (HX1.out.next hb)
      have HB2 := Lib.hid (below_then HB1.out hb)
      clear HV1 HN1 HX1 HB1
      clear hb
      go_wp2_with fail
      refine (Gb.out _ HB2.out).mono ?_
      rintro e v3_ ⟨rfl, hb⟩
      rw [Kb.out]
      have HV3 := Lib.hid (HV2.out.next hb)
      have HN3 := Lib.hid (HN2.out.next hb)
      have HX3 := Lib.hid (HX2.out.next hb)
      have HB3 := Lib.hid (below_then HB2.out hb)
      clear HV2 HN2 HX2 HB2
      clear hb
      go_wp2_with fail
      refine (Gc.out _ HB3.out).mono ?_
      rintro e v4_ ⟨rfl, hb⟩
      rw [Kc.out]
      have HV4 := Lib.hid (HV3.out.next hb)
      have HN4 := Lib.hid (HN3.out.next hb)
      have HX4 := Lib.hid (HX3.out.next hb)
      have HB4 := Lib.hid (below_then HB3.out hb)
      clear HV3 HN3 HX3 HB3
      clear hb
      go_wp2_with fail
      refine (N1.out _ HB4.out).mono ?_
      rintro e v5_ ⟨rfl, hb⟩
      have HV5 := Lib.hid (HV4.out.next hb)
      have HN5 := Lib.hid (HN4.out.next hb)
      have HX5 := Lib.hid (HX4.out.next hb)
      have HB5 := Lib.hid (below_then HB4.out hb)
      clear HV4 HN4 HX4 HB4
      clear hb
      go_wp2_with fail
      refine (N2.out _ HB5.out).mono ?_
      rintro e v6_ ⟨rfl, hb⟩
      have HV6 := Lib.hid (HV5.out.next hb)
      have HN6 := Lib.hid (HN5.out.next hb)
      have HX6 := Lib.hid (HX5.out.next hb)
      have HB6 := Lib.hid (below_then HB5.out hb)
      clear HV5 HN5 HX5 HB5
      clear hb
      go_wp2_with fail
      refine (N3.out _ HB6.out).mono ?_
      rintro e v7_ ⟨A7_, n7_, c7_, rfl, hb⟩
      have HV7 := Lib.hid (HV6.out.next hb)
      have HN7 := Lib.hid (HN6.out.next hb)
      have HX7 := Lib.hid (HX6.out.next hb)
      have HB7 := Lib.hid (below_then HB6.out hb)
      clear HV6 HN6 HX6 HB6
      clear hb
      go_wp2_with fail
      refine (N4.out _ HB7.out).mono ?_
      rintro e v8_ ⟨A8_, n8_, c8_, rfl, hb⟩
      have HV8 := Lib.hid (HV7.out.next hb)
      have HN8 := Lib.hid (HN7.out.next hb)
      have HX8 := Lib.hid (HX7.out.next hb)
      have HB8 := Lib.hid (below_then HB7.out hb)
      clear HV7 HN7 HX7 HB7
      clear hb
      go_wp2
      go_ret
      exact ⟨rfl, HB8.out⟩
  · have h0 := h1
    clear h1
    have s1 : ((E1 : Int) != 0) = true := by simpa using h0
    have s2 : ((E1 : Int) == 0) = false := by simpa using h0
    clear hE h0
    have KV0 := heldv_nil w
    have KN0 := heldn_nil w
    have KX0 := heldx_nil w
    have D0 := Below.refl w.heap.size w
    try simp only [World.size_alloc] at KV0
    have HV0 := Lib.hid KV0
    try simp only [World.size_alloc] at KN0
    have HN0 := Lib.hid KN0
    try simp only [World.size_alloc] at KX0
    have HX0 := Lib.hid KX0
    have HB0 := Lib.hid D0
    clear KV0 KN0 KX0 D0
    go_enter Try.func5, Try.ntmps5
    go_wp2_with fail
    refine (valive_any _).mono ?_
    rintro e v1_ ⟨rfl, hb⟩
    have HV1 := Lib.hid (HV0.out.next hb)
    have HN1 := Lib.hid (HN0.out.next hb)
    have HX1 := Lib.hid (HX0.out.next hb)
    have HB1 := Lib.hid (below_then HB0.out hb)
    clear HV0 HN0 HX0 HB0
    clear hb
    go_wp2_with fail
    refine (Ga.out _ HB1.out).mono ?_
    rintro e v2_ ⟨rfl, hb⟩
    rw [Ka.out]
    have HV2 := Lib.hid (HV1.out.next hb)
    have HN2 := Lib.hid (HN1.out.next hb)
    have HX2 := Lib.hid (HX1.out.next hb)
    have HB2 := Lib.hid (below_then HB1.out hb)
    clear HV1 HN1 HX1 HB1
    clear hb
    go_wp2_with fail
    refine (Gb.out _ HB2.out).mono ?_
    rintro e v3_ ⟨rfl, hb⟩
    rw [Kb.out]
    have HV3 := Lib.hid (HV2.out.next hb)
    have HN3 := Lib.hid (HN2.out.next hb)
    have HX3 := Lib.hid (HX2.out.next hb)
    have HB3 := Lib.hid (below_then HB2.out hb)
    clear HV2 HN2 HX2 HB2
    clear hb
    go_wp2_with fail
    refine (Gc.out _ HB3.out).mono ?_
    rintro e v4_ ⟨rfl, hb⟩
    rw [Kc.out]
    have HV4 := Lib.hid (HV3.out.next hb)
    have HN4 := Lib.hid (HN3.out.next hb)
    have HX4 := Lib.hid (HX3.out.next hb)
    have HB4 := Lib.hid (below_then HB3.out hb)
    clear HV3 HN3 HX3 HB3
    clear hb
    go_wp2_with fail
    refine (N1.out _ HB4.out).mono ?_
    rintro e v5_ ⟨rfl, hb⟩
    have HV5 := Lib.hid (HV4.out.next hb)
    have HN5 := Lib.hid (HN4.out.next hb)
    have HX5 := Lib.hid (HX4.out.next hb)
    have HB5 := Lib.hid (below_then HB4.out hb)
    clear HV4 HN4 HX4 HB4
    clear hb
    go_wp2_with fail
    refine (N2.out _ HB5.out).mono ?_
    rintro e v6_ ⟨rfl, hb⟩
    have HV6 := Lib.hid (HV5.out.next hb)
    have HN6 := Lib.hid (HN5.out.next hb)
    have HX6 := Lib.hid (HX5.out.next hb)
    have HB6 := Lib.hid (below_then HB5.out hb)
    clear HV5 HN5 HX5 HB5
    clear hb
    go_wp2_with fail
    refine (N3.out _ HB6.out).mono ?_
    rintro e v7_ ⟨A7_, n7_, c7_, rfl, hb⟩
    have HV7 := Lib.hid (HV6.out.next hb)
    have HN7 := Lib.hid (HN6.out.next hb)
    have HX7 := Lib.hid (HX6.out.next hb)
    have HB7 := Lib.hid (below_then HB6.out hb)
    clear HV6 HN6 HX6 HB6
    clear hb
    go_wp2_with fail
    refine (N4.out _ HB7.out).mono ?_
    rintro e v8_ ⟨A8_, n8_, c8_, rfl, hb⟩
    have HV8 := Lib.hid (HV7.out.next hb)
    have HN8 := Lib.hid (HN7.out.next hb)
    have HX8 := Lib.hid (HX7.out.next hb)
    have HB8 := Lib.hid (below_then HB7.out hb)
    clear HV7 HN7 HX7 HB7
    clear hb
    go_wp2
    go_ret
    exact ⟨rfl, HB8.out⟩
set_option maxRecDepth 100000 in
set_option maxHeartbeats 4000000 in
theorem order_ok (A1 A2 A3 : Option Addr) (nn c1 c2 c3 : Nat) (La Lb Lc : List ZE) (f g h : Nat → Int) (w : World) (ra : RV w A1 nn c1 La) (rb : RV w A2 nn c2 Lb) (rc : RV w A3 nn c3 Lc) (ha : V1 w A1 nn c1 La) (hb : V1 w A2 nn c2 Lb) (hc : V1 w A3 nn c3 Lc) (h20 : nn ≤ 20)
    (Ka : Hid (greatV La 20 10 = false)) (Kb : Hid (greatV Lb 20 10 = false)) (Kc : Hid (greatV Lc 20 10 = false)) (Ia : Hid (IsV La nn f)) (Ib : Hid (IsV Lb nn g)) (Ic : Hid (IsV Lc nn h)) (Ba : Hid (BdV 10 nn f)) (Bb : Hid (BdV 10 nn g)) (Bc : Hid (BdV 10 nn h)) : Calls Try.prog 5 #[.slice A1 nn c1, .slice A2 nn c2, .slice A3 nn c3] w fun e w' => e = .returned (.bool true) ∧ Below w.heap.size w w' := by
  have Ga := Lib.hid (fun W (hW : Below w.heap.size w W) => (ra.below hW).great20)
  have Gb := Lib.hid (fun W (hW : Below w.heap.size w W) => (rb.below hW).great20)
  have Gc := Lib.hid (fun W (hW : Below w.heap.size w W) => (rc.below hW).great20)
  have Bx : Hid (BdV 11 nn (fun i => f i + h i)) := fun i hi => (Ba.out i hi).add (Bc.out i hi)
  have By : Hid (BdV 11 nn (fun i => g i + h i)) := fun i hi => (Bb.out i hi).add (Bc.out i hi)
  obtain ⟨s, es⟩ : ∃ s, firstTo (fun i => sgn (f i - g i)) nn = s := ⟨_, rfl⟩
  have h3 := first_sgn (fun i => f i - g i) nn
  rw [es] at h3
  have es2 := Lib.hid ((cmp_turn f g nn).trans (congrArg (fun x => -x) es))
  have es3 := Lib.hid ((cmp_both f g h nn).trans es)
  have es4 : Hid (keys La = keys Lb ↔ s = 0) := (isv_keys Ia.out Ib.out).trans (by rw [← es]; exact cmp_same.symm)
  obtain ⟨P, eP⟩ : ∃ P : Prop, P = ∀ k, k < nn → h k = 0 := ⟨_, rfl⟩
  have Z1 : Hid (noughts Lc = true ↔ P) := by show _ ↔ P; rw [eP]; exact isv_noughts Ic.out
  have Z2 : Hid (∀ {K : List ZE}, IsV K nn (fun i => f i + h i) → (keys K = keys La ↔ P)) := fun hK => by
    rw [eP]
    refine (isv_keys hK Ia.out).trans ⟨fun h1 k hk => ?_, fun h1 k hk => ?_⟩
    · have := h1 k hk; omega
    · have := h1 k hk; show f k + h k = f k; omega
  have es := Lib.hid es
  clear ra rb rc eP
  have hd : Decidable P := Classical.propDecidable P
  obtain ⟨zb, hz⟩ : ∃ zb : Bool, (P ↔ zb = true) := ⟨decide P, decide_eq_true_iff.symm⟩
  replace Z1 : Hid (noughts Lc = true ↔ zb = true) := Z1.out.trans hz
  replace Z2 : Hid (∀ {K : List ZE}, IsV K nn (fun i => f i + h i) → (keys K = keys La ↔ zb = true)) := fun hK => (Z2.out hK).trans hz
  have hbb : (zb == zb) = true := by simp
  clear hz hd
  rcases h3 with rfl | rfl | rfl
  · have es2 : Hid (firstTo (fun i => sgn (g i - f i)) nn = 1) := es2.out
    have KV0 := heldv_nil w
    have KN0 := heldn_nil w
    have KX0 := heldx_nil w
    have D0 := Below.refl w.heap.size w
    have KV1 := KV0.cons (ha.below D0)
    have KN1 := KN0
    have KX1 := KX0
    have D1 := D0
    have KV2 := KV1.cons (hb.below D1)
    have KN2 := KN1
    have KX2 := KX1
    have D2 := D1
    have KV3 := KV2.cons (hc.below D2)
    have KN3 := KN2
    have KX3 := KX2
    have D3 := D2
    try simp only [World.size_alloc] at KV3
    have HV0 := Lib.hid KV3
    try simp only [World.size_alloc] at KN3
    have HN0 := Lib.hid KN3
    try simp only [World.size_alloc] at KX3
    have HX0 := Lib.hid KX3
    have HB0 := Lib.hid D3
    clear KV3 KN3 KX3 D3 KV2 KN2 KX2 D2 KV1 KN1 KX1 D1 KV0 KN0 KX0 D0
    clear ha hb hc
    go_enter Try.func5, Try.ntmps5
    go_wp2_with fail
    refine (valive_any _).mono ?_
    rintro e v1_ ⟨rfl, hb⟩
    have HV1 := Lib.hid (HV0.out.next hb)
    have HN1 := Lib.hid (HN0.out.next hb)
    have HX1 := Lib.hid (HX0.out.next hb)
    have HB1 := Lib.hid (below_then HB0.out hb)
    clear HV0 HN0 HX0 HB0
    clear hb
    go_wp2_with fail
    refine (Ga.out _ HB1.out).mono ?_
    rintro e v2_ ⟨rfl, hb⟩
    rw [Ka.out]
    have HV2 := Lib.hid (HV1.out.next hb)
    have HN2 := Lib.hid (HN1.out.next hb)
    have HX2 := Lib.hid (HX1.out.next hb)
    have HB2 := Lib.hid (below_then HB1.out hb)
    clear HV1 HN1 HX1 HB1
    clear hb
    go_wp2_with fail
    refine (Gb.out _ HB2.out).mono ?_
    rintro e v3_ ⟨rfl, hb⟩
    rw [Kb.out]
    have HV3 := Lib.hid (HV2.out.next hb)
    have HN3 := Lib.hid (HN2.out.next hb)
    have HX3 := Lib.hid (HX2.out.next hb)
    have HB3 := Lib.hid (below_then HB2.out hb)
    clear HV2 HN2 HX2 HB2
    clear hb
    go_wp2_with fail
    refine (Gc.out _ HB3.out).mono ?_
    rintro e v4_ ⟨rfl, hb⟩
    rw [Kc.out]
    have HV4 := Lib.hid (HV3.out.next hb)
    have HN4 := Lib.hid (HN3.out.next hb)
    have HX4 := Lib.hid (HX3.out.next hb)
    have HB4 := Lib.hid (below_then HB3.out hb)
    clear HV3 HN3 HX3 HB3
    clear hb
    go_wp2_with fail
    refine (cmpS (show V1 _ A1 nn c1 La from HV4.out ⟨A1, nn, c1, La⟩ (.tail _ (.tail _ (.head _)))) (show V1 _ A2 nn c2 Lb from HV4.out ⟨A2, nn, c2, Lb⟩ (.tail _ (.head _))) Ia.out Ib.out (by omega) es.out).mono ?_
    rintro e v5_ ⟨rfl, hb⟩
    have HV5 := Lib.hid (HV4.out.next hb)
    have HN5 := Lib.hid (HN4.out.next hb)
    have HX5 := Lib.hid (HX4.out.next hb)
    have HB5 := Lib.hid (below_then HB4.out hb)
    clear HV4 HN4 HX4 HB4
    clear hb
    go_wp2_with fail
    refine (cmpS (show V1 _ A2 nn c2 Lb from HV5.out ⟨A2, nn, c2, Lb⟩ (.tail _ (.head _))) (show V1 _ A1 nn c1 La from HV5.out ⟨A1, nn, c1, La⟩ (.tail _ (.tail _ (.head _)))) Ib.out Ia.out (by omega) es2.out).mono ?_
    rintro e v6_ ⟨rfl, hb⟩
    have HV6 := Lib.hid (HV5.out.next hb)
    have HN6 := Lib.hid (HN5.out.next hb)
    have HX6 := Lib.hid (HX5.out.next hb)
    have HB6 := Lib.hid (below_then HB5.out hb)
    clear HV5 HN5 HX5 HB5
    clear hb
    go_wp2_with fail
    refine (addR (show V1 _ A1 nn c1 La from HV6.out ⟨A1, nn, c1, La⟩ (.tail _ (.tail _ (.head _)))) (show V1 _ A3 nn c3 Lc from HV6.out ⟨A3, nn, c3, Lc⟩ (.head _)) Ia.out Ic.out (by omega)).mono ?_
    rintro e v7_ ⟨A7_, c7_, L7_, rfl, o, hb⟩
    have Ix := Lib.hid o.v
    have HV7 := Lib.hid ((HV6.out.next hb).cons (o.v1 (Bx.out) (by omega) (by omega)))
    have HN7 := Lib.hid (HN6.out.next hb)
    have HX7 := Lib.hid (HX6.out.next hb)
    have HB7 := Lib.hid (below_then HB6.out hb)
    clear o hb HV6 HN6 HX6 HB6
    go_wp2_with fail
    refine (addR (show V1 _ A2 nn c2 Lb from HV7.out ⟨A2, nn, c2, Lb⟩ (.tail _ (.tail _ (.head _)))) (show V1 _ A3 nn c3 Lc from HV7.out ⟨A3, nn, c3, Lc⟩ (.tail _ (.head _))) Ib.out Ic.out (by omega)).mono ?_
    rintro e v8_ ⟨A8_, c8_, L8_, rfl, o, hb⟩
    have Iy := Lib.hid o.v
    have HV8 := Lib.hid ((HV7.out.next hb).cons (o.v1 (By.out) (by omega) (by omega)))
    have HN8 := Lib.hid (HN7.out.next hb)
    have HX8 := Lib.hid (HX7.out.next hb)
    have HB8 := Lib.hid (below_then HB7.out hb)
    clear o hb HV7 HN7 HX7 HB7
    go_wp2_with fail
    refine (cmpS (show V1 _ A7_ nn c7_ L7_ from HV8.out ⟨A7_, nn, c7_, L7_⟩ (.tail _ (.head _))) (show V1 _ A8_ nn c8_ L8_ from HV8.out ⟨A8_, nn, c8_, L8_⟩ (.head _)) Ix.out Iy.out (by omega) es3.out).mono ?_
    rintro e v9_ ⟨rfl, hb⟩
    have HV9 := Lib.hid (HV8.out.next hb)
    have HN9 := Lib.hid (HN8.out.next hb)
    have HX9 := Lib.hid (HX8.out.next hb)
    have HB9 := Lib.hid (below_then HB8.out hb)
    clear HV8 HN8 HX8 HB8
    clear hb
    go_wp2_with fail
    refine (sameB (show V1 _ A1 nn c1 La from HV9.out ⟨A1, nn, c1, La⟩ (.tail _ (.tail _ (.tail _ (.tail _ (.head _)))))) (show V1 _ A2 nn c2 Lb from HV9.out ⟨A2, nn, c2, Lb⟩ (.tail _ (.tail _ (.tail _ (.head _))))) false (es4.out.trans (by decide))).mono ?_
    rintro e v10_ ⟨rfl, hb⟩
    have HV10 := Lib.hid (HV9.out.next hb)
    have HN10 := Lib.hid (HN9.out.next hb)
    have HX10 := Lib.hid (HX9.out.next hb)
    have HB10 := Lib.hid (below_then HB9.out hb)
    clear HV9 HN9 HX9 HB9
    clear hb
    go_wp2_with fail
    refine (zeroB (show V1 _ A3 nn c3 Lc from HV10.out ⟨A3, nn, c3, Lc⟩ (.tail _ (.tail _ (.head _)))) zb Z1.out).mono ?_
    rintro e v11_ ⟨rfl, hb⟩
    have HV11 := Lib.hid (HV10.out.next hb)
    have HN11 := Lib.hid (HN10.out.next hb)
    have HX11 := Lib.hid (HX10.out.next hb)
    have HB11 := Lib.hid (below_then HB10.out hb)
    clear HV10 HN10 HX10 HB10
    clear hb
    go_wp2_with fail
    refine (sameB (show V1 _ A7_ nn c7_ L7_ from HV11.out ⟨A7_, nn, c7_, L7_⟩ (.tail _ (.head _))) (show V1 _ A1 nn c1 La from HV11.out ⟨A1, nn, c1, La⟩ (.tail _ (.tail _ (.tail _ (.tail _ (.head _)))))) zb (Z2.out Ix.out)).mono ?_
    rintro e v12_ ⟨rfl, hb⟩
    have HV12 := Lib.hid (HV11.out.next hb)
    have HN12 := Lib.hid (HN11.out.next hb)
    have HX12 := Lib.hid (HX11.out.next hb)
    have HB12 := Lib.hid (below_then HB11.out hb)
    clear HV11 HN11 HX11 HB11
    clear hb
    go_wp2
    go_ret
    exact ⟨by first | rfl | simp, HB12.out⟩
  · have es2 : Hid (firstTo (fun i => sgn (g i - f i)) nn = 0) := es2.out
    have KV0 := heldv_nil w
    have KN0 := heldn_nil w
    have KX0 := heldx_nil w
    have D0 := Below.refl w.heap.size w
    have KV1 := KV0.cons (ha.below D0)
    have KN1 := KN0
    have KX1 := KX0
    have D1 := D0
    have KV2 := KV1.cons (hb.below D1)
    have KN2 := KN1
    have KX2 := KX1
    have D2 := D1
    have KV3 := KV2.cons (hc.below D2)
    have KN3 := KN2
    have KX3 := KX2
    have D3 := D2
    try simp only [World.size_alloc] at KV3
    have HV0 := Lib.hid KV3
    try simp only [World.size_alloc] at KN3
    have HN0 := Lib.hid KN3
    try simp only [World.size_alloc] at KX3
    have HX0 := Lib.hid KX3
    have HB0 := Lib.hid D3
    clear KV3 KN3 KX3 D3 KV2 KN2 KX2 D2 KV1 KN1 KX1 D1 KV0 KN0 KX0 D0
    clear ha hb hc
    go_enter Try.func5, Try.ntmps5
    go_wp2_with fail
    refine (valive_any _).mono ?_
    rintro e v1_ ⟨rfl, hb⟩
    have HV1 := Lib.hid (HV0.out.next hb)
    have HN1 := Lib.hid (HN0.out.next hb)
    have HX1 := Lib.hid (HX0.out.next hb)
    have HB1 := Lib.hid (below_then HB0.out hb)
    clear HV0 HN0 HX0 HB0
    clear hb
    go_wp2_with fail
    refine (Ga.out _ HB1.out).mono ?_
    rintro e v2_ ⟨rfl, hb⟩
    rw [Ka.out]
    have HV2 := Lib.hid (HV1.out.next hb)
    have HN2 := Lib.hid (HN1.out.next hb)
    have HX2 := Lib.hid (HX1.out.next hb)
    have HB2 := Lib.hid (below_then HB1.out hb)
    clear HV1 HN1 HX1 HB1
    clear hb
    go_wp2_with fail
    refine (Gb.out _ HB2.out).mono ?_
    rintro e v3_ ⟨rfl, hb⟩
    rw [Kb.out]
    have HV3 := Lib.hid (HV2.out.next hb)
    have HN3 := Lib.hid (HN2.out.next hb)
    have HX3 := Lib.hid (HX2.out.next hb)
    have HB3 := Lib.hid (below_then HB2.out hb)
    clear HV2 HN2 HX2 HB2
    clear hb
    go_wp2_with fail
    refine (Gc.out _ HB3.out).mono ?_
    rintro e v4_ ⟨rfl, hb⟩
    rw [Kc.out]
    have HV4 := Lib.hid (HV3.out.next hb)
    have HN4 := Lib.hid (HN3.out.next hb)
    have HX4 := Lib.hid (HX3.out.next hb)
    have HB4 := Lib.hid (below_then HB3.out hb)
    clear HV3 HN3 HX3 HB3
    clear hb
    go_wp2_with fail
    refine (cmpS (show V1 _ A1 nn c1 La from HV4.out ⟨A1, nn, c1, La⟩ (.tail _ (.tail _ (.head _)))) (show V1 _ A2 nn c2 Lb from HV4.out ⟨A2, nn, c2, Lb⟩ (.tail _ (.head _))) Ia.out Ib.out (by omega) es.out).mono ?_
    rintro e v5_ ⟨rfl, hb⟩
    have HV5 := Lib.hid (HV4.out.next hb)
    have HN5 := Lib.hid (HN4.out.next hb)
    have HX5 := Lib.hid (HX4.out.next hb)
    have HB5 := Lib.hid (below_then HB4.out hb)
    clear HV4 HN4 HX4 HB4
    clear hb
    go_wp2_with fail
    refine (cmpS (show V1 _ A2 nn c2 Lb from HV5.out ⟨A2, nn, c2, Lb⟩ (.tail _ (.head _))) (show V1 _ A1 nn c1 La from HV5.out ⟨A1, nn, c1, La⟩ (.tail _ (.tail _ (.head _)))) Ib.out Ia.out (by omega) es2.out).mono ?_
    rintro e v6_ ⟨rfl, hb⟩
    have HV6 := Lib.hid (HV5.out.next hb)
    have HN6 := Lib.hid (HN5.out.next hb)
    have HX6 := Lib.hid (HX5.out.next hb)
    have HB6 := Lib.hid (below_then HB5.out hb)
    clear HV5 HN5 HX5 HB5
    clear hb
    go_wp2_with fail
    refine (addR (show V1 _ A1 nn c1 La from HV6.out ⟨A1, nn, c1, La⟩ (.tail _ (.tail _ (.head _)))) (show V1 _ A3 nn c3 Lc from HV6.out ⟨A3, nn, c3, Lc⟩ (.head _)) Ia.out Ic.out (by omega)).mono ?_
    rintro e v7_ ⟨A7_, c7_, L7_, rfl, o, hb⟩
    have Ix := Lib.hid o.v
    have HV7 := Lib.hid ((HV6.out.next hb).cons (o.v1 (Bx.out) (by omega) (by omega)))
    have HN7 := Lib.hid (HN6.out.next hb)
    have HX7 := Lib.hid (HX6.out.next hb)
    have HB7 := Lib.hid (below_then HB6.out hb)
    clear o hb HV6 HN6 HX6 HB6
    go_wp2_with fail
    refine (addR (show V1 _ A2 nn c2 Lb from HV7.out ⟨A2, nn, c2, Lb⟩ (.tail _ (.tail _ (.head _)))) (show V1 _ A3 nn c3 Lc from HV7.out ⟨A3, nn, c3, Lc⟩ (.tail _ (.head _))) Ib.out Ic.out (by omega)).mono ?_
    rintro e v8_ ⟨A8_, c8_, L8_, rfl, o, hb⟩
    have Iy := Lib.hid o.v
    have HV8 := Lib.hid ((HV7.out.next hb).cons (o.v1 (By.out) (by omega) (by omega)))
    have HN8 := Lib.hid (HN7.out.next hb)
    have HX8 := Lib.hid (HX7.out.next hb)
    have HB8 := Lib.hid (below_then HB7.out hb)
    clear o hb HV7 HN7 HX7 HB7
    go_wp2_with fail
    refine (cmpS (show V1 _ A7_ nn c7_ L7_ from HV8.out ⟨A7_, nn, c7_, L7_⟩ (.tail _ (.head _))) (show V1 _ A8_ nn c8_ L8_ from HV8.out ⟨A8_, nn, c8_, L8_⟩ (.head _)) Ix.out Iy.out (by omega) es3.out).mono ?_
    rintro e v9_ ⟨rfl, hb⟩
    have HV9 := Lib.hid (HV8.out.next hb)
    have HN9 := Lib.hid (HN8.out.next hb)
    have HX9 := Lib.hid (HX8.out.next hb)
    have HB9 := Lib.hid (below_then HB8.out hb)
    clear HV8 HN8 HX8 HB8
    clear hb
    go_wp2_with fail
    refine (sameB (show V1 _ A1 nn c1 La from HV9.out ⟨A1, nn, c1, La⟩ (.tail _ (.tail _ (.tail _ (.tail _ (.head _)))))) (show V1 _ A2 nn c2 Lb from HV9.out ⟨A2, nn, c2, Lb⟩ (.tail _ (.tail _ (.tail _ (.head _))))) true (es4.out.trans (by decide))).mono ?_
    rintro e v10_ ⟨rfl, hb⟩
    have HV10 := Lib.hid (HV9.out.next hb)
    have HN10 := Lib.hid (HN9.out.next hb)
    have HX10 := Lib.hid (HX9.out.next hb)
    have HB10 := Lib.hid (below_then HB9.out hb)
    clear HV9 HN9 HX9 HB9
    clear hb
    go_wp2_with fail
    refine (zeroB (show V1 _ A3 nn c3 Lc from HV10.out ⟨A3, nn, c3, Lc⟩ (.tail _ (.tail _ (.head _)))) zb Z1.out).mono ?_
    rintro e v11_ ⟨rfl, hb⟩
    have HV11 := Lib.hid (HV10.out.next hb)
    have HN11 := Lib.hid (HN10.out.next hb)
    have HX11 := Lib.hid (HX10.out.next hb)
    have HB11 := Lib.hid (below_then HB10.out hb)
    clear HV10 HN10 HX10 HB10
    clear hb
    go_wp2_with fail
    refine (sameB (show V1 _ A7_ nn c7_ L7_ from HV11.out ⟨A7_, nn, c7_, L7_⟩ (.tail _ (.head _))) (show V1 _ A1 nn c1 La from HV11.out ⟨A1, nn, c1, La⟩ (.tail _ (.tail _ (.tail _ (.tail _ (.head _)))))) zb (Z2.out Ix.out)).mono ?_
    rintro e v12_ ⟨rfl, hb⟩
    have HV12 := Lib.hid (HV11.out.next hb)
    have HN12 := Lib.hid (HN11.out.next hb)
    have HX12 := Lib.hid (HX11.out.next hb)
    have HB12 := Lib.hid (below_then HB11.out hb)
    clear HV11 HN11 HX11 HB11
    clear hb
    go_wp2
    go_ret
    exact ⟨by first | rfl | simp, HB12.out⟩
  · have es2 : Hid (firstTo (fun i => sgn (g i - f i)) nn = (-1)) := es2.out
    have KV0 := heldv_nil w
    have KN0 := heldn_nil w
    have KX0 := heldx_nil w
    have D0 := Below.refl w.heap.size w
    have KV1 := KV0.cons (ha.below D0)
    have KN1 := KN0
    have KX1 := KX0
    have D1 := D0
    have KV2 := KV1.cons (hb.below D1)
    have KN2 := KN1
    have KX2 := KX1
    have D2 := D1
    have KV3 := KV2.cons (hc.below D2)
    have KN3 := KN2
    have KX3 := KX2
    have D3 := D2
    try simp only [World.size_alloc] at KV3
    have HV0 := Lib.hid KV3
    try simp only [World.size_alloc] at KN3
    have HN0 := Lib.hid KN3
    try simp only [World.size_alloc] at KX3
    have HX0 := Lib.hid KX3
    have HB0 := Lib.hid D3
    clear KV3 KN3 KX3 D3 KV2 KN2 KX2 D2 KV1 KN1 KX1 D1 KV0 KN0 KX0 D0
    clear ha hb hc
    go_enter Try.func5, Try.ntmps5
    go_wp2_with fail
    refine (valive_any _).mono ?_
    rintro e v1_ ⟨rfl, hb⟩
    have HV1 := Lib.hid (HV0.out.next hb)
    have HN1 := Lib.hid (HN0.out.next hb)
    have HX1 := Lib.hid (HX0.out.next hb)
    have HB1 := Lib.hid (below_then HB0.out hb)
    clear HV0 HN0 HX0 HB0
    clear hb
    go_wp2_with fail
    refine (Ga.out _ HB1.out).mono ?_
    rintro e v2_ ⟨rfl, hb⟩
    rw [Ka.out]
    have HV2 := Lib.hid (HV1.out.next hb)
    have HN2 := Lib.hid (HN1.out.next hb)
    have HX2 := Lib.hid (HX1.out.next hb)
    have HB2 := Lib.hid (below_then HB1.out hb)
    clear HV1 HN1 HX1 HB1
    clear hb
    go_wp2_with fail
    refine (Gb.out _ HB2.out).mono ?_
    rintro e v3_ ⟨rfl, hb⟩
    rw [Kb.out]
    have HV3 := Lib.hid (HV2.out.next hb)
    have HN3 := Lib.hid (HN2.out.next hb)
    have HX3 := Lib.hid (HX2.out.next hb)
    have HB3 := Lib.hid (below_then HB2.out hb)
    clear HV2 HN2 HX2 HB2
    clear hb
    go_wp2_with fail
    refine (Gc.out _ HB3.out).mono ?_
    rintro e v4_ ⟨rfl, hb⟩
    rw [Kc.out]
    have HV4 := Lib.hid (HV3.out.next hb)
    have HN4 := Lib.hid (HN3.out.next hb)
    have HX4 := Lib.hid (HX3.out.next hb)
    have HB4 := Lib.hid (below_then HB3.out hb)
    clear HV3 HN3 HX3 HB3
    clear hb
    go_wp2_with fail
    refine (cmpS (show V1 _ A1 nn c1 La from HV4.out ⟨A1, nn, c1, La⟩ (.tail _ (.tail _ (.head _)))) (show V1 _ A2 nn c2 Lb from HV4.out ⟨A2, nn, c2, Lb⟩ (.tail _ (.head _))) Ia.out Ib.out (by omega) es.out).mono ?_
    rintro e v5_ ⟨rfl, hb⟩
    have HV5 := Lib.hid (HV4.out.next hb)
    have HN5 := Lib.hid (HN4.out.next hb)
    have HX5 := Lib.hid (HX4.out.next hb)
    have HB5 := Lib.hid (below_then HB4.out hb)
    clear HV4 HN4 HX4 HB4
    clear hb
    go_wp2_with fail
    refine (cmpS (show V1 _ A2 nn c2 Lb from HV5.out ⟨A2, nn, c2, Lb⟩ (.tail _ (.head _))) (show V1 _ A1 nn c1 La from HV5.out ⟨A1, nn, c1, La⟩ (.tail _ (.tail _ (.head _)))) Ib.out Ia.out (by omega) es2.out).mono ?_
    rintro e v6_ ⟨rfl, hb⟩
    have HV6 := Lib.hid (HV5.out.next hb)
    have HN6 := Lib.hid (HN5.out.next hb)
    have HX6 := Lib.hid (HX5.out.next hb)
    have HB6 := Lib.hid (below_then HB5.out hb)
    clear HV5 HN5 HX5 HB5
    clear hb
    go_wp2_with fail
    refine (addR (show V1 _ A1 nn c1 La from HV6.out ⟨A1, nn, c1, La⟩ (.tail _ (.tail _ (.head _)))) (show V1 _ A3 nn c3 Lc from HV6.out ⟨A3, nn, c3, Lc⟩ (.head _)) Ia.out Ic.out (by omega)).mono ?_
    rintro e v7_ ⟨A7_, c7_, L7_, rfl, o, hb⟩
    have Ix := Lib.hid o.v
    have HV7 := Lib.hid ((HV6.out.next hb).cons (o.v1 (Bx.out) (by omega) (by omega)))
    have HN7 := Lib.hid (HN6.out.next hb)
    have HX7 := Lib.hid (HX6.out.next hb)
    have HB7 := Lib.hid (below_then HB6.out hb)
    clear o hb HV6 HN6 HX6 HB6
    go_wp2_with fail
    refine (addR (show V1 _ A2 nn c2 Lb from HV7.out ⟨A2, nn, c2, Lb⟩ (.tail _ (.tail _ (.head _)))) (show V1 _ A3 nn c3 Lc from HV7.out ⟨A3, nn, c3, Lc⟩ (.tail _ (.head _))) Ib.out Ic.out (by omega)).mono ?_
    rintro e v8_ ⟨A8_, c8_, L8_, rfl, o, hb⟩
    have Iy := Lib.hid o.v
    have HV8 := Lib.hid ((HV7.out.next hb).cons (o.v1 (By.out) (by omega) (by omega)))
    have HN8 := Lib.hid (HN7.out.next hb)
    have HX8 := Lib.hid (HX7.out.next hb)
    have HB8 := Lib.hid (below_then HB7.out hb)
    clear o hb HV7 HN7 HX7 HB7
    go_wp2_with fail
    refine (cmpS (show V1 _ A7_ nn c7_ L7_ from HV8.out ⟨A7_, nn, c7_, L7_⟩ (.tail _ (.head _))) (show V1 _ A8_ nn c8_ L8_ from HV8.out ⟨A8_, nn, c8_, L8_⟩ (.head _)) Ix.out Iy.out (by omega) es3.out).mono ?_
    rintro e v9_ ⟨rfl, hb⟩
    have HV9 := Lib.hid (HV8.out.next hb)
    have HN9 := Lib.hid (HN8.out.next hb)
    have HX9 := Lib.hid (HX8.out.next hb)
    have HB9 := Lib.hid (below_then HB8.out hb)
    clear HV8 HN8 HX8 HB8
    clear hb
    go_wp2_with fail
    refine (sameB (show V1 _ A1 nn c1 La from HV9.out ⟨A1, nn, c1, La⟩ (.tail _ (.tail _ (.tail _ (.tail _ (.head _)))))) (show V1 _ A2 nn c2 Lb from HV9.out ⟨A2, nn, c2, Lb⟩ (.tail _ (.tail _ (.tail _ (.head _))))) false (es4.out.trans (by decide))).mono ?_
    rintro e v10_ ⟨rfl, hb⟩
    have HV10 := Lib.hid (HV9.out.next hb)
    have HN10 := Lib.hid (HN9.out.next hb)
    have HX10 := Lib.hid (HX9.out.next hb)
    have HB10 := Lib.hid (below_then HB9.out hb)
    clear HV9 HN9 HX9 HB9
    clear hb
    go_wp2_with fail
    refine (zeroB (show V1 _ A3 nn c3 Lc from HV10.out ⟨A3, nn, c3, Lc⟩ (.tail _ (.tail _ (.head _)))) zb Z1.out).mono ?_
    rintro e v11_ ⟨rfl, hb⟩
    have HV11 := Lib.hid (HV10.out.next hb)
    have HN11 := Lib.hid (HN10.out.next hb)
    have HX11 := Lib.hid (HX10.out.next hb)
    have HB11 := Lib.hid (below_then HB10.out hb)
    clear HV10 HN10 HX10 HB10
    clear hb
    go_wp2_with fail
    refine (sameB (show V1 _ A7_ nn c7_ L7_ from HV11.out ⟨A7_, nn, c7_, L7_⟩ (.tail _ (.head _))) (show V1 _ A1 nn c1 La from HV11.out ⟨A1, nn, c1, La⟩ (.tail _ (.tail _ (.tail _ (.tail _ (.head _)))))) zb (Z2.out Ix.out)).mono ?_
    rintro e v12_ ⟨rfl, hb⟩
    have HV12 := Lib.hid (HV11.out.next hb)
    have HN12 := Lib.hid (HN11.out.next hb)
    have HX12 := Lib.hid (HX11.out.next hb)
    have HB12 := Lib.hid (below_then HB11.out hb)
    clear HV11 HN11 HX11 HB11
    clear hb
    go_wp2
    go_ret
    exact ⟨by first | rfl | simp, HB12.out⟩
set_option maxRecDepth 100000 in
set_option maxHeartbeats 4000000 in
theorem order_any (A1 A2 A3 : Option Addr) (n1 c1 n2 c2 n3 c3 : Nat) (La Lb Lc : List ZE) (w : World) (ra : RV w A1 n1 c1 La) (rb : RV w A2 n2 c2 Lb) (rc : RV w A3 n3 c3 Lc) : Calls Try.prog 5 #[.slice A1 n1 c1, .slice A2 n2 c2, .slice A3 n3 c3] w fun e w' => e = .returned (.bool true) ∧ Below w.heap.size w w' := by
  by_cases hl : greatV La 20 10 = false ∧ greatV Lb 20 10 = false ∧ greatV Lc 20 10 = false
  · obtain ⟨ka, kb, kc⟩ := hl
    have va := ra.v1 ka (by omega) (by omega)
    have vb := rb.v1 kb (by omega) (by omega)
    have vc := rc.v1 kc (by omega) (by omega)
    by_cases hbad : twoVE La Lb = 0 ∧ twoVE La Lc = 0 ∧ twoVE Lb Lc = 0
    · obtain ⟨h2, h3, h4⟩ := hbad
      obtain ⟨e1, e2, e3⟩ := two_may h3
      obtain ⟨e4, _, e5⟩ := two_may h4
      have hn1 : n1 = n3 := by rw [← va.rd.len, ← vc.rd.len, e3]
      have hn2 : n2 = n3 := by rw [← vb.rd.len, ← vc.rd.len, e5]
      subst hn1
      subst hn2
      have g1 := great_no ka
      have g2 := great_no kb
      have g3 := great_no kc
      exact order_ok A1 A2 A3 n2 c1 c2 c3 La Lb Lc (zat La) (zat Lb) (zat Lc) w ra rb rc va vb vc (by rw [← va.rd.len]; exact g1.1) ka kb kc (va.isv e1) (vb.isv e4) (vc.isv e2) (va.bdk e1 g1.2) (vb.bdk e4 g2.2) (vc.bdk e2 g3.2)
    · exact order_bad A1 A2 A3 n1 c1 n2 c2 n3 c3 La Lb Lc w ra rb rc va vb vc ka kb kc hbad
  · exact order_long A1 A2 A3 n1 c1 n2 c2 n3 c3 La Lb Lc w ra rb rc hl
section
end
end Go.Proofs.Ytgiokmfdafmaoaa
