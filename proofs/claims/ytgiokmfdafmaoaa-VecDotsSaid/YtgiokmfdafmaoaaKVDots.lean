import Derived.Test.YtgiokmfdafmaoaaKVAlive
import Derived.Test.YtgiokmfdafmaoaaKVGuard
/- VDots. -/
/- The law VecDots. -/
namespace Go.Proofs.Ytgiokmfdafmaoaa
open Go.RowKit Go.Shelf
set_option linter.unusedVariables false
set_option linter.unusedSimpArgs false

set_option maxRecDepth 100000 in
set_option maxHeartbeats 4000000 in
theorem dots_long (A1 A2 A3 B1 B2 : Option Addr) (n1 c1 n2 c2 n3 c3 m1 d1 m2 d2 : Nat) (La Lb Lc : List ZE) (p q : Bool) (w : World) (ra : RV w A1 n1 c1 La) (rb : RV w A2 n2 c2 Lb) (rc : RV w A3 n3 c3 Lc) (hm : m1 ≤ 9223372036854775807) (hn : m2 ≤ 9223372036854775807)
    (hl : ¬ (greatV La 20 10 = false ∧ greatV Lb 20 10 = false ∧ greatV Lc 20 10 = false ∧ m1 ≤ 10 ∧ m2 ≤ 10)) : Calls Try.prog 4 #[.slice A1 n1 c1, .slice A2 n2 c2, .slice A3 n3 c3, .agg #[.bool p, .slice B1 m1 d1], .agg #[.bool q, .slice B2 m2 d2]] w fun e w' => e = .returned (.bool true) ∧ Below w.heap.size w w' := by
  have Ga := Lib.hid (fun W (hW : Below w.heap.size w W) => (ra.below hW).great20)
  have Gb := Lib.hid (fun W (hW : Below w.heap.size w W) => (rb.below hW).great20)
  have Gc := Lib.hid (fun W (hW : Below w.heap.size w W) => (rc.below hW).great20)
  clear ra rb rc
  cases ka : greatV La 20 10 with
  | true =>
    have Ka := Lib.hid ka
    clear hl ka
    have KV0 := heldv_nil w
    have KN0 := heldn_nil w
    have KX0 := heldx_nil w
    have D0 := Below.refl w.heap.size w
    have KV1 := KV0.next (bxb _ (zo p B1 m1 d1))
    have KN1 := KN0.next (bxb _ (zo p B1 m1 d1))
    have KX1 := (KX0.next (bxb _ (zo p B1 m1 d1))).cons (show BoxZ _ _ p B1 m1 d1 from World.alloc_heap_new _ _)
    have D1 := below_then D0 (bxb _ (zo p B1 m1 d1))
    have KV2 := KV1.next (bxb _ (zo q B2 m2 d2))
    have KN2 := KN1.next (bxb _ (zo q B2 m2 d2))
    have KX2 := (KX1.next (bxb _ (zo q B2 m2 d2))).cons (show BoxZ _ _ q B2 m2 d2 from World.alloc_heap_new _ _)
    have D2 := below_then D1 (bxb _ (zo q B2 m2 d2))
    try simp only [World.size_alloc] at KV2
    have HV0 := Lib.hid KV2
    try simp only [World.size_alloc] at KN2
    have HN0 := Lib.hid KN2
    try simp only [World.size_alloc] at KX2
    have HX0 := Lib.hid KX2
    have HB0 := Lib.hid D2
    clear KV2 KN2 KX2 D2 KV1 KN1 KX1 D1 KV0 KN0 KX0 D0
    go_enter Try.func4, Try.ntmps4
    go_wp2_with fail
    refine (valive_any _).mono ?_
    rintro e v1_ ⟨rfl, hb⟩
    have HV1 := Lib.hid (HV0.out.next hb)
    have HN1 := Lib.hid (HN0.out.next hb)
    have HX1 := Lib.hid (HX0.out.next hb)
    have HB1 := Lib.hid (below_then HB0.out hb)
    clear HV0 HN0 HX0 HB0
    clear hb
    have xm0 := (show BoxZ _ (w.heap.size) p B1 m1 d1 from HX1.out ⟨w.heap.size, p, B1, m1, d1⟩ (.tail _ (.head _))).c0
    have xm1 := (show BoxZ _ (w.heap.size) p B1 m1 d1 from HX1.out ⟨w.heap.size, p, B1, m1, d1⟩ (.tail _ (.head _))).c1
    have xn0 := (show BoxZ _ (w.heap.size + 1) q B2 m2 d2 from HX1.out ⟨w.heap.size + 1, q, B2, m2, d2⟩ (.head _)).c0
    have xn1 := (show BoxZ _ (w.heap.size + 1) q B2 m2 d2 from HX1.out ⟨w.heap.size + 1, q, B2, m2, d2⟩ (.head _)).c1
    go_wp2_with fail
    refine (Ga.out _ HB1.out).mono ?_
    rintro e v2_ ⟨rfl, hb⟩
    rw [Ka.out]
    have HV2 := Lib.hid (HV1.out.next hb)
    have HN2 := Lib.hid (HN1.out.next hb)
    have HX2 := Lib.hid (HX1.out.next hb)
    have HB2 := Lib.hid (below_then HB1.out hb)
    clear HV1 HN1 HX1 HB1
    clear hb
    clear xm0 xm1 xn0 xn1
    have xm0 := (show BoxZ _ (w.heap.size) p B1 m1 d1 from HX2.out ⟨w.heap.size, p, B1, m1, d1⟩ (.tail _ (.head _))).c0
    have xm1 := (show BoxZ _ (w.heap.size) p B1 m1 d1 from HX2.out ⟨w.heap.size, p, B1, m1, d1⟩ (.tail _ (.head _))).c1
    have xn0 := (show BoxZ _ (w.heap.size + 1) q B2 m2 d2 from HX2.out ⟨w.heap.size + 1, q, B2, m2, d2⟩ (.head _)).c0
    have xn1 := (show BoxZ _ (w.heap.size + 1) q B2 m2 d2 from HX2.out ⟨w.heap.size + 1, q, B2, m2, d2⟩ (.head _)).c1
    go_wp2
    go_ret
    exact ⟨rfl, HB2.out⟩
  | false =>
    have Ka := Lib.hid ka
    cases kb : greatV Lb 20 10 with
    | true =>
      have Kb := Lib.hid kb
      clear hl ka kb
      have KV0 := heldv_nil w
      have KN0 := heldn_nil w
      have KX0 := heldx_nil w
      have D0 := Below.refl w.heap.size w
      have KV1 := KV0.next (bxb _ (zo p B1 m1 d1))
      have KN1 := KN0.next (bxb _ (zo p B1 m1 d1))
      have KX1 := (KX0.next (bxb _ (zo p B1 m1 d1))).cons (show BoxZ _ _ p B1 m1 d1 from World.alloc_heap_new _ _)
      have D1 := below_then D0 (bxb _ (zo p B1 m1 d1))
      have KV2 := KV1.next (bxb _ (zo q B2 m2 d2))
      have KN2 := KN1.next (bxb _ (zo q B2 m2 d2))
      have KX2 := (KX1.next (bxb _ (zo q B2 m2 d2))).cons (show BoxZ _ _ q B2 m2 d2 from World.alloc_heap_new _ _)
      have D2 := below_then D1 (bxb _ (zo q B2 m2 d2))
      try simp only [World.size_alloc] at KV2
      have HV0 := Lib.hid KV2
      try simp only [World.size_alloc] at KN2
      have HN0 := Lib.hid KN2
      try simp only [World.size_alloc] at KX2
      have HX0 := Lib.hid KX2
      have HB0 := Lib.hid D2
      clear KV2 KN2 KX2 D2 KV1 KN1 KX1 D1 KV0 KN0 KX0 D0
      go_enter Try.func4, Try.ntmps4
      go_wp2_with fail
      refine (valive_any _).mono ?_
      rintro e v1_ ⟨rfl, hb⟩
      have HV1 := Lib.hid (HV0.out.next hb)
      have HN1 := Lib.hid (HN0.out.next hb)
      have HX1 := Lib.hid (HX0.out.next hb)
      have HB1 := Lib.hid (below_then HB0.out hb)
      clear HV0 HN0 HX0 HB0
      clear hb
      have xm0 := (show BoxZ _ (w.heap.size) p B1 m1 d1 from HX1.out ⟨w.heap.size, p, B1, m1, d1⟩ (.tail _ (.head _))).c0
      have xm1 := (show BoxZ _ (w.heap.size) p B1 m1 d1 from HX1.out ⟨w.heap.size, p, B1, m1, d1⟩ (.tail _ (.head _))).c1
      have xn0 := (show BoxZ _ (w.heap.size + 1) q B2 m2 d2 from HX1.out ⟨w.heap.size + 1, q, B2, m2, d2⟩ (.head _)).c0
      have xn1 := (show BoxZ _ (w.heap.size + 1) q B2 m2 d2 from HX1.out ⟨w.heap.size + 1, q, B2, m2, d2⟩ (.head _)).c1
      go_wp2_with fail
      refine (Ga.out _ HB1.out).mono ?_
      rintro e v2_ ⟨rfl, hb⟩
      rw [Ka.out]
      have HV2 := Lib.hid (HV1.out.next hb)
      have HN2 := Lib.hid (HN1.out.next hb)
      have HX2 := Lib.hid (HX1.out.next hb)
      have HB2 := Lib.hid (below_then HB1.out hb)
      clear HV1 HN1 HX1 HB1
      clear hb
      clear xm0 xm1 xn0 xn1
      have xm0 := (show BoxZ _ (w.heap.size) p B1 m1 d1 from HX2.out ⟨w.heap.size, p, B1, m1, d1⟩ (.tail _ (.head _))).c0
      have xm1 := (show BoxZ _ (w.heap.size) p B1 m1 d1 from HX2.out ⟨w.heap.size, p, B1, m1, d1⟩ (.tail _ (.head _))).c1
      have xn0 := (show BoxZ _ (w.heap.size + 1) q B2 m2 d2 from HX2.out ⟨w.heap.size + 1, q, B2, m2, d2⟩ (.head _)).c0
      have xn1 := (show BoxZ _ (w.heap.size + 1) q B2 m2 d2 from HX2.out ⟨w.heap.size + 1, q, B2, m2, d2⟩ (.head _)).c1
      go_wp2_with fail
      refine (Gb.out _ HB2.out).mono ?_
      rintro e v3_ ⟨rfl, hb⟩
      rw [Kb.out]
      have HV3 := Lib.hid (HV2.out.next hb)
      have HN3 := Lib.hid (HN2.out.next hb)
      have HX3 := Lib.hid (HX2.out.next hb)
      have HB3 := Lib.hid (below_then HB2.out hb)
      clear HV2 HN2 HX2 HB2
      clear hb
      clear xm0 xm1 xn0 xn1
      have xm0 := (show BoxZ _ (w.heap.size) p B1 m1 d1 from HX3.out ⟨w.heap.size, p, B1, m1, d1⟩ (.tail _ (.head _))).c0
      have xm1 := (show BoxZ _ (w.heap.size) p B1 m1 d1 from HX3.out ⟨w.heap.size, p, B1, m1, d1⟩ (.tail _ (.head _))).c1
      have xn0 := (show BoxZ _ (w.heap.size + 1) q B2 m2 d2 from HX3.out ⟨w.heap.size + 1, q, B2, m2, d2⟩ (.head _)).c0
      have xn1 := (show BoxZ _ (w.heap.size + 1) q B2 m2 d2 from HX3.out ⟨w.heap.size + 1, q, B2, m2, d2⟩ (.head _)).c1
      go_wp2
      go_ret
      exact ⟨rfl, HB3.out⟩
    | false =>
      have Kb := Lib.hid kb
      cases kc : greatV Lc 20 10 with
      | true =>
        have Kc := Lib.hid kc
        clear hl ka kb kc
        have KV0 := heldv_nil w
        have KN0 := heldn_nil w
        have KX0 := heldx_nil w
        have D0 := Below.refl w.heap.size w
        have KV1 := KV0.next (bxb _ (zo p B1 m1 d1))
        have KN1 := KN0.next (bxb _ (zo p B1 m1 d1))
        have KX1 := (KX0.next (bxb _ (zo p B1 m1 d1))).cons (show BoxZ _ _ p B1 m1 d1 from World.alloc_heap_new _ _)
        have D1 := below_then D0 (bxb _ (zo p B1 m1 d1))
        have KV2 := KV1.next (bxb _ (zo q B2 m2 d2))
        have KN2 := KN1.next (bxb _ (zo q B2 m2 d2))
        have KX2 := (KX1.next (bxb _ (zo q B2 m2 d2))).cons (show BoxZ _ _ q B2 m2 d2 from World.alloc_heap_new _ _)
        have D2 := below_then D1 (bxb _ (zo q B2 m2 d2))
        try simp only [World.size_alloc] at KV2
        have HV0 := Lib.hid KV2
        try simp only [World.size_alloc] at KN2
        have HN0 := Lib.hid KN2
        try simp only [World.size_alloc] at KX2
        have HX0 := Lib.hid KX2
        have HB0 := Lib.hid D2
        clear KV2 KN2 KX2 D2 KV1 KN1 KX1 D1 KV0 KN0 KX0 D0
        go_enter Try.func4, Try.ntmps4
        go_wp2_with fail
        refine (valive_any _).mono ?_
        rintro e v1_ ⟨rfl, hb⟩
        have HV1 := Lib.hid (HV0.out.next hb)
        have HN1 := Lib.hid (HN0.out.next hb)
        have HX1 := Lib.hid (HX0.out.next hb)
        have HB1 := Lib.hid (below_then HB0.out hb)
        clear HV0 HN0 HX0 HB0
        clear hb
        have xm0 := (show BoxZ _ (w.heap.size) p B1 m1 d1 from HX1.out ⟨w.heap.size, p, B1, m1, d1⟩ (.tail _ (.head _))).c0
        have xm1 := (show BoxZ _ (w.heap.size) p B1 m1 d1 from HX1.out ⟨w.heap.size, p, B1, m1, d1⟩ (.tail _ (.head _))).c1
        have xn0 := (show BoxZ _ (w.heap.size + 1) q B2 m2 d2 from HX1.out ⟨w.heap.size + 1, q, B2, m2, d2⟩ (.head _)).c0
        have xn1 := (show BoxZ _ (w.heap.size + 1) q B2 m2 d2 from HX1.out ⟨w.heap.size + 1, q, B2, m2, d2⟩ (.head _)).c1
        go_wp2_with fail
        refine (Ga.out _ HB1.out).mono ?_
        rintro e v2_ ⟨rfl, hb⟩
        rw [Ka.out]
        have HV2 := Lib.hid (HV1.out.next hb)
        have HN2 := Lib.hid (HN1.out.next hb)
        have HX2 := Lib.hid (HX1.out.next hb)
        have HB2 := Lib.hid (below_then HB1.out hb)
        clear HV1 HN1 HX1 HB1
        clear hb
        clear xm0 xm1 xn0 xn1
        have xm0 := (show BoxZ _ (w.heap.size) p B1 m1 d1 from HX2.out ⟨w.heap.size, p, B1, m1, d1⟩ (.tail _ (.head _))).c0
        have xm1 := (show BoxZ _ (w.heap.size) p B1 m1 d1 from HX2.out ⟨w.heap.size, p, B1, m1, d1⟩ (.tail _ (.head _))).c1
        have xn0 := (show BoxZ _ (w.heap.size + 1) q B2 m2 d2 from HX2.out ⟨w.heap.size + 1, q, B2, m2, d2⟩ (.head _)).c0
        have xn1 := (show BoxZ _ (w.heap.size + 1) q B2 m2 d2 from HX2.out ⟨w.heap.size + 1, q, B2, m2, d2⟩ (.head _)).c1
        go_wp2_with fail
        refine (Gb.out _ HB2.out).mono ?_
        rintro e v3_ ⟨rfl, hb⟩
        rw [Kb.out]
        have HV3 := Lib.hid (HV2.out.next hb)
        have HN3 := Lib.hid (HN2.out.next hb)
        have HX3 := Lib.hid (HX2.out.next hb)
        have HB3 := Lib.hid (below_then HB2.out hb)
        clear HV2 HN2 HX2 HB2
        clear hb
        clear xm0 xm1 xn0 xn1
        have xm0 := (show BoxZ _ (w.heap.size) p B1 m1 d1 from HX3.out ⟨w.heap.size, p, B1, m1, d1⟩ (.tail _ (.head _))).c0
        have xm1 := (show BoxZ _ (w.heap.size) p B1 m1 d1 from HX3.out ⟨w.heap.size, p, B1, m1, d1⟩ (.tail _ (.head _))).c1
        have xn0 := (show BoxZ _ (w.heap.size + 1) q B2 m2 d2 from HX3.out ⟨w.heap.size + 1, q, B2, m2, d2⟩ (.head _)).c0
        have xn1 := (show BoxZ _ (w.heap.size + 1) q B2 m2 d2 from HX3.out ⟨w.heap.size + 1, q, B2, m2, d2⟩ (.head _)).c1
        go_wp2_with fail
        refine (Gc.out _ HB3.out).mono ?_
        rintro e v4_ ⟨rfl, hb⟩
        rw [Kc.out]
        have HV4 := Lib.hid (HV3.out.next hb)
        have HN4 := Lib.hid (HN3.out.next hb)
        have HX4 := Lib.hid (HX3.out.next hb)
        have HB4 := Lib.hid (below_then HB3.out hb)
        clear HV3 HN3 HX3 HB3
        clear hb
        clear xm0 xm1 xn0 xn1
        have xm0 := (show BoxZ _ (w.heap.size) p B1 m1 d1 from HX4.out ⟨w.heap.size, p, B1, m1, d1⟩ (.tail _ (.head _))).c0
        have xm1 := (show BoxZ _ (w.heap.size) p B1 m1 d1 from HX4.out ⟨w.heap.size, p, B1, m1, d1⟩ (.tail _ (.head _))).c1
        have xn0 := (show BoxZ _ (w.heap.size + 1) q B2 m2 d2 from HX4.out ⟨w.heap.size + 1, q, B2, m2, d2⟩ (.head _)).c0
        have xn1 := (show BoxZ _ (w.heap.size + 1) q B2 m2 d2 from HX4.out ⟨w.heap.size + 1, q, B2, m2, d2⟩ (.head _)).c1
        go_wp2
        go_ret
        exact ⟨rfl, HB4.out⟩
      | false =>
        have Kc := Lib.hid kc
        by_cases km : m1 ≤ 10
        · have kn : ¬ m2 ≤ 10 := fun kn => hl ⟨ka, kb, kc, km, kn⟩
          have g1 : ¬ (10 : Int) < (m1 : Int) := by omega
          have g2 : (10 : Int) < (m2 : Int) := by omega
          clear hl ka kb kc
          have KV0 := heldv_nil w
          have KN0 := heldn_nil w
          have KX0 := heldx_nil w
          have D0 := Below.refl w.heap.size w
          have KV1 := KV0.next (bxb _ (zo p B1 m1 d1))
          have KN1 := KN0.next (bxb _ (zo p B1 m1 d1))
          have KX1 := (KX0.next (bxb _ (zo p B1 m1 d1))).cons (show BoxZ _ _ p B1 m1 d1 from World.alloc_heap_new _ _)
          have D1 := below_then D0 (bxb _ (zo p B1 m1 d1))
          have KV2 := KV1.next (bxb _ (zo q B2 m2 d2))
          have KN2 := KN1.next (bxb _ (zo q B2 m2 d2))
          have KX2 := (KX1.next (bxb _ (zo q B2 m2 d2))).cons (show BoxZ _ _ q B2 m2 d2 from World.alloc_heap_new _ _)
          have D2 := below_then D1 (bxb _ (zo q B2 m2 d2))
          try simp only [World.size_alloc] at KV2
          have HV0 := Lib.hid KV2
          try simp only [World.size_alloc] at KN2
          have HN0 := Lib.hid KN2
          try simp only [World.size_alloc] at KX2
          have HX0 := Lib.hid KX2
          have HB0 := Lib.hid D2
          clear KV2 KN2 KX2 D2 KV1 KN1 KX1 D1 KV0 KN0 KX0 D0
          go_enter Try.func4, Try.ntmps4
          go_wp2_with fail
          refine (valive_any _).mono ?_
          rintro e v1_ ⟨rfl, hb⟩
          have HV1 := Lib.hid (HV0.out.next hb)
          have HN1 := Lib.hid (HN0.out.next hb)
          have HX1 := Lib.hid (HX0.out.next hb)
          have HB1 := Lib.hid (below_then HB0.out hb)
          clear HV0 HN0 HX0 HB0
          clear hb
          have xm0 := (show BoxZ _ (w.heap.size) p B1 m1 d1 from HX1.out ⟨w.heap.size, p, B1, m1, d1⟩ (.tail _ (.head _))).c0
          have xm1 := (show BoxZ _ (w.heap.size) p B1 m1 d1 from HX1.out ⟨w.heap.size, p, B1, m1, d1⟩ (.tail _ (.head _))).c1
          have xn0 := (show BoxZ _ (w.heap.size + 1) q B2 m2 d2 from HX1.out ⟨w.heap.size + 1, q, B2, m2, d2⟩ (.head _)).c0
          have xn1 := (show BoxZ _ (w.heap.size + 1) q B2 m2 d2 from HX1.out ⟨w.heap.size + 1, q, B2, m2, d2⟩ (.head _)).c1
          go_wp2_with fail
          refine (Ga.out _ HB1.out).mono ?_
          rintro e v2_ ⟨rfl, hb⟩
          rw [Ka.out]
          have HV2 := Lib.hid (HV1.out.next hb)
          have HN2 := Lib.hid (HN1.out.next hb)
          have HX2 := Lib.hid (HX1.out.next hb)
          have HB2 := Lib.hid (below_then HB1.out hb)
          clear HV1 HN1 HX1 HB1
          clear hb
          clear xm0 xm1 xn0 xn1
          have xm0 := (show BoxZ _ (w.heap.size) p B1 m1 d1 from HX2.out ⟨w.heap.size, p, B1, m1, d1⟩ (.tail _ (.head _))).c0
          have xm1 := (show BoxZ _ (w.heap.size) p B1 m1 d1 from HX2.out ⟨w.heap.size, p, B1, m1, d1⟩ (.tail _ (.head _))).c1
          have xn0 := (show BoxZ _ (w.heap.size + 1) q B2 m2 d2 from HX2.out ⟨w.heap.size + 1, q, B2, m2, d2⟩ (.head _)).c0
          have xn1 := (show BoxZ _ (w.heap.size + 1) q B2 m2 d2 from HX2.out ⟨w.heap.size + 1, q, B2, m2, d2⟩ (.head _)).c1
          go_wp2_with fail
          refine (Gb.out _ HB2.out).mono ?_
          rintro e v3_ ⟨rfl, hb⟩
          rw [Kb.out]
          have HV3 := Lib.hid (HV2.out.next hb)
          have HN3 := Lib.hid (HN2.out.next hb)
          have HX3 := Lib.hid (HX2.out.next hb)
          have HB3 := Lib.hid (below_then HB2.out hb)
          clear HV2 HN2 HX2 HB2
          clear hb
          clear xm0 xm1 xn0 xn1
          have xm0 := (show BoxZ _ (w.heap.size) p B1 m1 d1 from HX3.out ⟨w.heap.size, p, B1, m1, d1⟩ (.tail _ (.head _))).c0
          have xm1 := (show BoxZ _ (w.heap.size) p B1 m1 d1 from HX3.out ⟨w.heap.size, p, B1, m1, d1⟩ (.tail _ (.head _))).c1
          have xn0 := (show BoxZ _ (w.heap.size + 1) q B2 m2 d2 from HX3.out ⟨w.heap.size + 1, q, B2, m2, d2⟩ (.head _)).c0
          have xn1 := (show BoxZ _ (w.heap.size + 1) q B2 m2 d2 from HX3.out ⟨w.heap.size + 1, q, B2, m2, d2⟩ (.head _)).c1
          go_wp2_with fail
          refine (Gc.out _ HB3.out).mono ?_
          rintro e v4_ ⟨rfl, hb⟩
          rw [Kc.out]
          have HV4 := Lib.hid (HV3.out.next hb)
          have HN4 := Lib.hid (HN3.out.next hb)
          have HX4 := Lib.hid (HX3.out.next hb)
          have HB4 := Lib.hid (below_then HB3.out hb)
          clear HV3 HN3 HX3 HB3
          clear hb
          clear xm0 xm1 xn0 xn1
          have xm0 := (show BoxZ _ (w.heap.size) p B1 m1 d1 from HX4.out ⟨w.heap.size, p, B1, m1, d1⟩ (.tail _ (.head _))).c0
          have xm1 := (show BoxZ _ (w.heap.size) p B1 m1 d1 from HX4.out ⟨w.heap.size, p, B1, m1, d1⟩ (.tail _ (.head _))).c1
          have xn0 := (show BoxZ _ (w.heap.size + 1) q B2 m2 d2 from HX4.out ⟨w.heap.size + 1, q, B2, m2, d2⟩ (.head _)).c0
          have xn1 := (show BoxZ _ (w.heap.size + 1) q B2 m2 d2 from HX4.out ⟨w.heap.size + 1, q, B2, m2, d2⟩ (.head _)).c1
          go_wp2_with fail
          go_ret
          exact ⟨rfl, HB4.out⟩
        · have g1 : (10 : Int) < (m1 : Int) := by omega
          clear hl ka kb kc
          have KV0 := heldv_nil w
          have KN0 := heldn_nil w
          have KX0 := heldx_nil w
          have D0 := Below.refl w.heap.size w
          have KV1 := KV0.next (bxb _ (zo p B1 m1 d1))
          have KN1 := KN0.next (bxb _ (zo p B1 m1 d1))
          have KX1 := (KX0.next (bxb _ (zo p B1 m1 d1))).cons (show BoxZ _ _ p B1 m1 d1 from World.alloc_heap_new _ _)
          have D1 := below_then D0 (bxb _ (zo p B1 m1 d1))
          have KV2 := KV1.next (bxb _ (zo q B2 m2 d2))
          have KN2 := KN1.next (bxb _ (zo q B2 m2 d2))
          have KX2 := (KX1.next (bxb _ (zo q B2 m2 d2))).cons (show BoxZ _ _ q B2 m2 d2 from World.alloc_heap_new _ _)
          have D2 := below_then D1 (bxb _ (zo q B2 m2 d2))
          try simp only [World.size_alloc] at KV2
          have HV0 := Lib.hid KV2
          try simp only [World.size_alloc] at KN2
          have HN0 := Lib.hid KN2
          try simp only [World.size_alloc] at KX2
          have HX0 := Lib.hid KX2
          have HB0 := Lib.hid D2
          clear KV2 KN2 KX2 D2 KV1 KN1 KX1 D1 KV0 KN0 KX0 D0
          go_enter Try.func4, Try.ntmps4
          go_wp2_with fail
          refine (valive_any _).mono ?_
          rintro e v1_ ⟨rfl, hb⟩
          have HV1 := Lib.hid (HV0.out.next hb)
          have HN1 := Lib.hid (HN0.out.next hb)
          have HX1 := Lib.hid (HX0.out.next hb)
          have HB1 := Lib.hid (below_then HB0.out hb)
          clear HV0 HN0 HX0 HB0
          clear hb
          have xm0 := (show BoxZ _ (w.heap.size) p B1 m1 d1 from HX1.out ⟨w.heap.size, p, B1, m1, d1⟩ (.tail _ (.head _))).c0
          have xm1 := (show BoxZ _ (w.heap.size) p B1 m1 d1 from HX1.out ⟨w.heap.size, p, B1, m1, d1⟩ (.tail _ (.head _))).c1
          have xn0 := (show BoxZ _ (w.heap.size + 1) q B2 m2 d2 from HX1.out ⟨w.heap.size + 1, q, B2, m2, d2⟩ (.head _)).c0
          have xn1 := (show BoxZ _ (w.heap.size + 1) q B2 m2 d2 from HX1.out ⟨w.heap.size + 1, q, B2, m2, d2⟩ (.head _)).c1
          go_wp2_with fail
          refine (Ga.out _ HB1.out).mono ?_
          rintro e v2_ ⟨rfl, hb⟩
          rw [Ka.out]
          have HV2 := Lib.hid (HV1.out.next hb)
          have HN2 := Lib.hid (HN1.out.next hb)
          have HX2 := Lib.hid (HX1.out.next hb)
          have HB2 := Lib.hid (below_then HB1.out hb)
          clear HV1 HN1 HX1 HB1
          clear hb
          clear xm0 xm1 xn0 xn1
          have xm0 := (show BoxZ _ (w.heap.size) p B1 m1 d1 from HX2.out ⟨w.heap.size, p, B1, m1, d1⟩ (.tail _ (.head _))).c0
          have xm1 := (show BoxZ _ (w.heap.size) p B1 m1 d1 from HX2.out ⟨w.heap.size, p, B1, m1, d1⟩ (.tail _ (.head _))).c1
          have xn0 := (show BoxZ _ (w.heap.size + 1) q B2 m2 d2 from HX2.out ⟨w.heap.size + 1, q, B2, m2, d2⟩ (.head _)).c0
          have xn1 := (show BoxZ _ (w.heap.size + 1) q B2 m2 d2 from HX2.out ⟨w.heap.size + 1, q, B2, m2, d2⟩ (.head _)).c1
          go_wp2_with fail
          refine (Gb.out _ HB2.out).mono ?_
          rintro e v3_ ⟨rfl, hb⟩
          rw [Kb.out]
          have HV3 := Lib.hid (HV2.out.next hb)
          have HN3 := Lib.hid (HN2.out.next hb)
          have HX3 := Lib.hid (HX2.out.next hb)
          have HB3 := Lib.hid (below_then HB2.out hb)
          clear HV2 HN2 HX2 HB2
          clear hb
          clear xm0 xm1 xn0 xn1
          have xm0 := (show BoxZ _ (w.heap.size) p B1 m1 d1 from HX3.out ⟨w.heap.size, p, B1, m1, d1⟩ (.tail _ (.head _))).c0
          have xm1 := (show BoxZ _ (w.heap.size) p B1 m1 d1 from HX3.out ⟨w.heap.size, p, B1, m1, d1⟩ (.tail _ (.head _))).c1
          have xn0 := (show BoxZ _ (w.heap.size + 1) q B2 m2 d2 from HX3.out ⟨w.heap.size + 1, q, B2, m2, d2⟩ (.head _)).c0
          have xn1 := (show BoxZ _ (w.heap.size + 1) q B2 m2 d2 from HX3.out ⟨w.heap.size + 1, q, B2, m2, d2⟩ (.head _)).c1
          go_wp2_with fail
          refine (Gc.out _ HB3.out).mono ?_
          rintro e v4_ ⟨rfl, hb⟩
          rw [Kc.out]
          have HV4 := Lib.hid (HV3.out.next hb)
          have HN4 := Lib.hid (HN3.out.next hb)
          have HX4 := Lib.hid (HX3.out.next hb)
          have HB4 := Lib.hid (below_then HB3.out hb)
          clear HV3 HN3 HX3 HB3
          clear hb
          clear xm0 xm1 xn0 xn1
          have xm0 := (show BoxZ _ (w.heap.size) p B1 m1 d1 from HX4.out ⟨w.heap.size, p, B1, m1, d1⟩ (.tail _ (.head _))).c0
          have xm1 := (show BoxZ _ (w.heap.size) p B1 m1 d1 from HX4.out ⟨w.heap.size, p, B1, m1, d1⟩ (.tail _ (.head _))).c1
          have xn0 := (show BoxZ _ (w.heap.size + 1) q B2 m2 d2 from HX4.out ⟨w.heap.size + 1, q, B2, m2, d2⟩ (.head _)).c0
          have xn1 := (show BoxZ _ (w.heap.size + 1) q B2 m2 d2 from HX4.out ⟨w.heap.size + 1, q, B2, m2, d2⟩ (.head _)).c1
          go_wp2_with fail
          go_ret
          exact ⟨rfl, HB4.out⟩
set_option maxRecDepth 100000 in
set_option maxHeartbeats 4000000 in
theorem dots_bad (A1 A2 A3 B1 B2 : Option Addr) (n1 c1 n2 c2 n3 c3 m1 d1 m2 d2 : Nat) (La Lb Lc : List ZE) (p q : Bool) (w : World) (a b : List Nat) (ra : RV w A1 n1 c1 La) (rb : RV w A2 n2 c2 Lb) (rc : RV w A3 n3 c3 Lc) (va : V1 w A1 n1 c1 La) (vb : V1 w A2 n2 c2 Lb) (vc : V1 w A3 n3 c3 Lc) (za : Z1 w B1 m1 d1 a) (zb : Z1 w B2 m2 d2 b) (la : m1 ≤ 10) (lb : m2 ≤ 10) (Ka : Hid (greatV La 20 10 = false)) (Kb : Hid (greatV Lb 20 10 = false)) (Kc : Hid (greatV Lc 20 10 = false))
    (hbad : ¬ (mayZ p a = true ∧ mayZ q b = true ∧ twoVE La Lc = 0 ∧ twoVE Lb Lc = 0)) : Calls Try.prog 4 #[.slice A1 n1 c1, .slice A2 n2 c2, .slice A3 n3 c3, .agg #[.bool p, .slice B1 m1 d1], .agg #[.bool q, .slice B2 m2 d2]] w fun e w' => e = .returned (.bool true) ∧ Below w.heap.size w w' := by
  have Ga := Lib.hid (fun W (hW : Below w.heap.size w W) => (ra.below hW).great20)
  have Gb := Lib.hid (fun W (hW : Below w.heap.size w W) => (rb.below hW).great20)
  have Gc := Lib.hid (fun W (hW : Below w.heap.size w W) => (rc.below hW).great20)
  have g1 : ¬ (10 : Int) < (m1 : Int) := by omega
  have g2 : ¬ (10 : Int) < (m2 : Int) := by omega
  have N1 := Lib.hid (fun W (hW : Below w.heap.size w W) => dotW (va.below hW) (vc.below hW))
  have N2 := Lib.hid (fun W (hW : Below w.heap.size w W) => dotW (vb.below hW) (vc.below hW))
  have N3 := Lib.hid (fun W (hW : Below w.heap.size w W) => mixW (p := p) (q := q) (a := a) (b := b) (va.below hW) (vb.below hW) ⟨za.ra.below hW, za.la, za.ca1, za.ca2⟩ ⟨zb.ra.below hW, zb.la, zb.ca1, zb.ca2⟩ (by omega) (by omega) rfl)
  have hE : ¬ (twoVE La Lc = 0 ∧ twoVE Lb Lc = 0 ∧ (if mayZ p a && mayZ q b then twoVE La Lb else 8) = 0) := fun h => by
    refine hbad ⟨?_, ?_, h.1, h.2.1⟩
    · cases e : mayZ p a with
      | true => rfl
      | false => rw [e] at h; simp at h
    · cases e : mayZ q b with
      | true => rfl
      | false => rw [e, Bool.and_false] at h; simp at h
  clear ra rb rc va vb vc za zb hbad
  generalize (if mayZ p a && mayZ q b then twoVE La Lb else 8) = E3 at *
  generalize twoVE La Lc = E1 at *
  generalize twoVE Lb Lc = E2 at *
  unfold WNum WRow at *
  by_cases h1 : E1 = 0
  · subst h1
    by_cases h2 : E2 = 0
    · subst h2
      have h0 : ¬ E3 = 0 := fun h => hE ⟨rfl, rfl, h⟩
      have s1 : ((E3 : Int) != 0) = true := by simpa using h0
      have s2 : ((E3 : Int) == 0) = false := by simpa using h0
      clear hE h0
      have KV0 := heldv_nil w
      have KN0 := heldn_nil w
      have KX0 := heldx_nil w
      have D0 := Below.refl w.heap.size w
      have KV1 := KV0.next (bxb _ (zo p B1 m1 d1))
      have KN1 := KN0.next (bxb _ (zo p B1 m1 d1))
      have KX1 := (KX0.next (bxb _ (zo p B1 m1 d1))).cons (show BoxZ _ _ p B1 m1 d1 from World.alloc_heap_new _ _)
      have D1 := below_then D0 (bxb _ (zo p B1 m1 d1))
      have KV2 := KV1.next (bxb _ (zo q B2 m2 d2))
      have KN2 := KN1.next (bxb _ (zo q B2 m2 d2))
      have KX2 := (KX1.next (bxb _ (zo q B2 m2 d2))).cons (show BoxZ _ _ q B2 m2 d2 from World.alloc_heap_new _ _)
      have D2 := below_then D1 (bxb _ (zo q B2 m2 d2))
      try simp only [World.size_alloc] at KV2
      have HV0 := Lib.hid KV2
      try simp only [World.size_alloc] at KN2
      have HN0 := Lib.hid KN2
      try simp only [World.size_alloc] at KX2
      have HX0 := Lib.hid KX2
      have HB0 := Lib.hid D2
      clear KV2 KN2 KX2 D2 KV1 KN1 KX1 D1 KV0 KN0 KX0 D0
      go_enter Try.func4, Try.ntmps4
      go_wp2_with fail
      refine (valive_any _).mono ?_
      rintro e v1_ ⟨rfl, hb⟩
      have HV1 := Lib.hid (HV0.out.next hb)
      have HN1 := Lib.hid (HN0.out.next hb)
      have HX1 := Lib.hid (HX0.out.next hb)
      have HB1 := Lib.hid (below_then HB0.out hb)
      clear HV0 HN0 HX0 HB0
      clear hb
      have xm0 := (show BoxZ _ (w.heap.size) p B1 m1 d1 from HX1.out ⟨w.heap.size, p, B1, m1, d1⟩ (.tail _ (.head _))).c0
      have xm1 := (show BoxZ _ (w.heap.size) p B1 m1 d1 from HX1.out ⟨w.heap.size, p, B1, m1, d1⟩ (.tail _ (.head _))).c1
      have xn0 := (show BoxZ _ (w.heap.size + 1) q B2 m2 d2 from HX1.out ⟨w.heap.size + 1, q, B2, m2, d2⟩ (.head _)).c0
      have xn1 := (show BoxZ _ (w.heap.size + 1) q B2 m2 d2 from HX1.out ⟨w.heap.size + 1, q, B2, m2, d2⟩ (.head _)).c1
      go_wp2_with fail
      refine (Ga.out _ HB1.out).mono ?_
      rintro e v2_ ⟨rfl, hb⟩
      rw [Ka.out]
      have HV2 := Lib.hid (HV1.out.next hb)
      have HN2 := Lib.hid (HN1.out.next hb)
      have HX2 := Lib.hid (HX1.out.next hb)
      have HB2 := Lib.hid (below_then HB1.out hb)
      clear HV1 HN1 HX1 HB1
      clear hb
      clear xm0 xm1 xn0 xn1
      have xm0 := (show BoxZ _ (w.heap.size) p B1 m1 d1 from HX2.out ⟨w.heap.size, p, B1, m1, d1⟩ (.tail _ (.head _))).c0
      have xm1 := (show BoxZ _ (w.heap.size) p B1 m1 d1 from HX2.out ⟨w.heap.size, p, B1, m1, d1⟩ (.tail _ (.head _))).c1
      have xn0 := (show BoxZ _ (w.heap.size + 1) q B2 m2 d2 from HX2.out ⟨w.heap.size + 1, q, B2, m2, d2⟩ (.head _)).c0
      have xn1 := (show BoxZ _ (w.heap.size + 1) q B2 m2 d2 from HX2.out ⟨w.heap.size + 1, q, B2, m2, d2⟩ (.head _)).c1
      go_wp2_with fail
      refine (Gb.out _ HB2.out).mono ?_
      rintro e v3_ ⟨rfl, hb⟩
      rw [Kb.out]
      have HV3 := Lib.hid (HV2.out.next hb)
      have HN3 := Lib.hid (HN2.out.next hb)
      have HX3 := Lib.hid (HX2.out.next hb)
      have HB3 := Lib.hid (below_then HB2.out hb)
      clear HV2 HN2 HX2 HB2
      clear hb
      clear xm0 xm1 xn0 xn1
      have xm0 := (show BoxZ _ (w.heap.size) p B1 m1 d1 from HX3.out ⟨w.heap.size, p, B1, m1, d1⟩ (.tail _ (.head _))).c0
      have xm1 := (show BoxZ _ (w.heap.size) p B1 m1 d1 from HX3.out ⟨w.heap.size, p, B1, m1, d1⟩ (.tail _ (.head _))).c1
      have xn0 := (show BoxZ _ (w.heap.size + 1) q B2 m2 d2 from HX3.out ⟨w.heap.size + 1, q, B2, m2, d2⟩ (.head _)).c0
      have xn1 := (show BoxZ _ (w.heap.size + 1) q B2 m2 d2 from HX3.out ⟨w.heap.size + 1, q, B2, m2, d2⟩ (.head _)).c1
      go_wp2_with fail
      refine (Gc.out _ HB3.out).mono ?_
      rintro e v4_ ⟨rfl, hb⟩
      rw [Kc.out]
      have HV4 := Lib.hid (HV3.out.next hb)
      have HN4 := Lib.hid (HN3.out.next hb)
      have HX4 := Lib.hid (HX3.out.next hb)
      have HB4 := Lib.hid (below_then HB3.out hb)
      clear HV3 HN3 HX3 HB3
      clear hb
      clear xm0 xm1 xn0 xn1
      have xm0 := (show BoxZ _ (w.heap.size) p B1 m1 d1 from HX4.out ⟨w.heap.size, p, B1, m1, d1⟩ (.tail _ (.head _))).c0
      have xm1 := (show BoxZ _ (w.heap.size) p B1 m1 d1 from HX4.out ⟨w.heap.size, p, B1, m1, d1⟩ (.tail _ (.head _))).c1
      have xn0 := (show BoxZ _ (w.heap.size + 1) q B2 m2 d2 from HX4.out ⟨w.heap.size + 1, q, B2, m2, d2⟩ (.head _)).c0
      have xn1 := (show BoxZ _ (w.heap.size + 1) q B2 m2 d2 from HX4.out ⟨w.heap.size + 1, q, B2, m2, d2⟩ (.head _)).c1
      go_wp2_with fail
      refine (N1.out _ HB4.out).mono ?_
      rintro e v5_ ⟨p5_, A5_, n5_, c5_, rfl, hb⟩
      have HV5 := Lib.hid (HV4.out.next (below_then hb (bxb _ (zo p5_ A5_ n5_ c5_))))
      have HN5 := Lib.hid (HN4.out.next (below_then hb (bxb _ (zo p5_ A5_ n5_ c5_))))
      have HX5 := Lib.hid (HX4.out.next (below_then hb (bxb _ (zo p5_ A5_ n5_ c5_))))
      have HB5 := Lib.hid (below_then HB4.out (below_then hb (bxb _ (zo p5_ A5_ n5_ c5_))))
      clear hb HV4 HN4 HX4 HB4
      clear xm0 xm1 xn0 xn1
      have xm0 := (show BoxZ _ (w.heap.size) p B1 m1 d1 from HX5.out ⟨w.heap.size, p, B1, m1, d1⟩ (.tail _ (.head _))).c0
      have xm1 := (show BoxZ _ (w.heap.size) p B1 m1 d1 from HX5.out ⟨w.heap.size, p, B1, m1, d1⟩ (.tail _ (.head _))).c1
      have xn0 := (show BoxZ _ (w.heap.size + 1) q B2 m2 d2 from HX5.out ⟨w.heap.size + 1, q, B2, m2, d2⟩ (.head _)).c0
      have xn1 := (show BoxZ _ (w.heap.size + 1) q B2 m2 d2 from HX5.out ⟨w.heap.size + 1, q, B2, m2, d2⟩ (.head _)).c1
      go_wp2_with fail
      refine (N2.out _ HB5.out).mono ?_
      rintro e v6_ ⟨p6_, A6_, n6_, c6_, rfl, hb⟩
      have HV6 := Lib.hid (HV5.out.next (below_then hb (bxb _ (zo p6_ A6_ n6_ c6_))))
      have HN6 := Lib.hid (HN5.out.next (below_then hb (bxb _ (zo p6_ A6_ n6_ c6_))))
      have HX6 := Lib.hid (HX5.out.next (below_then hb (bxb _ (zo p6_ A6_ n6_ c6_))))
      have HB6 := Lib.hid (below_then HB5.out (below_then hb (bxb _ (zo p6_ A6_ n6_ c6_))))
      clear hb HV5 HN5 HX5 HB5
      clear xm0 xm1 xn0 xn1
      have xm0 := (show BoxZ _ (w.heap.size) p B1 m1 d1 from HX6.out ⟨w.heap.size, p, B1, m1, d1⟩ (.tail _ (.head _))).c0
      have xm1 := (show BoxZ _ (w.heap.size) p B1 m1 d1 from HX6.out ⟨w.heap.size, p, B1, m1, d1⟩ (.tail _ (.head _))).c1
      have xn0 := (show BoxZ _ (w.heap.size + 1) q B2 m2 d2 from HX6.out ⟨w.heap.size + 1, q, B2, m2, d2⟩ (.head _)).c0
      have xn1 := (show BoxZ _ (w.heap.size + 1) q B2 m2 d2 from HX6.out ⟨w.heap.size + 1, q, B2, m2, d2⟩ (.head _)).c1
      go_wp2_with fail
      refine (N3.out _ HB6.out).mono ?_
      rintro e v7_ ⟨A7_, n7_, c7_, rfl, hb⟩
      have HV7 := Lib.hid (HV6.out.next hb)
      have HN7 := Lib.hid (HN6.out.next hb)
      have HX7 := Lib.hid (HX6.out.next hb)
      have HB7 := Lib.hid (below_then HB6.out hb)
      clear HV6 HN6 HX6 HB6
      clear hb
      clear xm0 xm1 xn0 xn1
      go_wp2
      go_ret
      exact ⟨rfl, HB7.out⟩
    · have h0 := h2
      clear h2
      have s1 : ((E2 : Int) != 0) = true := by simpa using h0
      have s2 : ((E2 : Int) == 0) = false := by simpa using h0
      clear hE h0
      have KV0 := heldv_nil w
      have KN0 := heldn_nil w
      have KX0 := heldx_nil w
      have D0 := Below.refl w.heap.size w
      have KV1 := KV0.next (bxb _ (zo p B1 m1 d1))
      have KN1 := KN0.next (bxb _ (zo p B1 m1 d1))
      have KX1 := (KX0.next (bxb _ (zo p B1 m1 d1))).cons (show BoxZ _ _ p B1 m1 d1 from World.alloc_heap_new _ _)
      have D1 := below_then D0 (bxb _ (zo p B1 m1 d1))
      have KV2 := KV1.next (bxb _ (zo q B2 m2 d2))
      have KN2 := KN1.next (bxb _ (zo q B2 m2 d2))
      have KX2 := (KX1.next (bxb _ (zo q B2 m2 d2))).cons (show BoxZ _ _ q B2 m2 d2 from World.alloc_heap_new _ _)
      have D2 := below_then D1 (bxb _ (zo q B2 m2 d2))
      try simp only [World.size_alloc] at KV2
      have HV0 := Lib.hid KV2
      try simp only [World.size_alloc] at KN2
      have HN0 := Lib.hid KN2
      try simp only [World.size_alloc] at KX2
      have HX0 := Lib.hid KX2
      have HB0 := Lib.hid D2
      clear KV2 KN2 KX2 D2 KV1 KN1 KX1 D1 KV0 KN0 KX0 D0
      go_enter Try.func4, Try.ntmps4
      go_wp2_with fail
      refine (valive_any _).mono ?_
      rintro e v1_ ⟨rfl, hb⟩
      have HV1 := Lib.hid (HV0.out.next hb)
      have HN1 := Lib.hid (HN0.out.next hb)
      have HX1 := Lib.hid (HX0.out.next hb)
      have HB1 := Lib.hid (below_then HB0.out hb)
      clear HV0 HN0 HX0 HB0
      clear hb
      have xm0 := (show BoxZ _ (w.heap.size) p B1 m1 d1 from HX1.out ⟨w.heap.size, p, B1, m1, d1⟩ (.tail _ (.head _))).c0
      have xm1 := (show BoxZ _ (w.heap.size) p B1 m1 d1 from HX1.out ⟨w.heap.size, p, B1, m1, d1⟩ (.tail _ (.head _))).c1
      have xn0 := (show BoxZ _ (w.heap.size + 1) q B2 m2 d2 from HX1.out ⟨w.heap.size + 1, q, B2, m2, d2⟩ (.head _)).c0
      have xn1 := (show BoxZ _ (w.heap.size + 1) q B2 m2 d2 from HX1.out ⟨w.heap.size + 1, q, B2, m2, d2⟩ (.head _)).c1
      go_wp2_with fail
      refine (Ga.out _ HB1.out).mono ?_
      rintro e v2_ ⟨rfl, hb⟩
      rw [Ka.out]
      have HV2 := Lib.hid (HV1.out.next hb)
      have HN2 := Lib.hid (HN1.out.next hb)
      have HX2 := Lib.hid (HX1.out.next hb)
      have HB2 := Lib.hid (below_then HB1.out hb)
      clear HV1 HN1 HX1 HB1
      clear hb
      clear xm0 xm1 xn0 xn1
      have xm0 := (show BoxZ _ (w.heap.size) p B1 m1 d1 from HX2.out ⟨w.heap.size, p, B1, m1, d1⟩ (.tail _ (.head _))).c0
      have xm1 := (show BoxZ _ (w.heap.size) p B1 m1 d1 from HX2.out ⟨w.heap.size, p, B1, m1, d1⟩ (.tail _ (.head _))).c1
      have xn0 := (show BoxZ _ (w.heap.size + 1) q B2 m2 d2 from HX2.out ⟨w.heap.size + 1, q, B2, m2, d2⟩ (.head _)).c0
      have xn1 := (show BoxZ _ (w.heap.size + 1) q B2 m2 d2 from HX2.out ⟨w.heap.size + 1, q, B2, m2, d2⟩ (.head _)).c1
      go_wp2_with fail
      refine (Gb.out _ HB2.out).mono ?_
      rintro e v3_ ⟨rfl, hb⟩
      rw [Kb.out]
      have HV3 := Lib.hid (HV2.out.next hb)
      have HN3 := Lib.hid (HN2.out.next hb)
      have HX3 := Lib.hid (HX2.out.next hb)
      have HB3 := Lib.hid (below_then HB2.out hb)
      clear HV2 HN2 HX2 HB2
      clear hb
      clear xm0 xm1 xn0 xn1
      have xm0 := (show BoxZ _ (w.heap.size) p B1 m1 d1 from HX3.out ⟨w.heap.size, p, B1, m1, d1⟩ (.tail _ (.head _))).c0
      have xm1 := (show BoxZ _ (w.heap.size) p B1 m1 d1 from HX3.out ⟨w.heap.size, p, B1, m1, d1⟩ (.tail _ (.head _))).c1
      have xn0 := (show BoxZ _ (w.heap.size + 1) q B2 m2 d2 from HX3.out ⟨w.heap.size + 1, q, B2, m2, d2⟩ (.head _)).c0
      have xn1 := (show BoxZ _ (w.heap.size + 1) q B2 m2 d2 from HX3.out ⟨w.heap.size + 1, q, B2, m2, d2⟩ (.head _)).c1
      go_wp2_with fail
      refine (Gc.out _ HB3.out).mono ?_
      rintro e v4_ ⟨rfl, hb⟩
      rw [Kc.out]
      have HV4 := Lib.hid (HV3.out.next hb)
      have HN4 := Lib.hid (HN3.out.next hb)
      have HX4 := Lib.hid (HX3.out.next hb)
      have HB4 := Lib.hid (below_then HB3.out hb)
      clear HV3 HN3 HX3 HB3
      clear hb
      clear xm0 xm1 xn0 xn1
      have xm0 := (show BoxZ _ (w.heap.size) p B1 m1 d1 from HX4.out ⟨w.heap.size, p, B1, m1, d1⟩ (.tail _ (.head _))).c0
      have xm1 := (show BoxZ _ (w.heap.size) p B1 m1 d1 from HX4.out ⟨w.heap.size, p, B1, m1, d1⟩ (.tail _ (.head _))).c1
      have xn0 := (show BoxZ _ (w.heap.size + 1) q B2 m2 d2 from HX4.out ⟨w.heap.size + 1, q, B2, m2, d2⟩ (.head _)).c0
      have xn1 := (show BoxZ _ (w.heap.size + 1) q B2 m2 d2 from HX4.out ⟨w.heap.size + 1, q, B2, m2, d2⟩ (.head _)).c1
      go_wp2_with fail
      refine (N1.out _ HB4.out).mono ?_
      rintro e v5_ ⟨p5_, A5_, n5_, c5_, rfl, hb⟩
      have HV5 := Lib.hid (HV4.out.next (below_then hb (bxb _ (zo p5_ A5_ n5_ c5_))))
      have HN5 := Lib.hid (HN4.out.next (below_then hb (bxb _ (zo p5_ A5_ n5_ c5_))))
      have HX5 := Lib.hid (HX4.out.next (below_then hb (bxb _ (zo p5_ A5_ n5_ c5_))))
      have HB5 := Lib.hid (below_then HB4.out (below_then hb (bxb _ (zo p5_ A5_ n5_ c5_))))
      clear hb HV4 HN4 HX4 HB4
      clear xm0 xm1 xn0 xn1
      have xm0 := (show BoxZ _ (w.heap.size) p B1 m1 d1 from HX5.out ⟨w.heap.size, p, B1, m1, d1⟩ (.tail _ (.head _))).c0
      have xm1 := (show BoxZ _ (w.heap.size) p B1 m1 d1 from HX5.out ⟨w.heap.size, p, B1, m1, d1⟩ (.tail _ (.head _))).c1
      have xn0 := (show BoxZ _ (w.heap.size + 1) q B2 m2 d2 from HX5.out ⟨w.heap.size + 1, q, B2, m2, d2⟩ (.head _)).c0
      have xn1 := (show BoxZ _ (w.heap.size + 1) q B2 m2 d2 from HX5.out ⟨w.heap.size + 1, q, B2, m2, d2⟩ (.head _)).c1
      go_wp2_with fail
      refine (N2.out _ HB5.out).mono ?_
      rintro e v6_ ⟨p6_, A6_, n6_, c6_, rfl, hb⟩
      have HV6 := Lib.hid (HV5.out.next (below_then hb (bxb _ (zo p6_ A6_ n6_ c6_))))
      have HN6 := Lib.hid (HN5.out.next (below_then hb (bxb _ (zo p6_ A6_ n6_ c6_))))
      have HX6 := Lib.hid (HX5.out.next (below_then hb (bxb _ (zo p6_ A6_ n6_ c6_))))
      have HB6 := Lib.hid (below_then HB5.out (below_then hb (bxb _ (zo p6_ A6_ n6_ c6_))))
      clear hb HV5 HN5 HX5 HB5
      clear xm0 xm1 xn0 xn1
      have xm0 := (show BoxZ _ (w.heap.size) p B1 m1 d1 from HX6.out ⟨w.heap.size, p, B1, m1, d1⟩ (.tail _ (.head _))).c0
      have xm1 := (show BoxZ _ (w.heap.size) p B1 m1 d1 from HX6.out ⟨w.heap.size, p, B1, m1, d1⟩ (.tail _ (.head _))).c1
      have xn0 := (show BoxZ _ (w.heap.size + 1) q B2 m2 d2 from HX6.out ⟨w.heap.size + 1, q, B2, m2, d2⟩ (.head _)).c0
      have xn1 := (show BoxZ _ (w.heap.size + 1) q B2 m2 d2 from HX6.out ⟨w.heap.size + 1, q, B2, m2, d2⟩ (.head _)).c1
      go_wp2_with fail
      refine (N3.out _ HB6.out).mono ?_
      rintro e v7_ ⟨A7_, n7_, c7_, rfl, hb⟩
      have HV7 := Lib.hid (HV6.out.next hb)
      have HN7 := Lib.hid (HN6.out.next hb)
      have HX7 := Lib.hid (HX6.out.next hb)
      have HB7 := Lib.hid (below_then HB6.out hb)
      clear HV6 HN6 HX6 HB6
      clear hb
      clear xm0 xm1 xn0 xn1
      go_wp2
      go_ret
      exact ⟨rfl, HB7.out⟩
  · have h0 := h1
    clear h1
    have s1 : ((E1 : Int) != 0) = true := by simpa using h0
    have s2 : ((E1 : Int) == 0) = false := by simpa using h0
    clear hE h0
    have KV0 := heldv_nil w
    have KN0 := heldn_nil w
    have KX0 := heldx_nil w
    have D0 := Below.refl w.heap.size w
    have KV1 := KV0.next (bxb _ (zo p B1 m1 d1))
    have KN1 := KN0.next (bxb _ (zo p B1 m1 d1))
    have KX1 := (KX0.next (bxb _ (zo p B1 m1 d1))).cons (show BoxZ _ _ p B1 m1 d1 from World.alloc_heap_new _ _)
    have D1 := below_then D0 (bxb _ (zo p B1 m1 d1))
    have KV2 := KV1.next (bxb _ (zo q B2 m2 d2))
    have KN2 := KN1.next (bxb _ (zo q B2 m2 d2))
    have KX2 := (KX1.next (bxb _ (zo q B2 m2 d2))).cons (show BoxZ _ _ q B2 m2 d2 from World.alloc_heap_new _ _)
    have D2 := below_then D1 (bxb _ (zo q B2 m2 d2))
    try simp only [World.size_alloc] at KV2
    have HV0 := Lib.hid KV2
    try simp only [World.size_alloc] at KN2
    have HN0 := Lib.hid KN2
    try simp only [World.size_alloc] at KX2
    have HX0 := Lib.hid KX2
    have HB0 := Lib.hid D2
    clear KV2 KN2 KX2 D2 KV1 KN1 KX1 D1 KV0 KN0 KX0 D0
    go_enter Try.func4, Try.ntmps4
    go_wp2_with fail
    refine (valive_any _).mono ?_
    rintro e v1_ ⟨rfl, hb⟩
    have HV1 := Lib.hid (HV0.out.next hb)
    have HN1 := Lib.hid (HN0.out.next hb)
    have HX1 := Lib.hid (HX0.out.next hb)
    have HB1 := Lib.hid (below_then HB0.out hb)
    clear HV0 HN0 HX0 HB0
    clear hb
    have xm0 := (show BoxZ _ (w.heap.size) p B1 m1 d1 from HX1.out ⟨w.heap.size, p, B1, m1, d1⟩ (.tail _ (.head _))).c0
    have xm1 := (show BoxZ _ (w.heap.size) p B1 m1 d1 from HX1.out ⟨w.heap.size, p, B1, m1, d1⟩ (.tail _ (.head _))).c1
    have xn0 := (show BoxZ _ (w.heap.size + 1) q B2 m2 d2 from HX1.out ⟨w.heap.size + 1, q, B2, m2, d2⟩ (.head _)).c0
    have xn1 := (show BoxZ _ (w.heap.size + 1) q B2 m2 d2 from HX1.out ⟨w.heap.size + 1, q, B2, m2, d2⟩ (.head _)).c1
    go_wp2_with fail
    refine (Ga.out _ HB1.out).mono ?_
    rintro e v2_ ⟨rfl, hb⟩
    rw [Ka.out]
    have HV2 := Lib.hid (HV1.out.next hb)
    have HN2 := Lib.hid (HN1.out.next hb)
    have HX2 := Lib.hid (HX1.out.next hb)
    have HB2 := Lib.hid (below_then HB1.out hb)
    clear HV1 HN1 HX1 HB1
    clear hb
    clear xm0 xm1 xn0 xn1
    have xm0 := (show BoxZ _ (w.heap.size) p B1 m1 d1 from HX2.out ⟨w.heap.size, p, B1, m1, d1⟩ (.tail _ (.head _))).c0
    have xm1 := (show BoxZ _ (w.heap.size) p B1 m1 d1 from HX2.out ⟨w.heap.size, p, B1, m1, d1⟩ (.tail _ (.head _))).c1
    have xn0 := (show BoxZ _ (w.heap.size + 1) q B2 m2 d2 from HX2.out ⟨w.heap.size + 1, q, B2, m2, d2⟩ (.head _)).c0
    have xn1 := (show BoxZ _ (w.heap.size + 1) q B2 m2 d2 from HX2.out ⟨w.heap.size + 1, q, B2, m2, d2⟩ (.head _)).c1
    go_wp2_with fail
    refine (Gb.out _ HB2.out).mono ?_
    rintro e v3_ ⟨rfl, hb⟩
    rw [Kb.out]
    have HV3 := Lib.hid (HV2.out.next hb)
    have HN3 := Lib.hid (HN2.out.next hb)
    have HX3 := Lib.hid (HX2.out.next hb)
    have HB3 := Lib.hid (below_then HB2.out hb)
    clear HV2 HN2 HX2 HB2
    clear hb
    clear xm0 xm1 xn0 xn1
    have xm0 := (show BoxZ _ (w.heap.size) p B1 m1 d1 from HX3.out ⟨w.heap.size, p, B1, m1, d1⟩ (.tail _ (.head _))).c0
    have xm1 := (show BoxZ _ (w.heap.size) p B1 m1 d1 from HX3.out ⟨w.heap.size, p, B1, m1, d1⟩ (.tail _ (.head _))).c1
    have xn0 := (show BoxZ _ (w.heap.size + 1) q B2 m2 d2 from HX3.out ⟨w.heap.size + 1, q, B2, m2, d2⟩ (.head _)).c0
    have xn1 := (show BoxZ _ (w.heap.size + 1) q B2 m2 d2 from HX3.out ⟨w.heap.size + 1, q, B2, m2, d2⟩ (.head _)).c1
    go_wp2_with fail
    refine (Gc.out _ HB3.out).mono ?_
    rintro e v4_ ⟨rfl, hb⟩
    rw [Kc.out]
    have HV4 := Lib.hid (HV3.out.next hb)
    have HN4 := Lib.hid (HN3.out.next hb)
    have HX4 := Lib.hid (HX3.out.next hb)
    have HB4 := Lib.hid (below_then HB3.out hb)
    clear HV3 HN3 HX3 HB3
    clear hb
    clear xm0 xm1 xn0 xn1
    have xm0 := (show BoxZ _ (w.heap.size) p B1 m1 d1 from HX4.out ⟨w.heap.size, p, B1, m1, d1⟩ (.tail _ (.head _))).c0
    have xm1 := (show BoxZ _ (w.heap.size) p B1 m1 d1 from HX4.out ⟨w.heap.size, p, B1, m1, d1⟩ (.tail _ (.head _))).c1
    have xn0 := (show BoxZ _ (w.heap.size + 1) q B2 m2 d2 from HX4.out ⟨w.heap.size + 1, q, B2, m2, d2⟩ (.head _)).c0
    have xn1 := (show BoxZ _ (w.heap.size + 1) q B2 m2 d2 from HX4.out ⟨w.heap.size + 1, q, B2, m2, d2⟩ (.head _)).c1
    go_wp2_with fail
    refine (N1.out _ HB4.out).mono ?_
    rintro e v5_ ⟨p5_, A5_, n5_, c5_, rfl, hb⟩
    have HV5 := Lib.hid (HV4.out.next (below_then hb (bxb _ (zo p5_ A5_ n5_ c5_))))
    have HN5 := Lib.hid (HN4.out.next (below_then hb (bxb _ (zo p5_ A5_ n5_ c5_))))
    have HX5 := Lib.hid (HX4.out.next (below_then hb (bxb _ (zo p5_ A5_ n5_ c5_))))
    have HB5 := Lib.hid (below_then HB4.out (below_then hb (bxb _ (zo p5_ A5_ n5_ c5_))))
    clear hb HV4 HN4 HX4 HB4
    clear xm0 xm1 xn0 xn1
    have xm0 := (show BoxZ _ (w.heap.size) p B1 m1 d1 from HX5.out ⟨w.heap.size, p, B1, m1, d1⟩ (.tail _ (.head _))).c0
    have xm1 := (show BoxZ _ (w.heap.size) p B1 m1 d1 from HX5.out ⟨w.heap.size, p, B1, m1, d1⟩ (.tail _ (.head _))).c1
    have xn0 := (show BoxZ _ (w.heap.size + 1) q B2 m2 d2 from HX5.out ⟨w.heap.size + 1, q, B2, m2, d2⟩ (.head _)).c0
    have xn1 := (show BoxZ _ (w.heap.size + 1) q B2 m2 d2 from HX5.out ⟨w.heap.size + 1, q, B2, m2, d2⟩ (.head _)).c1
    go_wp2_with fail
    refine (N2.out _ HB5.out).mono ?_
    rintro e v6_ ⟨p6_, A6_, n6_, c6_, rfl, hb⟩
    have HV6 := Lib.hid (HV5.out.next (below_then hb (bxb _ (zo p6_ A6_ n6_ c6_))))
    have HN6 := Lib.hid (HN5.out.next (below_then hb (bxb _ (zo p6_ A6_ n6_ c6_))))
    have HX6 := Lib.hid (HX5.out.next (below_then hb (bxb _ (zo p6_ A6_ n6_ c6_))))
    have HB6 := Lib.hid (below_then HB5.out (below_then hb (bxb _ (zo p6_ A6_ n6_ c6_))))
    clear hb HV5 HN5 HX5 HB5
    clear xm0 xm1 xn0 xn1
    have xm0 := (show BoxZ _ (w.heap.size) p B1 m1 d1 from HX6.out ⟨w.heap.size, p, B1, m1, d1⟩ (.tail _ (.head _))).c0
    have xm1 := (show BoxZ _ (w.heap.size) p B1 m1 d1 from HX6.out ⟨w.heap.size, p, B1, m1, d1⟩ (.tail _ (.head _))).c1
    have xn0 := (show BoxZ _ (w.heap.size + 1) q B2 m2 d2 from HX6.out ⟨w.heap.size + 1, q, B2, m2, d2⟩ (.head _)).c0
    have xn1 := (show BoxZ _ (w.heap.size + 1) q B2 m2 d2 from HX6.out ⟨w.heap.size + 1, q, B2, m2, d2⟩ (.head _)).c1
    go_wp2_with fail
    refine (N3.out _ HB6.out).mono ?_
    rintro e v7_ ⟨A7_, n7_, c7_, rfl, hb⟩
    have HV7 := Lib.hid (HV6.out.next hb)
    have HN7 := Lib.hid (HN6.out.next hb)
    have HX7 := Lib.hid (HX6.out.next hb)
    have HB7 := Lib.hid (below_then HB6.out hb)
    clear HV6 HN6 HX6 HB6
    clear hb
    clear xm0 xm1 xn0 xn1
    go_wp2
    go_ret
    exact ⟨rfl, HB7.out⟩
set_option maxRecDepth 100000 in
set_option maxHeartbeats 4000000 in
theorem dots_ok (A1 A2 A3 B1 B2 : Option Addr) (nn c1 c2 c3 m1 d1 m2 d2 : Nat) (La Lb Lc : List ZE) (zm zn : Int) (f g h : Nat → Int) (w : World) (ra : RV w A1 nn c1 La) (rb : RV w A2 nn c2 Lb) (rc : RV w A3 nn c3 Lc) (ha : V1 w A1 nn c1 La) (hb : V1 w A2 nn c2 Lb) (hc : V1 w A3 nn c3 Lc) (hm : ZNm w B1 m1 d1 zm) (hn : ZNm w B2 m2 d2 zn) (la : m1 ≤ 10) (lb : m2 ≤ 10) (h20 : nn ≤ 20)
    (Ka : Hid (greatV La 20 10 = false)) (Kb : Hid (greatV Lb 20 10 = false)) (Kc : Hid (greatV Lc 20 10 = false)) (Ia : Hid (IsV La nn f)) (Ib : Hid (IsV Lb nn g)) (Ic : Hid (IsV Lc nn h)) (Ba : Hid (BdV 10 nn f)) (Bb : Hid (BdV 10 nn g)) (Bc : Hid (BdV 10 nn h)) : Calls Try.prog 4 #[.slice A1 nn c1, .slice A2 nn c2, .slice A3 nn c3, .agg #[.bool (decide (zm < 0)), .slice B1 m1 d1], .agg #[.bool (decide (zn < 0)), .slice B2 m2 d2]] w fun e w' => e = .returned (.bool true) ∧ Below w.heap.size w w' := by
  have Ga := Lib.hid (fun W (hW : Below w.heap.size w W) => (ra.below hW).great20)
  have Gb := Lib.hid (fun W (hW : Below w.heap.size w W) => (rb.below hW).great20)
  have Gc := Lib.hid (fun W (hW : Below w.heap.size w W) => (rc.below hW).great20)
  have g1 : ¬ (10 : Int) < (m1 : Int) := by omega
  have g2 : ¬ (10 : Int) < (m2 : Int) := by omega
  have lm : m1 ≤ 60 := by omega
  have ln : m2 ≤ 60 := by omega
  have Zm : Hid (Bd 10 zm) := Bd.of hm la
  have Zn : Hid (Bd 10 zn) := Bd.of hn lb
  have Bx : Hid (BdV 20 nn (fun i => f i * h i)) := fun i hi => (Ba.out i hi).mul (Bc.out i hi)
  have By : Hid (BdV 20 nn (fun i => g i * h i)) := fun i hi => (Bb.out i hi).mul (Bc.out i hi)
  have Bmix : Hid (BdV 21 nn (fun i => zm * f i + zn * g i)) := fun i hi => (Zm.out.mul (Ba.out i hi)).add (Zn.out.mul (Bb.out i hi))
  have Bu : Hid (BdV 20 nn (fun i => f i * zm)) := fun i hi => (Ba.out i hi).mul Zm.out
  have Bv : Hid (BdV 20 nn (fun i => g i * zn)) := fun i hi => (Bb.out i hi).mul Zn.out
  have Bs : Hid (BdV 21 nn (fun i => f i * zm + g i * zn)) := fun i hi => (Bu.out i hi).add (Bv.out i hi)
  have Bz : Hid (BdV 31 nn (fun i => h i * (zm * f i + zn * g i))) := fun i hi => (Bc.out i hi).mul (Bmix.out i hi)
  obtain ⟨x, ex⟩ : ∃ s : Int, s = sumTo (fun i => f i * h i) nn := ⟨_, rfl⟩
  have Lx : Hid (Bd 60 x) := by show Bd _ _; rw [ex]; exact (sum_Bd (by omega) Bx.out (Nat.le_refl _)).mono (by omega)
  have Ex := Lib.hid ex
  clear ex
  obtain ⟨y, ey⟩ : ∃ s : Int, s = sumTo (fun i => g i * h i) nn := ⟨_, rfl⟩
  have Ly : Hid (Bd 60 y) := by show Bd _ _; rw [ey]; exact (sum_Bd (by omega) By.out (Nat.le_refl _)).mono (by omega)
  have Ey := Lib.hid ey
  clear ey
  obtain ⟨z, ez⟩ : ∃ s : Int, s = sumTo (fun i => h i * (zm * f i + zn * g i)) nn := ⟨_, rfl⟩
  have Lz : Hid (Bd 60 z) := by show Bd _ _; rw [ez]; exact (sum_Bd (by omega) Bz.out (Nat.le_refl _)).mono (by omega)
  have Ez := Lib.hid ez
  clear ez
  have Lx2 : Hid (Bd 21 x) := by show Bd _ x; rw [Ex.out]; exact sum_Bd (by omega) Bx.out (Nat.le_refl _)
  have Ly2 : Hid (Bd 21 y) := by show Bd _ y; rw [Ey.out]; exact sum_Bd (by omega) By.out (Nat.le_refl _)
  obtain ⟨pp, epp⟩ : ∃ s : Int, s = zm * x := ⟨_, rfl⟩
  have Lpp : Hid (Bd 60 pp) := by show Bd _ _; rw [epp]; exact (Zm.out.mul Lx2.out).mono (by omega)
  have Epp := Lib.hid epp
  clear epp
  obtain ⟨qq, eqq⟩ : ∃ s : Int, s = zn * y := ⟨_, rfl⟩
  have Lqq : Hid (Bd 60 qq) := by show Bd _ _; rw [eqq]; exact (Zn.out.mul Ly2.out).mono (by omega)
  have Eqq := Lib.hid eqq
  clear eqq
  have Lpp2 : Hid (Bd 31 pp) := by show Bd _ pp; rw [Epp.out]; exact Zm.out.mul Lx2.out
  have Lqq2 : Hid (Bd 31 qq) := by show Bd _ qq; rw [Eqq.out]; exact Zn.out.mul Ly2.out
  obtain ⟨ww, eww⟩ : ∃ s : Int, s = pp + qq := ⟨_, rfl⟩
  have Lww : Hid (Bd 60 ww) := by show Bd _ _; rw [eww]; exact (Lpp2.out.add Lqq2.out).mono (by omega)
  have Eww := Lib.hid eww
  clear eww
  have Q : Hid (z = ww) := by
    show z = ww
    rw [Ez.out, Eww.out, Epp.out, Eqq.out, Ex.out, Ey.out, ← sumTo_mix]
    exact sumTo_congr fun i hi => by rw [Int.mul_add, Int.mul_left_comm, Int.mul_left_comm (h i), Int.mul_comm (h i) (f i), Int.mul_comm (h i) (g i)]
  have Q2 : Hid (∀ i, i < nn → f i * zm + g i * zn = zm * f i + zn * g i) := fun i hi => by rw [Int.mul_comm (f i), Int.mul_comm (g i)]
  clear ra rb rc la lb
  have KV0 := heldv_nil w
  have KN0 := heldn_nil w
  have KX0 := heldx_nil w
  have D0 := Below.refl w.heap.size w
  have KV1 := KV0.cons (ha.below D0)
  have KN1 := KN0
  have KX1 := KX0
  have D1 := D0
  have KV2 := KV1.cons (hb.below D1)
  have KN2 := KN1
  have KX2 := KX1
  have D2 := D1
  have KV3 := KV2.cons (hc.below D2)
  have KN3 := KN2
  have KX3 := KX2
  have D3 := D2
  have KV4 := KV3.next (bxb _ (zo (decide (zm < 0)) B1 m1 d1))
  have KN4 := (KN3.next (bxb _ (zo (decide (zm < 0)) B1 m1 d1))).cons ((hm.below D3).below (bxb _ (zo (decide (zm < 0)) B1 m1 d1))) lm
  have KX4 := (KX3.next (bxb _ (zo (decide (zm < 0)) B1 m1 d1))).cons (show BoxZ _ _ (decide (zm < 0)) B1 m1 d1 from World.alloc_heap_new _ _)
  have D4 := below_then D3 (bxb _ (zo (decide (zm < 0)) B1 m1 d1))
  have KV5 := KV4.next (bxb _ (zo (decide (zn < 0)) B2 m2 d2))
  have KN5 := (KN4.next (bxb _ (zo (decide (zn < 0)) B2 m2 d2))).cons ((hn.below D4).below (bxb _ (zo (decide (zn < 0)) B2 m2 d2))) ln
  have KX5 := (KX4.next (bxb _ (zo (decide (zn < 0)) B2 m2 d2))).cons (show BoxZ _ _ (decide (zn < 0)) B2 m2 d2 from World.alloc_heap_new _ _)
  have D5 := below_then D4 (bxb _ (zo (decide (zn < 0)) B2 m2 d2))
  try simp only [World.size_alloc] at KV5
  have HV0 := Lib.hid KV5
  try simp only [World.size_alloc] at KN5
  have HN0 := Lib.hid KN5
  try simp only [World.size_alloc] at KX5
  have HX0 := Lib.hid KX5
  have HB0 := Lib.hid D5
  clear KV5 KN5 KX5 D5 KV4 KN4 KX4 D4 KV3 KN3 KX3 D3 KV2 KN2 KX2 D2 KV1 KN1 KX1 D1 KV0 KN0 KX0 D0
  clear ha hb hc hm hn
  go_enter Try.func4, Try.ntmps4
  go_wp2_with fail
  refine (valive_any _).mono ?_
  rintro e v1_ ⟨rfl, hb⟩
  have HV1 := Lib.hid (HV0.out.next hb)
  have HN1 := Lib.hid (HN0.out.next hb)
  have HX1 := Lib.hid (HX0.out.next hb)
  have HB1 := Lib.hid (below_then HB0.out hb)
  clear HV0 HN0 HX0 HB0
  clear hb
  have xm0 := (show BoxZ _ (w.heap.size) (decide (zm < 0)) B1 m1 d1 from HX1.out ⟨w.heap.size, (decide (zm < 0)), B1, m1, d1⟩ (.tail _ (.head _))).c0
  have xm1 := (show BoxZ _ (w.heap.size) (decide (zm < 0)) B1 m1 d1 from HX1.out ⟨w.heap.size, (decide (zm < 0)), B1, m1, d1⟩ (.tail _ (.head _))).c1
  have xn0 := (show BoxZ _ (w.heap.size + 1) (decide (zn < 0)) B2 m2 d2 from HX1.out ⟨w.heap.size + 1, (decide (zn < 0)), B2, m2, d2⟩ (.head _)).c0
  have xn1 := (show BoxZ _ (w.heap.size + 1) (decide (zn < 0)) B2 m2 d2 from HX1.out ⟨w.heap.size + 1, (decide (zn < 0)), B2, m2, d2⟩ (.head _)).c1
  go_wp2_with fail
  refine (Ga.out _ HB1.out).mono ?_
  rintro e v2_ ⟨rfl, hb⟩
  rw [Ka.out]
  have HV2 := Lib.hid (HV1.out.next hb)
  have HN2 := Lib.hid (HN1.out.next hb)
  have HX2 := Lib.hid (HX1.out.next hb)
  have HB2 := Lib.hid (below_then HB1.out hb)
  clear HV1 HN1 HX1 HB1
  clear hb
  clear xm0 xm1 xn0 xn1
  have xm0 := (show BoxZ _ (w.heap.size) (decide (zm < 0)) B1 m1 d1 from HX2.out ⟨w.heap.size, (decide (zm < 0)), B1, m1, d1⟩ (.tail _ (.head _))).c0
  have xm1 := (show BoxZ _ (w.heap.size) (decide (zm < 0)) B1 m1 d1 from HX2.out ⟨w.heap.size, (decide (zm < 0)), B1, m1, d1⟩ (.tail _ (.head _))).c1
  have xn0 := (show BoxZ _ (w.heap.size + 1) (decide (zn < 0)) B2 m2 d2 from HX2.out ⟨w.heap.size + 1, (decide (zn < 0)), B2, m2, d2⟩ (.head _)).c0
  have xn1 := (show BoxZ _ (w.heap.size + 1) (decide (zn < 0)) B2 m2 d2 from HX2.out ⟨w.heap.size + 1, (decide (zn < 0)), B2, m2, d2⟩ (.head _)).c1
  go_wp2_with fail
  refine (Gb.out _ HB2.out).mono ?_
  rintro e v3_ ⟨rfl, hb⟩
  rw [Kb.out]
  have HV3 := Lib.hid (HV2.out.next hb)
  have HN3 := Lib.hid (HN2.out.next hb)
  have HX3 := Lib.hid (HX2.out.next hb)
  have HB3 := Lib.hid (below_then HB2.out hb)
  clear HV2 HN2 HX2 HB2
  clear hb
  clear xm0 xm1 xn0 xn1
  have xm0 := (show BoxZ _ (w.heap.size) (decide (zm < 0)) B1 m1 d1 from HX3.out ⟨w.heap.size, (decide (zm < 0)), B1, m1, d1⟩ (.tail _ (.head _))).c0
  have xm1 := (show BoxZ _ (w.heap.size) (decide (zm < 0)) B1 m1 d1 from HX3.out ⟨w.heap.size, (decide (zm < 0)), B1, m1, d1⟩ (.tail _ (.head _))).c1
  have xn0 := (show BoxZ _ (w.heap.size + 1) (decide (zn < 0)) B2 m2 d2 from HX3.out ⟨w.heap.size + 1, (decide (zn < 0)), B2, m2, d2⟩ (.head _)).c0
  have xn1 := (show BoxZ _ (w.heap.size + 1) (decide (zn < 0)) B2 m2 d2 from HX3.out ⟨w.heap.size + 1, (decide (zn < 0)), B2, m2, d2⟩ (.head _)).c1
  go_wp2_with fail
  refine (Gc.out _ HB3.out).mono ?_
  rintro e v4_ ⟨rfl, hb⟩
  rw [Kc.out]
  have HV4 := Lib.hid (HV3.out.next hb)
  have HN4 := Lib.hid (HN3.out.next hb)
  have HX4 := Lib.hid (HX3.out.next hb)
  have HB4 := Lib.hid (below_then HB3.out hb)
  clear HV3 HN3 HX3 HB3
  clear hb
  clear xm0 xm1 xn0 xn1
  have xm0 := (show BoxZ _ (w.heap.size) (decide (zm < 0)) B1 m1 d1 from HX4.out ⟨w.heap.size, (decide (zm < 0)), B1, m1, d1⟩ (.tail _ (.head _))).c0
  have xm1 := (show BoxZ _ (w.heap.size) (decide (zm < 0)) B1 m1 d1 from HX4.out ⟨w.heap.size, (decide (zm < 0)), B1, m1, d1⟩ (.tail _ (.head _))).c1
  have xn0 := (show BoxZ _ (w.heap.size + 1) (decide (zn < 0)) B2 m2 d2 from HX4.out ⟨w.heap.size + 1, (decide (zn < 0)), B2, m2, d2⟩ (.head _)).c0
  have xn1 := (show BoxZ _ (w.heap.size + 1) (decide (zn < 0)) B2 m2 d2 from HX4.out ⟨w.heap.size + 1, (decide (zn < 0)), B2, m2, d2⟩ (.head _)).c1
  go_wp2_with fail
  refine (dotS (show V1 _ A1 nn c1 La from HV4.out ⟨A1, nn, c1, La⟩ (.tail _ (.tail _ (.head _)))) (show V1 _ A3 nn c3 Lc from HV4.out ⟨A3, nn, c3, Lc⟩ (.head _)) Ia.out Ic.out (by omega) Ex.out.symm).mono ?_
  rintro e v5_ ⟨A5_, n5_, c5_, rfl, o, hb⟩
  have hl := Lx.out.len o
  have HV5 := Lib.hid (HV4.out.next (below_then hb (bxb _ (zo (decide (x < 0)) A5_ n5_ c5_))))
  have HN5 := Lib.hid ((HN4.out.next (below_then hb (bxb _ (zo (decide (x < 0)) A5_ n5_ c5_)))).cons (o.nm.below (bxb _ (zo (decide (x < 0)) A5_ n5_ c5_))) (show n5_ ≤ 60 by omega))
  have HX5 := Lib.hid ((HX4.out.next (below_then hb (bxb _ (zo (decide (x < 0)) A5_ n5_ c5_)))).cons (show BoxZ _ _ (decide (x < 0)) A5_ n5_ c5_ from World.alloc_heap_new _ _))
  have HB5 := Lib.hid (below_then HB4.out (below_then hb (bxb _ (zo (decide (x < 0)) A5_ n5_ c5_))))
  clear o hb hl HV4 HN4 HX4 HB4
  try unfold zV
  try unfold zv
  clear xm0 xm1 xn0 xn1
  have xm0 := (show BoxZ _ (w.heap.size) (decide (zm < 0)) B1 m1 d1 from HX5.out ⟨w.heap.size, (decide (zm < 0)), B1, m1, d1⟩ (.tail _ (.tail _ (.head _)))).c0
  have xm1 := (show BoxZ _ (w.heap.size) (decide (zm < 0)) B1 m1 d1 from HX5.out ⟨w.heap.size, (decide (zm < 0)), B1, m1, d1⟩ (.tail _ (.tail _ (.head _)))).c1
  have xn0 := (show BoxZ _ (w.heap.size + 1) (decide (zn < 0)) B2 m2 d2 from HX5.out ⟨w.heap.size + 1, (decide (zn < 0)), B2, m2, d2⟩ (.tail _ (.head _))).c0
  have xn1 := (show BoxZ _ (w.heap.size + 1) (decide (zn < 0)) B2 m2 d2 from HX5.out ⟨w.heap.size + 1, (decide (zn < 0)), B2, m2, d2⟩ (.tail _ (.head _))).c1
  go_wp2_with fail
  refine (dotS (show V1 _ A2 nn c2 Lb from HV5.out ⟨A2, nn, c2, Lb⟩ (.tail _ (.head _))) (show V1 _ A3 nn c3 Lc from HV5.out ⟨A3, nn, c3, Lc⟩ (.head _)) Ib.out Ic.out (by omega) Ey.out.symm).mono ?_
  rintro e v6_ ⟨A6_, n6_, c6_, rfl, o, hb⟩
  have hl := Ly.out.len o
  have HV6 := Lib.hid (HV5.out.next (below_then hb (bxb _ (zo (decide (y < 0)) A6_ n6_ c6_))))
  have HN6 := Lib.hid ((HN5.out.next (below_then hb (bxb _ (zo (decide (y < 0)) A6_ n6_ c6_)))).cons (o.nm.below (bxb _ (zo (decide (y < 0)) A6_ n6_ c6_))) (show n6_ ≤ 60 by omega))
  have HX6 := Lib.hid ((HX5.out.next (below_then hb (bxb _ (zo (decide (y < 0)) A6_ n6_ c6_)))).cons (show BoxZ _ _ (decide (y < 0)) A6_ n6_ c6_ from World.alloc_heap_new _ _))
  have HB6 := Lib.hid (below_then HB5.out (below_then hb (bxb _ (zo (decide (y < 0)) A6_ n6_ c6_))))
  clear o hb hl HV5 HN5 HX5 HB5
  try unfold zV
  try unfold zv
  clear xm0 xm1 xn0 xn1
  have xm0 := (show BoxZ _ (w.heap.size) (decide (zm < 0)) B1 m1 d1 from HX6.out ⟨w.heap.size, (decide (zm < 0)), B1, m1, d1⟩ (.tail _ (.tail _ (.tail _ (.head _))))).c0
  have xm1 := (show BoxZ _ (w.heap.size) (decide (zm < 0)) B1 m1 d1 from HX6.out ⟨w.heap.size, (decide (zm < 0)), B1, m1, d1⟩ (.tail _ (.tail _ (.tail _ (.head _))))).c1
  have xn0 := (show BoxZ _ (w.heap.size + 1) (decide (zn < 0)) B2 m2 d2 from HX6.out ⟨w.heap.size + 1, (decide (zn < 0)), B2, m2, d2⟩ (.tail _ (.tail _ (.head _)))).c0
  have xn1 := (show BoxZ _ (w.heap.size + 1) (decide (zn < 0)) B2 m2 d2 from HX6.out ⟨w.heap.size + 1, (decide (zn < 0)), B2, m2, d2⟩ (.tail _ (.tail _ (.head _)))).c1
  go_wp2_with fail
  refine (mixR (show V1 _ A1 nn c1 La from HV6.out ⟨A1, nn, c1, La⟩ (.tail _ (.tail _ (.head _)))) (show V1 _ A2 nn c2 Lb from HV6.out ⟨A2, nn, c2, Lb⟩ (.tail _ (.head _))) (show ZNm _ B1 m1 d1 zm from (HN6.out ⟨zm, B1, m1, d1⟩ (.tail _ (.tail _ (.tail _ (.head _))))).1) (show ZNm _ B2 m2 d2 zn from (HN6.out ⟨zn, B2, m2, d2⟩ (.tail _ (.tail _ (.head _)))).1) (show m1 ≤ 60 from (HN6.out ⟨zm, B1, m1, d1⟩ (.tail _ (.tail _ (.tail _ (.head _))))).2) (show m2 ≤ 60 from (HN6.out ⟨zn, B2, m2, d2⟩ (.tail _ (.tail _ (.head _)))).2) Ia.out Ib.out (by omega)).mono ?_
  rintro e v7_ ⟨A7_, c7_, L7_, rfl, o, hb⟩
  have Imix := Lib.hid o.v
  have HV7 := Lib.hid ((HV6.out.next hb).cons (o.v1 (Bmix.out) (by omega) (by omega)))
  have HN7 := Lib.hid (HN6.out.next hb)
  have HX7 := Lib.hid (HX6.out.next hb)
  have HB7 := Lib.hid (below_then HB6.out hb)
  clear o hb HV6 HN6 HX6 HB6
  clear xm0 xm1 xn0 xn1
  go_wp2_with fail
  refine (dotS (show V1 _ A3 nn c3 Lc from HV7.out ⟨A3, nn, c3, Lc⟩ (.tail _ (.head _))) (show V1 _ A7_ nn c7_ L7_ from HV7.out ⟨A7_, nn, c7_, L7_⟩ (.head _)) Ic.out Imix.out (by omega) Ez.out.symm).mono ?_
  rintro e v8_ ⟨A8_, n8_, c8_, rfl, o, hb⟩
  have hl := Lz.out.len o
  have HV8 := Lib.hid (HV7.out.next (below_then hb (bxb _ (zo (decide (z < 0)) A8_ n8_ c8_))))
  have HN8 := Lib.hid ((HN7.out.next (below_then hb (bxb _ (zo (decide (z < 0)) A8_ n8_ c8_)))).cons (o.nm.below (bxb _ (zo (decide (z < 0)) A8_ n8_ c8_))) (show n8_ ≤ 60 by omega))
  have HX8 := Lib.hid ((HX7.out.next (below_then hb (bxb _ (zo (decide (z < 0)) A8_ n8_ c8_)))).cons (show BoxZ _ _ (decide (z < 0)) A8_ n8_ c8_ from World.alloc_heap_new _ _))
  have HB8 := Lib.hid (below_then HB7.out (below_then hb (bxb _ (zo (decide (z < 0)) A8_ n8_ c8_))))
  clear o hb hl HV7 HN7 HX7 HB7
  try unfold zV
  try unfold zv
  have xm0 := (show BoxZ _ (w.heap.size) (decide (zm < 0)) B1 m1 d1 from HX8.out ⟨w.heap.size, (decide (zm < 0)), B1, m1, d1⟩ (.tail _ (.tail _ (.tail _ (.tail _ (.head _)))))).c0
  have xm1 := (show BoxZ _ (w.heap.size) (decide (zm < 0)) B1 m1 d1 from HX8.out ⟨w.heap.size, (decide (zm < 0)), B1, m1, d1⟩ (.tail _ (.tail _ (.tail _ (.tail _ (.head _)))))).c1
  have xx0 := (show BoxZ _ (v5_.heap.size) (decide (x < 0)) A5_ n5_ c5_ from HX8.out ⟨v5_.heap.size, (decide (x < 0)), A5_, n5_, c5_⟩ (.tail _ (.tail _ (.head _)))).c0
  have xx1 := (show BoxZ _ (v5_.heap.size) (decide (x < 0)) A5_ n5_ c5_ from HX8.out ⟨v5_.heap.size, (decide (x < 0)), A5_, n5_, c5_⟩ (.tail _ (.tail _ (.head _)))).c1
  go_wp2_with fail
  refine (Epp.out ▸ mulN (show ZNm _ B1 m1 d1 zm from (HN8.out ⟨zm, B1, m1, d1⟩ (.tail _ (.tail _ (.tail _ (.tail _ (.head _)))))).1) (show ZNm _ A5_ n5_ c5_ x from (HN8.out ⟨x, A5_, n5_, c5_⟩ (.tail _ (.tail _ (.head _)))).1) (Nat.le_trans (show m1 ≤ 60 from (HN8.out ⟨zm, B1, m1, d1⟩ (.tail _ (.tail _ (.tail _ (.tail _ (.head _)))))).2) (by omega)) (Nat.le_trans (show n5_ ≤ 60 from (HN8.out ⟨x, A5_, n5_, c5_⟩ (.tail _ (.tail _ (.head _)))).2) (by omega))).mono ?_
  rintro e v9_ ⟨A9_, n9_, c9_, rfl, o, hb⟩
  have hl := Lpp.out.len o
  have HV9 := Lib.hid (HV8.out.next (below_then hb (bxb _ (zo (decide (pp < 0)) A9_ n9_ c9_))))
  have HN9 := Lib.hid ((HN8.out.next (below_then hb (bxb _ (zo (decide (pp < 0)) A9_ n9_ c9_)))).cons (o.nm.below (bxb _ (zo (decide (pp < 0)) A9_ n9_ c9_))) (show n9_ ≤ 60 by omega))
  have HX9 := Lib.hid ((HX8.out.next (below_then hb (bxb _ (zo (decide (pp < 0)) A9_ n9_ c9_)))).cons (show BoxZ _ _ (decide (pp < 0)) A9_ n9_ c9_ from World.alloc_heap_new _ _))
  have HB9 := Lib.hid (below_then HB8.out (below_then hb (bxb _ (zo (decide (pp < 0)) A9_ n9_ c9_))))
  clear o hb hl HV8 HN8 HX8 HB8
  try unfold zV
  try unfold zv
  clear xm0 xm1 xx0 xx1
  have xn0 := (show BoxZ _ (w.heap.size + 1) (decide (zn < 0)) B2 m2 d2 from HX9.out ⟨w.heap.size + 1, (decide (zn < 0)), B2, m2, d2⟩ (.tail _ (.tail _ (.tail _ (.tail _ (.head _)))))).c0
  have xn1 := (show BoxZ _ (w.heap.size + 1) (decide (zn < 0)) B2 m2 d2 from HX9.out ⟨w.heap.size + 1, (decide (zn < 0)), B2, m2, d2⟩ (.tail _ (.tail _ (.tail _ (.tail _ (.head _)))))).c1
  have xy0 := (show BoxZ _ (v6_.heap.size) (decide (y < 0)) A6_ n6_ c6_ from HX9.out ⟨v6_.heap.size, (decide (y < 0)), A6_, n6_, c6_⟩ (.tail _ (.tail _ (.head _)))).c0
  have xy1 := (show BoxZ _ (v6_.heap.size) (decide (y < 0)) A6_ n6_ c6_ from HX9.out ⟨v6_.heap.size, (decide (y < 0)), A6_, n6_, c6_⟩ (.tail _ (.tail _ (.head _)))).c1
  go_wp2_with fail
  refine (Eqq.out ▸ mulN (show ZNm _ B2 m2 d2 zn from (HN9.out ⟨zn, B2, m2, d2⟩ (.tail _ (.tail _ (.tail _ (.tail _ (.head _)))))).1) (show ZNm _ A6_ n6_ c6_ y from (HN9.out ⟨y, A6_, n6_, c6_⟩ (.tail _ (.tail _ (.head _)))).1) (Nat.le_trans (show m2 ≤ 60 from (HN9.out ⟨zn, B2, m2, d2⟩ (.tail _ (.tail _ (.tail _ (.tail _ (.head _)))))).2) (by omega)) (Nat.le_trans (show n6_ ≤ 60 from (HN9.out ⟨y, A6_, n6_, c6_⟩ (.tail _ (.tail _ (.head _)))).2) (by omega))).mono ?_
  rintro e v10_ ⟨A10_, n10_, c10_, rfl, o, hb⟩
  have hl := Lqq.out.len o
  have HV10 := Lib.hid (HV9.out.next (below_then hb (bxb _ (zo (decide (qq < 0)) A10_ n10_ c10_))))
  have HN10 := Lib.hid ((HN9.out.next (below_then hb (bxb _ (zo (decide (qq < 0)) A10_ n10_ c10_)))).cons (o.nm.below (bxb _ (zo (decide (qq < 0)) A10_ n10_ c10_))) (show n10_ ≤ 60 by omega))
  have HX10 := Lib.hid ((HX9.out.next (below_then hb (bxb _ (zo (decide (qq < 0)) A10_ n10_ c10_)))).cons (show BoxZ _ _ (decide (qq < 0)) A10_ n10_ c10_ from World.alloc_heap_new _ _))
  have HB10 := Lib.hid (below_then HB9.out (below_then hb (bxb _ (zo (decide (qq < 0)) A10_ n10_ c10_))))
  clear o hb hl HV9 HN9 HX9 HB9
  try unfold zV
  try unfold zv
  clear xn0 xn1 xy0 xy1
  have xpp0 := (show BoxZ _ (v9_.heap.size) (decide (pp < 0)) A9_ n9_ c9_ from HX10.out ⟨v9_.heap.size, (decide (pp < 0)), A9_, n9_, c9_⟩ (.tail _ (.head _))).c0
  have xpp1 := (show BoxZ _ (v9_.heap.size) (decide (pp < 0)) A9_ n9_ c9_ from HX10.out ⟨v9_.heap.size, (decide (pp < 0)), A9_, n9_, c9_⟩ (.tail _ (.head _))).c1
  have xqq0 := (show BoxZ _ (v10_.heap.size) (decide (qq < 0)) A10_ n10_ c10_ from HX10.out ⟨v10_.heap.size, (decide (qq < 0)), A10_, n10_, c10_⟩ (.head _)).c0
  have xqq1 := (show BoxZ _ (v10_.heap.size) (decide (qq < 0)) A10_ n10_ c10_ from HX10.out ⟨v10_.heap.size, (decide (qq < 0)), A10_, n10_, c10_⟩ (.head _)).c1
  go_wp2_with fail
  refine (Eww.out ▸ addN (show ZNm _ A9_ n9_ c9_ pp from (HN10.out ⟨pp, A9_, n9_, c9_⟩ (.tail _ (.head _))).1) (show ZNm _ A10_ n10_ c10_ qq from (HN10.out ⟨qq, A10_, n10_, c10_⟩ (.head _)).1) (Nat.le_trans (show n9_ ≤ 60 from (HN10.out ⟨pp, A9_, n9_, c9_⟩ (.tail _ (.head _))).2) (by omega)) (Nat.le_trans (show n10_ ≤ 60 from (HN10.out ⟨qq, A10_, n10_, c10_⟩ (.head _)).2) (by omega))).mono ?_
  rintro e v11_ ⟨A11_, n11_, c11_, rfl, o, hb⟩
  have hl := Lww.out.len o
  have HV11 := Lib.hid (HV10.out.next (below_then hb (bxb _ (zo (decide (ww < 0)) A11_ n11_ c11_))))
  have HN11 := Lib.hid ((HN10.out.next (below_then hb (bxb _ (zo (decide (ww < 0)) A11_ n11_ c11_)))).cons (o.nm.below (bxb _ (zo (decide (ww < 0)) A11_ n11_ c11_))) (show n11_ ≤ 60 by omega))
  have HX11 := Lib.hid ((HX10.out.next (below_then hb (bxb _ (zo (decide (ww < 0)) A11_ n11_ c11_)))).cons (show BoxZ _ _ (decide (ww < 0)) A11_ n11_ c11_ from World.alloc_heap_new _ _))
  have HB11 := Lib.hid (below_then HB10.out (below_then hb (bxb _ (zo (decide (ww < 0)) A11_ n11_ c11_))))
  clear o hb hl HV10 HN10 HX10 HB10
  try unfold zV
  try unfold zv
  clear xpp0 xpp1 xqq0 xqq1
  have xm0 := (show BoxZ _ (w.heap.size) (decide (zm < 0)) B1 m1 d1 from HX11.out ⟨w.heap.size, (decide (zm < 0)), B1, m1, d1⟩ (.tail _ (.tail _ (.tail _ (.tail _ (.tail _ (.tail _ (.tail _ (.head _))))))))).c0
  have xm1 := (show BoxZ _ (w.heap.size) (decide (zm < 0)) B1 m1 d1 from HX11.out ⟨w.heap.size, (decide (zm < 0)), B1, m1, d1⟩ (.tail _ (.tail _ (.tail _ (.tail _ (.tail _ (.tail _ (.tail _ (.head _))))))))).c1
  go_wp2_with fail
  refine (scaleR (show V1 _ A1 nn c1 La from HV11.out ⟨A1, nn, c1, La⟩ (.tail _ (.tail _ (.tail _ (.head _))))) (show ZNm _ B1 m1 d1 zm from (HN11.out ⟨zm, B1, m1, d1⟩ (.tail _ (.tail _ (.tail _ (.tail _ (.tail _ (.tail _ (.tail _ (.head _))))))))).1) (show m1 ≤ 60 from (HN11.out ⟨zm, B1, m1, d1⟩ (.tail _ (.tail _ (.tail _ (.tail _ (.tail _ (.tail _ (.tail _ (.head _))))))))).2) Ia.out (by omega)).mono ?_
  rintro e v12_ ⟨A12_, c12_, L12_, rfl, o, hb⟩
  have Iu := Lib.hid o.v
  have HV12 := Lib.hid ((HV11.out.next hb).cons (o.v1 (Bu.out) (by omega) (by omega)))
  have HN12 := Lib.hid (HN11.out.next hb)
  have HX12 := Lib.hid (HX11.out.next hb)
  have HB12 := Lib.hid (below_then HB11.out hb)
  clear o hb HV11 HN11 HX11 HB11
  clear xm0 xm1
  have xn0 := (show BoxZ _ (w.heap.size + 1) (decide (zn < 0)) B2 m2 d2 from HX12.out ⟨w.heap.size + 1, (decide (zn < 0)), B2, m2, d2⟩ (.tail _ (.tail _ (.tail _ (.tail _ (.tail _ (.tail _ (.head _)))))))).c0
  have xn1 := (show BoxZ _ (w.heap.size + 1) (decide (zn < 0)) B2 m2 d2 from HX12.out ⟨w.heap.size + 1, (decide (zn < 0)), B2, m2, d2⟩ (.tail _ (.tail _ (.tail _ (.tail _ (.tail _ (.tail _ (.head _)))))))).c1
  go_wp2_with fail
  refine (scaleR (show V1 _ A2 nn c2 Lb from HV12.out ⟨A2, nn, c2, Lb⟩ (.tail _ (.tail _ (.tail _ (.head _))))) (show ZNm _ B2 m2 d2 zn from (HN12.out ⟨zn, B2, m2, d2⟩ (.tail _ (.tail _ (.tail _ (.tail _ (.tail _ (.tail _ (.head _)))))))).1) (show m2 ≤ 60 from (HN12.out ⟨zn, B2, m2, d2⟩ (.tail _ (.tail _ (.tail _ (.tail _ (.tail _ (.tail _ (.head _)))))))).2) Ib.out (by omega)).mono ?_
  rintro e v13_ ⟨A13_, c13_, L13_, rfl, o, hb⟩
  have Iv := Lib.hid o.v
  have HV13 := Lib.hid ((HV12.out.next hb).cons (o.v1 (Bv.out) (by omega) (by omega)))
  have HN13 := Lib.hid (HN12.out.next hb)
  have HX13 := Lib.hid (HX12.out.next hb)
  have HB13 := Lib.hid (below_then HB12.out hb)
  clear o hb HV12 HN12 HX12 HB12
  clear xn0 xn1
  go_wp2_with fail
  refine (addR (show V1 _ A12_ nn c12_ L12_ from HV13.out ⟨A12_, nn, c12_, L12_⟩ (.tail _ (.head _))) (show V1 _ A13_ nn c13_ L13_ from HV13.out ⟨A13_, nn, c13_, L13_⟩ (.head _)) Iu.out Iv.out (by omega)).mono ?_
  rintro e v14_ ⟨A14_, c14_, L14_, rfl, o, hb⟩
  have Ism := Lib.hid o.v
  have HV14 := Lib.hid ((HV13.out.next hb).cons (o.v1 (Bs.out) (by omega) (by omega)))
  have HN14 := Lib.hid (HN13.out.next hb)
  have HX14 := Lib.hid (HX13.out.next hb)
  have HB14 := Lib.hid (below_then HB13.out hb)
  clear o hb HV13 HN13 HX13 HB13
  have xz0 := (show BoxZ _ (v8_.heap.size) (decide (z < 0)) A8_ n8_ c8_ from HX14.out ⟨v8_.heap.size, (decide (z < 0)), A8_, n8_, c8_⟩ (.tail _ (.tail _ (.tail _ (.head _))))).c0
  have xz1 := (show BoxZ _ (v8_.heap.size) (decide (z < 0)) A8_ n8_ c8_ from HX14.out ⟨v8_.heap.size, (decide (z < 0)), A8_, n8_, c8_⟩ (.tail _ (.tail _ (.tail _ (.head _))))).c1
  have xww0 := (show BoxZ _ (v11_.heap.size) (decide (ww < 0)) A11_ n11_ c11_ from HX14.out ⟨v11_.heap.size, (decide (ww < 0)), A11_, n11_, c11_⟩ (.head _)).c0
  have xww1 := (show BoxZ _ (v11_.heap.size) (decide (ww < 0)) A11_ n11_ c11_ from HX14.out ⟨v11_.heap.size, (decide (ww < 0)), A11_, n11_, c11_⟩ (.head _)).c1
  go_wp2_with fail
  refine (sameT (show ZNm _ A8_ n8_ c8_ z from (HN14.out ⟨z, A8_, n8_, c8_⟩ (.tail _ (.tail _ (.tail _ (.head _))))).1) (show ZNm _ A11_ n11_ c11_ ww from (HN14.out ⟨ww, A11_, n11_, c11_⟩ (.head _)).1) (Nat.le_trans (show n8_ ≤ 60 from (HN14.out ⟨z, A8_, n8_, c8_⟩ (.tail _ (.tail _ (.tail _ (.head _))))).2) (by omega)) (Nat.le_trans (show n11_ ≤ 60 from (HN14.out ⟨ww, A11_, n11_, c11_⟩ (.head _)).2) (by omega)) Q.out).mono ?_
  rintro e v15_ ⟨rfl, hb⟩
  have HV15 := Lib.hid (HV14.out.next hb)
  have HN15 := Lib.hid (HN14.out.next hb)
  have HX15 := Lib.hid (HX14.out.next hb)
  have HB15 := Lib.hid (below_then HB14.out hb)
  clear HV14 HN14 HX14 HB14
  clear hb
  clear xz0 xz1 xww0 xww1
  go_wp2_with fail
  refine (rsameT (show V1 _ A14_ nn c14_ L14_ from HV15.out ⟨A14_, nn, c14_, L14_⟩ (.head _)) (show V1 _ A7_ nn c7_ L7_ from HV15.out ⟨A7_, nn, c7_, L7_⟩ (.tail _ (.tail _ (.tail _ (.head _))))) ((isv_keys Ism.out Imix.out).2 Q2.out)).mono ?_
  rintro e v16_ ⟨rfl, hb⟩
  have HV16 := Lib.hid (HV15.out.next hb)
  have HN16 := Lib.hid (HN15.out.next hb)
  have HX16 := Lib.hid (HX15.out.next hb)
  have HB16 := Lib.hid (below_then HB15.out hb)
  clear HV15 HN15 HX15 HB15
  clear hb
  go_wp2
  go_ret
  exact ⟨rfl, HB16.out⟩
set_option maxRecDepth 100000 in
set_option maxHeartbeats 4000000 in
theorem dots_any (A1 A2 A3 B1 B2 : Option Addr) (n1 c1 n2 c2 n3 c3 m1 d1 m2 d2 : Nat) (La Lb Lc : List ZE) (p q : Bool) (w : World) (a b : List Nat) (ra : RV w A1 n1 c1 La) (rb : RV w A2 n2 c2 Lb) (rc : RV w A3 n3 c3 Lc) (za : Rd w B1 m1 a) (zb : Rd w B2 m2 b) (ca : m1 ≤ d1 ∧ d1 ≤ 9223372036854775807) (cb : m2 ≤ d2 ∧ d2 ≤ 9223372036854775807) : Calls Try.prog 4 #[.slice A1 n1 c1, .slice A2 n2 c2, .slice A3 n3 c3, .agg #[.bool p, .slice B1 m1 d1], .agg #[.bool q, .slice B2 m2 d2]] w fun e w' => e = .returned (.bool true) ∧ Below w.heap.size w w' := by
  by_cases hl : greatV La 20 10 = false ∧ greatV Lb 20 10 = false ∧ greatV Lc 20 10 = false ∧ m1 ≤ 10 ∧ m2 ≤ 10
  · obtain ⟨ka, kb, kc, km, kn⟩ := hl
    have va := ra.v1 ka (by omega) (by omega)
    have vb := rb.v1 kb (by omega) (by omega)
    have vc := rc.v1 kc (by omega) (by omega)
    have z1 : Z1 w B1 m1 d1 a := ⟨za, by omega, ca.1, ca.2⟩
    have z2 : Z1 w B2 m2 d2 b := ⟨zb, by omega, cb.1, cb.2⟩
    by_cases hbad : mayZ p a = true ∧ mayZ q b = true ∧ twoVE La Lc = 0 ∧ twoVE Lb Lc = 0
    · obtain ⟨h1, h2, h3, h4⟩ := hbad
      obtain ⟨e1, e2, e3⟩ := two_may h3
      obtain ⟨e4, _, e5⟩ := two_may h4
      have hn1 : n1 = n3 := by rw [← va.rd.len, ← vc.rd.len, e3]
      have hn2 : n2 = n3 := by rw [← vb.rd.len, ← vc.rd.len, e5]
      subst hn1
      subst hn2
      have g1 := great_no ka
      have g2 := great_no kb
      have g3 := great_no kc
      have w1 := z1_num z1 h1
      have w2 := z1_num z2 h2
      rw [w1.2, w2.2]
      exact dots_ok A1 A2 A3 B1 B2 n2 c1 c2 c3 m1 d1 m2 d2 La Lb Lc (zof p a) (zof q b) (zat La) (zat Lb) (zat Lc) w ra rb rc va vb vc w1.1 w2.1 km kn (by rw [← va.rd.len]; exact g1.1) ka kb kc (va.isv e1) (vb.isv e4) (vc.isv e2) (va.bdk e1 g1.2) (vb.bdk e4 g2.2) (vc.bdk e2 g3.2)
    · exact dots_bad A1 A2 A3 B1 B2 n1 c1 n2 c2 n3 c3 m1 d1 m2 d2 La Lb Lc p q w a b ra rb rc va vb vc z1 z2 km kn ka kb kc hbad
  · exact dots_long A1 A2 A3 B1 B2 n1 c1 n2 c2 n3 c3 m1 d1 m2 d2 La Lb Lc p q w ra rb rc (by omega) (by omega) hl
section
end
end Go.Proofs.Ytgiokmfdafmaoaa
