import Derived.Test.YtgiokmfdafmaoaaKZM
import Derived.Test.YtgiokmfdafmaoaaKVGuard
import Derived.Test.YtgiokmfdafmaoaaKVFr
/- ZO VOf VFi. -/
/- The document's whole numbers: of an int. -/
namespace Go.Proofs.Ytgiokmfdafmaoaa
open Go.RowKit Go.Shelf
set_option linter.unusedVariables false
set_option linter.unusedSimpArgs false

set_option maxRecDepth 100000 in
set_option maxHeartbeats 2000000 in
theorem rOfZ_any : OfZIs 24 := by
  intro n w h1 h2
  unfold ZOne zV zv
  have hx : BoxZ (w.alloc (zo false none 0 0)) w.heap.size false none 0 0 := World.alloc_heap_new _ _
  have hs : w.heap.size < (w.alloc (zo false none 0 0)).heap.size := by simp
  have HB := Lib.hid (And.intro (bxb w (zo false none 0 0)) hx)
  have HS := Lib.hid hs
  clear hx hs
  by_cases hn : n < 0
  · rw [decide_eq_true hn]
    have hc : IntKind.u64.wrap n = 18446744073709551616 + n := by rw [IntKind.wrap_u64]; omega
    have hc2 : IntKind.u64.wrap (-(18446744073709551616 + n)) = (n.natAbs : Int) := by rw [IntKind.wrap_u64]; omega
    have HT := Lib.hid (fun W => rOf_any W n.natAbs (by rw [B64_eq]; omega))
    go_enter Try.func24, Try.ntmps24
    go_wp2_with fail
    refine (HT.out _).mono ?_
    rintro e w4 ⟨A3, k3, c3, rfl, o3, hb3⟩
    have x4 := HB.out.2.below hb3 HS.out
    have r0 := x4.c0
    have r1 := x4.c1
    have f0 := x4.f 0
    have f1 := x4.f 1
    have B4 := below_then HB.out.1 hb3
    clear hb3
    go_wp2
    refine bodyPost_ret (v := zv true A3 k3 c3) (by simp [results, Try.results24, go_sem, r0, r1, zv]) rfl ?_
    exact ⟨_, _, _, rfl, own_box HS.out (Nat.le_refl _) o3 _ _, box_below (Nat.le_refl _) B4 _ _⟩
  · rw [decide_eq_false hn]
    have hc : IntKind.u64.wrap n = (n.natAbs : Int) := by rw [IntKind.wrap_u64]; omega
    have HT := Lib.hid (fun W => rOf_any W n.natAbs (by rw [B64_eq]; omega))
    go_enter Try.func24, Try.ntmps24
    go_wp2_with fail
    refine (HT.out _).mono ?_
    rintro e w4 ⟨A3, k3, c3, rfl, o3, hb3⟩
    have x4 := HB.out.2.below hb3 HS.out
    have r0 := x4.c0
    have r1 := x4.c1
    have f0 := x4.f 0
    have f1 := x4.f 1
    have B4 := below_then HB.out.1 hb3
    clear hb3
    go_wp2
    refine bodyPost_ret (v := zv false A3 k3 c3) (by simp [results, Try.results24, go_sem, r0, r1, zv]) rfl ?_
    exact ⟨_, _, _, rfl, own_box HS.out (Nat.le_refl _) o3 _ _, box_below (Nat.le_refl _) B4 _ _⟩
end Go.Proofs.Ytgiokmfdafmaoaa

/- The law VecOf. -/
namespace Go.Proofs.Ytgiokmfdafmaoaa
open Go.RowKit Go.Shelf
set_option linter.unusedVariables false
set_option linter.unusedSimpArgs false

section
variable {A A2 B B2 : Option Addr} {n c m d nb cb na ca g1 g2 g3 g4 k : Nat} {L M : List ZE} {w W : World} {z y : Int}
variable {X : List Int}
theorem RdN.bd (h : RdN w A n X) : BdV 1 n (iat X) := fun i hi => by
  have hi2 : i < X.length := by rw [h.len]; exact hi
  rw [iat_some (List.getElem?_eq_getElem hi2)]
  have h2 := h.ok _ (List.getElem_mem hi2)
  unfold Bd
  have h3 : B64 ^ 1 = 18446744073709551616 := by rw [Nat.pow_one, B64_eq]
  omega
set_option maxRecDepth 100000 in
set_option maxHeartbeats 4000000 in
theorem rOfV_any (h : RdN w A n X) (hn : n ≤ 1000) : Calls Try.prog 8 #[.slice A n c] w (NAns w n (iat X)) := by
  have HO : Hid (∀ (x : Int) (W : World), x ∈ X → Calls Try.prog 24 #[.int .i64 x] W (ZOne W x)) := fun x W hx => rOfZ_any x W (h.ok x hx).1 (h.ok x hx).2
  unfold NAns
  go_enter Try.func8, Try.ntmps8
  go_wp2
  go_loopw [3, 4] (fun s i wr => ∃ (k : Nat) (A4 : Option Addr) (c4 : Nat) (K : List ZE), k ≤ n ∧ s = .slice A4 k c4 ∧ i = .int .i64 (k : Int) ∧ OwnV wr w.heap.size A4 k c4 K ∧ IsV K k (iat X) ∧ Below w.heap.size w wr) (fun _ i _ => n - (intOf i).toNat)
  case atStart => exact ⟨0, none, 0, [], by omega, rfl, rfl, ownv_nil _ _, isv_nil _, Below.refl _ _⟩
  case round =>
    obtain ⟨k, A4, c4, K, hk, rfl, rfl, hO, hI, hB⟩ := hrel
    by_cases hlt : k < n
    · obtain ⟨b, o, rfl, hb, hc⟩ := (h.below hB).cells (by omega)
      obtain ⟨x, hxk⟩ : ∃ x, X[k]? = some x := ⟨X[k]'(by rw [h.len]; exact hlt), List.getElem?_eq_getElem _⟩
      have y0 := hc k x hxk
      have HK := Lib.hid (iat_some hxk)
      have HM := Lib.hid (HO.out x wr (List.mem_of_getElem? hxk))
      have HOw := Lib.hid hO
      have HI := Lib.hid hI
      have HB := Lib.hid hB
      clear hO hI hB hc hxk h
      unfold ZOne zV zv at HM
      go_wp2_with fail
      refine HM.out.mono ?_
      rintro e w3 ⟨A3, k3, c3, rfl, o3, hb3⟩
      have HO3 := Lib.hid (own_mono o3 HB.out.size)
      have HOv3 := Lib.hid (HOw.out.below hb3)
      have HB3 := Lib.hid (below_then HB.out hb3)
      clear o3 hb3 y0
      have q0 : (w3.alloc (zo (decide (x < 0)) A3 k3 c3)).cell? ((⟨w3.heap.size, 0, none⟩ : Addr).add 0) = some (.bool (decide (x < 0))) := by rw [addr_at]; exact BoxZ.c0 (show BoxZ _ _ (decide (x < 0)) A3 k3 c3 from World.alloc_heap_new _ _)
      have q1 : (w3.alloc (zo (decide (x < 0)) A3 k3 c3)).cell? ((⟨w3.heap.size, 0, none⟩ : Addr).add 1) = some (.slice A3 k3 c3) := by rw [addr_at]; exact BoxZ.c1 (show BoxZ _ _ (decide (x < 0)) A3 k3 c3 from World.alloc_heap_new _ _)
      have Q01 := Lib.hid (And.intro q0 q1)
      have HOw5 := Lib.hid (HOv3.out.below (bxb w3 (zo (decide (x < 0)) A3 k3 c3)))
      have HOe5 := Lib.hid (HO3.out.below (bxb w3 (zo (decide (x < 0)) A3 k3 c3)))
      have HBw5 := Lib.hid (below_then HB3.out (bxb w3 (zo (decide (x < 0)) A3 k3 c3)))
      have hB5 := HBw5.out.size
      clear q0 q1
      go_wp2_with (at_builtin; go_loud (refine wpList_appendV rfl _ _ 25 rfl Try.underlying25 w.heap.size A4 k c4 K rfl HOw5.out ⟨w3.heap.size, 0, none⟩ 1 rfl ⟨(decide (x < 0)), A3, k3, c3, (limbs x.natAbs)⟩ Q01.out.1 Q01.out.2 HOe5.out (by omega) hB5 ?_); intro A5 c5 w5 ho5 hg5 hb5)
      have HO6 := Lib.hid ho5
      have HB6 := Lib.hid (hb5 w HBw5.out)
      clear ho5 hg5 hb5 hB5
      go_roundw
      case rel => exact ⟨k + 1, A5, c5, _, by omega, rfl, by go_num, HO6.out, HI.out.push (by show decide (x < 0) = _; rw [HK.out]) (by show limbs x.natAbs = _; rw [HK.out]), HB6.out⟩
      case measure => simp [intOf]; omega
    · obtain rfl : k = n := by omega
      have HOw := Lib.hid hO
      have HI := Lib.hid hI
      have HB := Lib.hid hB
      clear hO hI hB h
      go_wp2
      go_ret
      exact ⟨A4, c4, K, rfl, ⟨HOw.out, HI.out⟩, HB.out⟩
set_option maxRecDepth 100000 in
set_option maxHeartbeats 4000000 in
theorem vecOf_any (h : RdN w A n X) (hc1 : n ≤ c) (hc2 : c ≤ 9223372036854775807) : Calls Try.prog 3 #[.slice A n c] w fun e w' => e = .returned (.bool true) ∧ Below w.heap.size w w' := by
  by_cases h8 : n ≤ 1000
  · have g1 : ¬ (1000 : Int) < (n : Int) := by omega
    have H1 := Lib.hid (fun W (hW : Below w.heap.size w W) => ofV_any (w := W) (h.below hW) h8 hc1 hc2)
    have H2 := Lib.hid (fun W (hW : Below w.heap.size w W) => rOfV_any (w := W) (c := c) (h.below hW) h8)
    have B := Lib.hid h.bd
    clear h
    generalize iat X = f at *
    unfold NAns at *
    go_enter Try.func3, Try.ntmps3
    go_wp2_with fail
    refine (H1.out _ (Below.refl _ _)).mono ?_
    rintro e w1 ⟨A1, c1, L1, rfl, hN1, hb1⟩
    go_wp2_with fail
    refine (H2.out _ hb1).mono ?_
    rintro e w2 ⟨A2, c2, L2, rfl, hN2, hb2⟩
    have HV1 := Lib.hid ((hN1.v1 B.out (by omega) h8).below hb2)
    have HV2 := Lib.hid (hN2.v1 B.out (by omega) h8)
    have HK : Hid (keys L1 = keys L2) := hN1.v.same hN2.v
    have HB := Lib.hid (below_then hb1 hb2)
    clear hN1 hN2 hb1 hb2
    go_wp2_with fail
    refine (rsameT HV1.out HV2.out HK.out).mono ?_
    rintro e w3 ⟨rfl, hb3⟩
    have HB3 := Lib.hid (below_then HB.out hb3)
    clear hb3
    go_wp2
    go_ret
    exact ⟨rfl, HB3.out⟩
  · have g1 : (1000 : Int) < (n : Int) := by omega
    clear h
    go_enter Try.func3, Try.ntmps3
    go_wp2
    go_ret
    exact ⟨rfl, Below.refl _ _⟩
end
end Go.Proofs.Ytgiokmfdafmaoaa

/- A slice of ints that came in, opened. -/
namespace Go.Proofs.Ytgiokmfdafmaoaa
open Go.RowKit Go.Shelf Go.ChangeShapes Go.WideShapes
set_option linter.unusedVariables false

set_option maxRecDepth 100000 in
theorem open_is {H : Type} {enc : TypeId × Value → H} {W : World} {base b0 : Nat} {held : Bool} {r : Reach} {v : Value} {d : DataW H} {ps : List MemPlace}
    (hv : Value.okWide Try.prog W r b0 22 v) (h : DataW.Trod enc Try.prog W base (fun _ => true) held 22 v d ps) :
    ∃ A n c X, v = .slice A n c ∧ RdN W A n X ∧ n ≤ c ∧ c ≤ 9223372036854775807 := by
  obtain ⟨A, n, c, rfl⟩ := okWide_slice Try.underlying22 hv
  obtain ⟨fuel, hf⟩ := h
  rcases open_ints Try.underlying22 Try.underlying3 (by kernel_rfl) hf with ⟨hcs, _⟩ | ⟨x, l', c', zs, hcs, _, hl, hm, hz, _, hcell, hwz⟩
  · simp [Value.cells] at hcs
    obtain ⟨rfl, rfl, rfl⟩ := hcs
    exact ⟨none, 0, 0, [], rfl, ⟨rfl, fun _ h => by (cases h), fun h => absurd h (by omega)⟩, Nat.le_refl _, Nat.zero_le _⟩
  · simp [Value.cells] at hcs
    obtain ⟨rfl, rfl, rfl⟩ := hcs
    have hz2 : zs.length = c := by simpa using hz
    refine ⟨some x, n, c, zs.take n, rfl, ⟨by rw [List.length_take]; omega, fun y hy => ?_, fun hn => ?_⟩, hl, hm⟩
    · have h1 := hwz y (List.mem_of_mem_take hy)
      simp [Lit.wf, IntKind.min, IntKind.max, IntKind.signed, IntKind.bits] at h1
      omega
    · obtain ⟨b, off, spot⟩ := x
      have h0 := hcell 0 (by omega)
      have hspot : spot = none := by simpa [Addr.add] using World.cell?_spot h0
      subst hspot
      have hlt : b < W.heap.size := by
        have h1 : W.cell? ⟨b, off, none⟩ = some (.int .i64 (zs.getD 0 0)) := by simpa [Addr.add] using h0
        unfold World.cell? at h1
        cases hob : W.heap[b]? with
        | none => simp [hob] at h1
        | some o => exact (Array.getElem?_eq_some_iff.1 hob).1
      refine ⟨b, off, rfl, hlt, fun i y hy => ?_⟩
      have hi : i < n := by have h3 := (List.getElem?_eq_some_iff.1 hy).1; rw [List.length_take] at h3; omega
      have h1 := hcell i (by omega)
      rw [List.getElem?_take, if_pos hi] at hy
      rw [List.getD_eq_getElem?_getD, hy] at h1
      by_cases h2 : i = 0
      · subst h2
        simpa [Addr.add] using h1
      · simpa [Addr.add, h2] using h1
end Go.Proofs.Ytgiokmfdafmaoaa
