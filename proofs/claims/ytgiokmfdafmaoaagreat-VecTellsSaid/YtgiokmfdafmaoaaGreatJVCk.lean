import Derived.Test.YtgiokmfdafmaoaaGreatJVHeld
import Derived.Test.YtgiokmfdafmaoaaGreatJZHeld
/- VCk. -/
/- vec: numbersMayBe, Check, alike. -/
namespace Go.Proofs.YtgiokmfdafmaoaaGreat
open Go.RowKit Go.Shelf
set_option linter.unusedVariables false
set_option linter.unusedSimpArgs false

set_option maxRecDepth 100000 in
set_option maxHeartbeats 4000000 in
theorem numbers_any (A : Option Addr) (n c : Nat) (L : List ZE) (w : World) (h : RdV w A n L) (hs : ∀ e, e ∈ L → e.n ≤ 400) (hn : n ≤ c) (hc : c ≤ 9223372036854775807) : Calls Tryz.prog 45 #[.slice A n c] w fun e w' => e = .returned (.int .i64 (if mayV L then 0 else 8)) ∧ Below w.heap.size w w' := by
  have HC : Hid (∀ (e : ZE) (W : World), e ∈ L → Below w.heap.size w W → Calls Tryz.prog 72 #[.agg #[.bool e.p, .slice e.A e.n e.c]] W fun x w' => x = .returned (.int .i64 (oneE e.p e.l)) ∧ Below W.heap.size W w') := fun e W he hW =>
    checkZ_any (p := e.p) (w := W) ⟨((h.ok e he).below hW).r, hs e he, (h.ok e he).c1, (h.ok e he).c2⟩
  have HL := Lib.hid h.len
  generalize hE : (if mayV L then (0 : Int) else 8) = E
  have HX := Lib.hid hE
  clear hE
  go_enter Tryz.func45, Tryz.ntmps45
  go_wp2
  go_loopw [8] (fun i wr => ∃ k : Nat, k ≤ n ∧ i = .int .i64 (k : Int) ∧ (∀ j e, j < k → L[j]? = some e → mayZ e.p e.l = true) ∧ Below w.heap.size w wr) (fun i _ => n - (intOf i).toNat)
  case atStart => exact ⟨0, by omega, rfl, fun j e hj => absurd hj (by omega), Below.refl _ _⟩
  case round =>
    obtain ⟨k, hk, rfl, h1, hB⟩ := hrel
    by_cases hlt : k < n
    · obtain ⟨e, he, _⟩ := h.elem hlt
      have hm : e ∈ L := List.mem_of_getElem? he
      obtain ⟨b, o, rfl, hbl, hc0, hc1⟩ := (h.below hB).cell he
      obtain ⟨p, A1, n1, c1, l1⟩ := e
      dsimp only at hc0 hc1
      have HB := Lib.hid (below_then hB (bxb wr (zo p A1 n1 c1)))
      have HM := Lib.hid (HC.out _ _ hm HB.out)
      dsimp only at HM
      have H1 := Lib.hid h1
      have HE := Lib.hid he
      cases e1 : mayZ p l1 with
      | false =>
        have HR : Hid (mayV L = false) := mayV_no he e1
        rw [oneE_no e1] at HM
        clear h1 hB h hs hm he e1
        go_wp2_with fail
        refine HM.out.mono ?_
        rintro x w3 ⟨rfl, hb3⟩
        have hB3 := Lib.hid (below_then HB.out hb3)
        clear hb3
        go_wp2
        go_ret
        exact ⟨by rw [← HX.out, HR.out]; rfl, hB3.out⟩
      | true =>
        have HK := Lib.hid e1
        rw [oneE_ok e1] at HM
        clear h1 hB h hs hm he e1
        go_wp2_with fail
        refine HM.out.mono ?_
        rintro x w3 ⟨rfl, hb3⟩
        have hB3 := Lib.hid (below_then HB.out hb3)
        clear hb3
        go_wp2
        go_roundw
        case rel =>
          refine ⟨k + 1, by omega, by go_num, fun j e hj hje => ?_, hB3.out⟩
          rcases Nat.lt_or_ge j k with hjk | hjk
          · exact H1.out j e hjk hje
          · obtain rfl : j = k := by omega
            rw [HE.out] at hje
            cases hje
            exact HK.out
        case measure => simp [intOf]; omega
    · have HR : Hid (mayV L = true) := mayV_yes HL.out fun j e hj hje => h1 j e (by omega) hje
      have HB := Lib.hid hB
      clear h1 hB h hs
      go_wp2
      go_ret
      exact ⟨by rw [← HX.out, HR.out]; rfl, HB.out⟩
/-- Rows of one number, of two, as variadic calls lay them. -/
theorem rdv_one {w : World} {p : Bool} {B : Option Addr} {m d : Nat} {l : List Nat} (h : ZE.ok w ⟨p, B, m, d, l⟩) : RdV (w.alloc (zo p B m d)) (some ⟨w.heap.size, 0, none⟩) 1 [⟨p, B, m, d, l⟩] := by
  have hb : BoxZ (w.alloc (zo p B m d)) w.heap.size p B m d := World.alloc_heap_new _ _
  refine ⟨rfl, fun e he => ?_, fun _ => ⟨w.heap.size, 0, rfl, by rw [World.size_alloc]; omega, fun i x hx => ?_⟩⟩
  · rw [List.mem_singleton] at he
    subst he
    exact h.below (bxb _ _)
  · match i, hx with
    | 0, hx => cases hx; exact ⟨hb.c0, hb.c1⟩
abbrev zo2 (p : Bool) (A : Option Addr) (n c : Nat) (q : Bool) (B : Option Addr) (m d : Nat) : Obj := .cells #[.bool p, .slice A n c, .bool q, .slice B m d] zT
theorem rdv_two {w : World} {p q : Bool} {A B : Option Addr} {n c m d : Nat} {l k : List Nat} (h : ZE.ok w ⟨p, A, n, c, l⟩) (h2 : ZE.ok w ⟨q, B, m, d, k⟩) : RdV (w.alloc (zo2 p A n c q B m d)) (some ⟨w.heap.size, 0, none⟩) 2 [⟨p, A, n, c, l⟩, ⟨q, B, m, d, k⟩] := by
  have hb : (w.alloc (zo2 p A n c q B m d)).heap[w.heap.size]? = some (zo2 p A n c q B m d) := World.alloc_heap_new _ _
  refine ⟨rfl, fun e he => ?_, fun _ => ⟨w.heap.size, 0, rfl, by rw [World.size_alloc]; omega, fun i x hx => ?_⟩⟩
  · rcases List.mem_cons.1 he with rfl | he
    · exact h.below (bxb _ _)
    · rw [List.mem_singleton] at he
      subst he
      exact h2.below (bxb _ _)
  · match i, hx with
    | 0, hx => cases hx; exact ⟨cells_cell hb rfl, cells_cell hb rfl⟩
    | 1, hx => cases hx; exact ⟨cells_cell hb rfl, cells_cell hb rfl⟩
section
variable {A A2 : Option Addr} {n c m d : Nat} {L M : List ZE} {w : World}
set_option maxRecDepth 100000 in
set_option maxHeartbeats 4000000 in
theorem checkV_any (h : V1 w A n c L) : Calls Tryz.prog 14 #[.slice A n c] w fun e w' => e = .returned (.int .i64 (if mayR L then 0 else 8)) ∧ Below w.heap.size w w' := by
  have hN := numbers_any A n c L w h.rd (fun e he => Nat.le_trans (h.small e he) (by omega)) h.c1 h.c2
  have hl := h.rd.len
  have hf := h.few
  unfold mayR
  clear h
  by_cases h64 : n ≤ 64
  · rw [show decide (L.length ≤ 64) = true from decide_eq_true (by omega), Bool.and_true]
    generalize (if mayV L = true then (0 : Int) else 8) = E at *
    have g1 : ¬ (64 : Int) < (n : Int) := by omega
    go_enter Tryz.func14, Tryz.ntmps14
    go_wp2_with fail
    refine hN.mono ?_
    rintro e w1 ⟨rfl, hb⟩
    go_wp2
    go_ret
    exact ⟨rfl, hb⟩
  · rw [show decide (L.length ≤ 64) = false from decide_eq_false (by omega), Bool.and_false]
    have g1 : (64 : Int) < (n : Int) := by omega
    go_enter Tryz.func14, Tryz.ntmps14
    go_wp2
    go_ret
    exact ⟨rfl, Below.refl _ _⟩
abbrev vT : TypeId := 28
abbrev rows2 (A : Option Addr) (n c : Nat) (A2 : Option Addr) (m d : Nat) : Obj := .cells #[.slice A n c, .slice A2 m d] vT
theorem two_E (L M : List ZE) : ((if mayR L then (0 : Int) else 8) = 0 → (if mayR M then (0 : Int) else 8) = 0 → twoVE L M = if L.length = M.length then 0 else 70) ∧ ((if mayR L then (0 : Int) else 8) ≠ 0 → twoVE L M = (if mayR L then (0 : Int) else 8)) ∧ ((if mayR M then (0 : Int) else 8) ≠ 0 → twoVE L M = (if mayR M then (0 : Int) else 8)) := by
  unfold twoVE
  cases mayR L <;> cases mayR M <;> simp
set_option maxRecDepth 100000 in
set_option maxHeartbeats 4000000 in
theorem alike_any (h : V1 w A n c L) (h2 : V1 w A2 m d M) : Calls Tryz.prog 40 #[.slice A n c, .slice A2 m d] w fun e w' => e = .returned (.int .i64 (twoVE L M)) ∧ Below w.heap.size w w' := by
  have HG : Hid (∀ W, Below (w.heap.size + 1) (w.alloc (rows2 A n c A2 m d)) W → W.cell? ⟨w.heap.size, 0, none⟩ = some (.slice A n c) ∧ W.cell? ⟨w.heap.size, 1, none⟩ = some (.slice A2 m d)) := fun W hb => by
    have h0 : (w.alloc (rows2 A n c A2 m d)).heap[w.heap.size]? = some (rows2 A n c A2 m d) := World.alloc_heap_new _ _
    exact ⟨cells_cell ((hb.block _ (Nat.lt_succ_self _)).trans h0) rfl, cells_cell ((hb.block _ (Nat.lt_succ_self _)).trans h0) rfl⟩
  have HC1 := Lib.hid (fun W (hW : Below w.heap.size w W) => checkV_any (h.below hW))
  have HC2 := Lib.hid (fun W (hW : Below w.heap.size w W) => checkV_any (h2.below hW))
  have TT := two_E L M
  rw [h.rd.len, h2.rd.len] at TT
  have TT := Lib.hid TT
  have hf := h.few
  have hf2 := h2.few
  have hB0 := bxb w (rows2 A n c A2 m d)
  generalize (if mayR L then (0 : Int) else 8) = E1 at HC1 TT
  generalize (if mayR M then (0 : Int) else 8) = E2 at HC2 TT
  generalize twoVE L M = E3 at TT ⊢
  clear h h2
  go_enter Tryz.func40, Tryz.ntmps40
  go_wp2
  go_loopw [12] (fun i wr => ∃ k : Nat, k ≤ 2 ∧ i = .int .i64 (k : Int) ∧ ((1 ≤ k → E1 = 0) ∧ (2 ≤ k → E2 = 0)) ∧ Below (w.heap.size + 1) (w.alloc (rows2 A n c A2 m d)) wr ∧ Below w.heap.size w wr) (fun i _ => 2 - (intOf i).toNat)
  case atStart => exact ⟨0, by omega, rfl, ⟨fun h => absurd h (by omega), fun h => absurd h (by omega)⟩, Below.refl _ _, hB0⟩
  case round =>
    obtain ⟨k, hk, rfl, h1, hA, hB⟩ := hrel
    have hc0 := (HG.out _ hA).1
    have hc1 := (HG.out _ hA).2
    obtain rfl | rfl | rfl : k = 0 ∨ k = 1 ∨ k = 2 := by omega
    · have HB := Lib.hid hB
      have HA := Lib.hid hA
      by_cases hE : E1 = 0
      · rw [hE] at HC1
        have HE := Lib.hid hE
        clear hB h1 hE hA
        go_wp2_with fail
        refine (HC1.out _ HB.out).mono ?_
        rintro e w3 ⟨rfl, hb3⟩
        have hB3 := Lib.hid (below_then HB.out hb3)
        have hA3 := Lib.hid (HA.out.trans (hb3.mono (by have hq := HA.out.size; rwa [World.size_alloc] at hq)))
        clear hb3
        go_wp2
        go_roundw
        case rel => exact ⟨1, by omega, rfl, ⟨fun _ => HE.out, fun h => absurd h (by omega)⟩, hA3.out, hB3.out⟩
        case measure => simp [intOf]
      · have HR : Hid (E3 = E1) := TT.out.2.1 hE
        have hE2 : ((E1 : Int) != 0) = true := by simpa using hE
        have hE3 : ((E1 : Int) == 0) = false := by simpa using hE
        clear hB h1 hE hA
        go_wp2_with fail
        refine (HC1.out _ HB.out).mono ?_
        rintro e w3 ⟨rfl, hb3⟩
        have hB3 := Lib.hid (below_then HB.out hb3)
        clear hb3
        go_wp2
        go_ret
        exact ⟨by rw [HR.out]; rfl, hB3.out⟩
    · have HB := Lib.hid hB
      have HA := Lib.hid hA
      by_cases hE : E2 = 0
      · rw [hE] at HC2
        have HE := Lib.hid hE
        have H1 := Lib.hid h1
        clear hB h1 hE hA
        go_wp2_with fail
        refine (HC2.out _ HB.out).mono ?_
        rintro e w3 ⟨rfl, hb3⟩
        have hB3 := Lib.hid (below_then HB.out hb3)
        have hA3 := Lib.hid (HA.out.trans (hb3.mono (by have hq := HA.out.size; rwa [World.size_alloc] at hq)))
        clear hb3
        go_wp2
        go_roundw
        case rel => exact ⟨2, by omega, rfl, ⟨fun _ => H1.out.1 (by omega), fun h => HE.out⟩, hA3.out, hB3.out⟩
        case measure => simp [intOf]
      · have HR : Hid (E3 = E2) := TT.out.2.2 hE
        have hE2 : ((E2 : Int) != 0) = true := by simpa using hE
        have hE3 : ((E2 : Int) == 0) = false := by simpa using hE
        clear hB h1 hE hA
        go_wp2_with fail
        refine (HC2.out _ HB.out).mono ?_
        rintro e w3 ⟨rfl, hb3⟩
        have hB3 := Lib.hid (below_then HB.out hb3)
        clear hb3
        go_wp2
        go_ret
        exact ⟨by rw [HR.out]; rfl, hB3.out⟩
    · have HR : Hid (E3 = if n = m then 0 else 70) := TT.out.1 (h1.1 (by omega)) (h1.2 (by omega))
      have HB := Lib.hid hB
      clear h1 hB hA
      by_cases hnm : n = m
      · subst hnm
        rw [if_pos rfl] at HR
        go_wp2
        go_ret
        exact ⟨by rw [HR.out]; rfl, HB.out⟩
      · rw [if_neg hnm] at HR
        have g1 : ¬ (n : Int) = (m : Int) := by omega
        go_wp2
        go_ret
        exact ⟨by rw [HR.out]; rfl, HB.out⟩
end
end Go.Proofs.YtgiokmfdafmaoaaGreat
