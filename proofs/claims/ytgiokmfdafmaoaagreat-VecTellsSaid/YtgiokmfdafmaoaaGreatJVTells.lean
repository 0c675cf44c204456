import Derived.Test.YtgiokmfdafmaoaaGreatJVPl
import Derived.Test.YtgiokmfdafmaoaaGreatJVCk
import Derived.Test.YtgiokmfdafmaoaaGreatJVClo
import Derived.Test.YtgiokmfdafmaoaaGreatJGCommon
import Derived.Test.YtgiokmfdafmaoaaGreatJVApp
import Derived.Test.YtgiokmfdafmaoaaGreatJRefMul
import Derived.Test.YtgiokmfdafmaoaaGreatJZT
import Derived.Test.YtgiokmfdafmaoaaGreatJVPrime
import Derived.Test.YtgiokmfdafmaoaaGreatJRefGcd3
import Derived.Test.YtgiokmfdafmaoaaGreatJDivSpec
import Derived.Test.YtgiokmfdafmaoaaGreatJZM
import Derived.Test.YtgiokmfdafmaoaaGreatJZW
import Derived.Test.YtgiokmfdafmaoaaGreatJVRow
import Derived.Test.YtgiokmfdafmaoaaGreatJZFr
import Derived.Deep.Slices
import Derived.ChangeSame
import Derived.Test.YtgiokmfdafmaoaaGreatJCopy
/- VJo VCloM VAdd VCmp VRef1 VCloP VCon VStep VRef2 VRef5 ZO VRef3 VDot VRef4 VRef4b VRef6 VOfC VFr VLaw VRef3b VLawC VLawW VGuard VLawP VTw VTells. -/
/- vec: joined. -/
namespace Go.Proofs.YtgiokmfdafmaoaaGreat
open Go.RowKit Go.Shelf
set_option linter.unusedVariables false
set_option linter.unusedSimpArgs false

/-- A call answered the row of n such numbers, in new memory, and the error 0; or none, and E. -/
def KAll (w : World) (ok : Bool) (n : Nat) (K : Nat → Bool × List Nat) (E : Int) (e : Ending) (w' : World) : Prop :=
  if ok then (∃ (A : Option Addr) (c : Nat) (L : List ZE), e = .returned (.tuple #[.slice A n c, .int .i64 0]) ∧ OwnV w' w.heap.size A n c L ∧ (∀ i x, L[i]? = some x → x.key = K i) ∧ Below w.heap.size w w')
  else e = .returned (.tuple #[.slice none 0 0, .int .i64 E]) ∧ Below w.heap.size w w'
section
variable {A A2 : Option Addr} {n c m d : Nat} {L M : List ZE} {w : World}
set_option maxRecDepth 100000 in
set_option maxHeartbeats 4000000 in
theorem joinedV2_any (F : Nat) (k0 k1 : Value) (hE : ∀ args w, (callFunc F args).run Tryz.prog w = .ok (.enter F args) w) (K : Nat → Bool × List Nat) (h : V1 w A n c L) (h2 : V1 w A2 m d M)
    (hC : twoVE L M = 0 → ∀ k, k < n → ∀ W, Below w.heap.size w W → Calls Tryz.prog F #[.int .i64 (k : Int), k0, k1] W (KAns W (K k).1 (K k).2)) :
    Calls Tryz.prog 42 #[.slice A n c, .slice A2 m d, .func (.func F) #[] #[k0, k1]] w (KAll w (decide (twoVE L M = 0)) n K (twoVE L M)) := by
  have HA := Lib.hid (alike_any h h2)
  have hf := h.few
  clear h h2
  generalize twoVE L M = E at *
  by_cases hz : E = 0
  · subst hz
    have HP := Lib.hid (fun W (hW : Below w.heap.size w W) => placedV2_any F k0 k1 hE n hf K W fun k hk V hV => hC rfl k hk V (below_then hW hV))
    clear hC
    unfold KRow at HP
    rw [show decide ((0 : Int) = 0) = true from rfl]
    unfold KAll
    simp only [if_true]
    go_enter Tryz.func42, Tryz.ntmps42
    go_wp2_with fail
    refine HA.out.mono ?_
    rintro e w1 ⟨rfl, hb1⟩
    go_wp2_with fail
    refine (HP.out w1 hb1).mono ?_
    rintro e w2 ⟨A3, c3, R, rfl, hO, hK, hb2⟩
    have HO := Lib.hid (hO.mono hb1.size)
    have HK := Lib.hid hK
    have HB := Lib.hid (below_then hb1 hb2)
    clear hO hK hb1 hb2
    go_wp2
    go_ret2
    exact ⟨A3, c3, R, rfl, HO.out, HK.out, HB.out⟩
  · rw [decide_eq_false hz]
    unfold KAll
    simp only [Bool.false_eq_true, if_false]
    have hE2 : ((E : Int) != 0) = true := by simpa using hz
    have hE3 : ((E : Int) == 0) = false := by simpa using hz
    clear hz hC
    go_enter Tryz.func42, Tryz.ntmps42
    go_wp2_with fail
    refine HA.out.mono ?_
    rintro e w1 ⟨rfl, hb1⟩
    go_wp2
    go_ret2
    exact ⟨rfl, hb1⟩
set_option maxRecDepth 100000 in
set_option maxHeartbeats 4000000 in
theorem joinedV4_any (F : Nat) (k0 k1 k2 k3 : Value) (hE : ∀ args w, (callFunc F args).run Tryz.prog w = .ok (.enter F args) w) (K : Nat → Bool × List Nat) (h : V1 w A n c L) (h2 : V1 w A2 m d M)
    (hC : twoVE L M = 0 → ∀ k, k < n → ∀ W, Below w.heap.size w W → Calls Tryz.prog F #[.int .i64 (k : Int), k0, k1, k2, k3] W (KAns W (K k).1 (K k).2)) :
    Calls Tryz.prog 42 #[.slice A n c, .slice A2 m d, .func (.func F) #[] #[k0, k1, k2, k3]] w (KAll w (decide (twoVE L M = 0)) n K (twoVE L M)) := by
  have HA := Lib.hid (alike_any h h2)
  have hf := h.few
  clear h h2
  generalize twoVE L M = E at *
  by_cases hz : E = 0
  · subst hz
    have HP := Lib.hid (fun W (hW : Below w.heap.size w W) => placedV4_any F k0 k1 k2 k3 hE n hf K W fun k hk V hV => hC rfl k hk V (below_then hW hV))
    clear hC
    unfold KRow at HP
    rw [show decide ((0 : Int) = 0) = true from rfl]
    unfold KAll
    simp only [if_true]
    go_enter Tryz.func42, Tryz.ntmps42
    go_wp2_with fail
    refine HA.out.mono ?_
    rintro e w1 ⟨rfl, hb1⟩
    go_wp2_with fail
    refine (HP.out w1 hb1).mono ?_
    rintro e w2 ⟨A3, c3, R, rfl, hO, hK, hb2⟩
    have HO := Lib.hid (hO.mono hb1.size)
    have HK := Lib.hid hK
    have HB := Lib.hid (below_then hb1 hb2)
    clear hO hK hb1 hb2
    go_wp2
    go_ret2
    exact ⟨A3, c3, R, rfl, HO.out, HK.out, HB.out⟩
  · rw [decide_eq_false hz]
    unfold KAll
    simp only [Bool.false_eq_true, if_false]
    have hE2 : ((E : Int) != 0) = true := by simpa using hz
    have hE3 : ((E : Int) == 0) = false := by simpa using hz
    clear hz hC
    go_enter Tryz.func42, Tryz.ntmps42
    go_wp2_with fail
    refine HA.out.mono ?_
    rintro e w1 ⟨rfl, hb1⟩
    go_wp2
    go_ret2
    exact ⟨rfl, hb1⟩
end
end Go.Proofs.YtgiokmfdafmaoaaGreat

/- vec: what makes a place of Mix. -/
namespace Go.Proofs.YtgiokmfdafmaoaaGreat
open Go.RowKit Go.Shelf
set_option linter.unusedVariables false
set_option linter.unusedSimpArgs false

section
variable {A A2 B B2 : Option Addr} {n c m d nb cb na ca g1 g2 g3 g4 k : Nat} {L M : List ZE} {w W : World} {z y : Int}
set_option maxRecDepth 100000 in
set_option maxHeartbeats 4000000 in
theorem mixClo_any (hx : BoxZ w g1 (decide (z < 0)) B nb cb) (hv : BoxV w g2 A n c) (hy : BoxZ w g3 (decide (y < 0)) B2 na ca) (hu : BoxV w g4 A2 m d) (hz : ZNm w B nb cb z) (lz : nb ≤ 60) (hz2 : ZNm w B2 na ca y) (lz2 : na ≤ 60) (h : V1 w A n c L) (h2 : V1 w A2 m d M) (he : twoVE L M = 0) (hk : k < n) :
    Calls Tryz.prog 55 #[.int .i64 (k : Int), .pointer (some ⟨g1, 0, none⟩), .pointer (some ⟨g2, 0, none⟩), .pointer (some ⟨g3, 0, none⟩), .pointer (some ⟨g4, 0, none⟩)] w (KAns w (numK (fun i => z * zat L i + y * zat M i) k).1 (numK (fun i => z * zat L i + y * zat M i) k).2) := by
  obtain ⟨hm1, hm2, hl⟩ := two_may he
  have hk2 : k < m := by rw [← h2.rd.len, ← hl, h.rd.len]; exact hk
  obtain ⟨s, hs, b1, o1, B3, n3, e3, rfl, hb, x0, x1, zn, lb⟩ := h.numH hm1 hk
  obtain ⟨t, ht, b2, o2, B4, n4, e4, rfl, hb2, y0, y1, zn2, lb2⟩ := h2.numH hm2 hk2
  have HM := Lib.hid (fun W (hW : Below w.heap.size w W) => timesV_any (w := W) (hz.below hW) (zn.below hW) (by omega) (by omega))
  have HM2 := Lib.hid (fun W (hW : Below w.heap.size w W) => timesV_any (w := W) (hz2.below hW) (zn2.below hW) (by omega) (by omega))
  have HC : Hid (∀ W', Below w.heap.size w W' → W'.cell? ⟨g1, 0, none⟩ = some (.bool (decide (z < 0))) ∧ W'.cell? ⟨g1, 1, none⟩ = some (.slice B nb cb) ∧ W'.cell? ⟨g2, 0, none⟩ = some (.slice (some ⟨b1, o1, none⟩) n c) ∧ W'.cell? ⟨g3, 0, none⟩ = some (.bool (decide (y < 0))) ∧ W'.cell? ⟨g3, 1, none⟩ = some (.slice B2 na ca) ∧ W'.cell? ⟨g4, 0, none⟩ = some (.slice (some ⟨b2, o2, none⟩) m d) ∧ W'.cell? ⟨b1, o1 + k * 2, none⟩ = some (.bool (decide (s < 0))) ∧ W'.cell? ⟨b1, o1 + k * 2 + 1, none⟩ = some (.slice B3 n3 e3) ∧ W'.cell? ⟨b2, o2 + k * 2, none⟩ = some (.bool (decide (t < 0))) ∧ W'.cell? ⟨b2, o2 + k * 2 + 1, none⟩ = some (.slice B4 n4 e4)) := fun W' hW =>
    ⟨(hx.below hW (Array.getElem?_eq_some_iff.1 hx).1).c0, (hx.below hW (Array.getElem?_eq_some_iff.1 hx).1).c1, (hv.next hW).c0, (hy.below hW (Array.getElem?_eq_some_iff.1 hy).1).c0, (hy.below hW (Array.getElem?_eq_some_iff.1 hy).1).c1, (hu.next hW).c0,
     (hW.cell (p := ⟨b1, o1 + k * 2, none⟩) hb).trans x0, (hW.cell (p := ⟨b1, o1 + k * 2 + 1, none⟩) hb).trans x1, (hW.cell (p := ⟨b2, o2 + k * 2, none⟩) hb2).trans y0, (hW.cell (p := ⟨b2, o2 + k * 2 + 1, none⟩) hb2).trans y1⟩
  have LP : Hid (Bd 120 (z * s)) := (Bd.of hz lz).mul (Bd.of zn lb)
  have LQ : Hid (Bd 120 (y * t)) := (Bd.of hz2 lz2).mul (Bd.of zn2 lb2)
  have HS := Lib.hid (fun W {A A2 : Option Addr} {n c m k2 : Nat} (h1 : ZNm W A n c (z * s)) (h2 : ZNm W A2 m k2 (y * t)) (l1 : n ≤ 400) (l2 : m ≤ 400) => sumV_any (w := W) h1 h2 l1 l2)
  have hl1 := (Array.getElem?_eq_some_iff.1 hx).1
  have hl2 := hv.lt
  have hl3 := (Array.getElem?_eq_some_iff.1 hy).1
  have hl4 := hu.lt
  clear x0 x1 y0 y1 h h2 he hm1 hm2 hl hx hv hy hu zn zn2 hz hz2
  rw [numK_at (f := fun i => z * zat L i + y * zat M i) (k := k) (z := z * s + y * t) (by show z * zat L k + y * zat M k = _; rw [hs.out, ht.out])]
  unfold KAns
  dsimp only
  generalize z * s = p at *
  generalize y * t = q at *
  generalize p + q = r at *
  have T0 := uno_box w false none 0 0
  have r0 := T0.x.c0
  have r1 := T0.x.c1
  have f0 := T0.x.f 0
  have f1 := T0.x.f 1
  have HT0 := Lib.hid (T0.next (Below.refl _ _).drew)
  obtain ⟨c0, c1, c2, c3, c4, c5, x0, x1, y0, y1⟩ := HC.out _ T0.b
  unfold ZOne zV zv at HM HM2 HS
  go_enter Tryz.func55, Tryz.ntmps55
  go_wp2_with fail
  go_region_held3 (fun W' => W'.cell? ⟨g1, 0, none⟩ = some (.bool (decide (z < 0))) ∧ W'.cell? ⟨g1, 1, none⟩ = some (.slice B nb cb) ∧ W'.cell? ⟨g2, 0, none⟩ = some (.slice (some ⟨b1, o1, none⟩) n c) ∧ W'.cell? ⟨g3, 0, none⟩ = some (.bool (decide (y < 0))) ∧ W'.cell? ⟨g3, 1, none⟩ = some (.slice B2 na ca) ∧ W'.cell? ⟨g4, 0, none⟩ = some (.slice (some ⟨b2, o2, none⟩) m d) ∧ W'.cell? ⟨b1, o1 + k * 2, none⟩ = some (.bool (decide (s < 0))) ∧ W'.cell? ⟨b1, o1 + k * 2 + 1, none⟩ = some (.slice B3 n3 e3) ∧ W'.cell? ⟨b2, o2 + k * 2, none⟩ = some (.bool (decide (t < 0))) ∧ W'.cell? ⟨b2, o2 + k * 2 + 1, none⟩ = some (.slice B4 n4 e4)) (first | (with_reducible exact ⟨c0, c1, c2, c3, c4, c5, x0, x1, y0, y1⟩) | (with_reducible refine ⟨cell_far (cell_far c0 ?_ _) ?_ _, cell_far (cell_far c1 ?_ _) ?_ _, cell_far (cell_far c2 ?_ _) ?_ _, cell_far (cell_far c3 ?_ _) ?_ _, cell_far (cell_far c4 ?_ _) ?_ _, cell_far (cell_far c5 ?_ _) ?_ _, cell_far (cell_far x0 ?_ _) ?_ _, cell_far (cell_far x1 ?_ _) ?_ _, cell_far (cell_far y0 ?_ _) ?_ _, cell_far (cell_far y1 ?_ _) ?_ _⟩ <;> omega) | go_keep)
    (first
      | (go_at_call 44; refine (HS.out _ (o3.below hb4).nm o4.nm (by omega) (by omega)).mono ?_; rintro e w3 ⟨A5, k5, d5, rfl, o5, hb5⟩; have T3 := T2.next hb5; have hG := Lib.hid (Array.getElem?_eq_some_iff.1 T2.x).1; clear r0 r1 f0 f1 c0 c1 c2 c3 c4 c5 x0 x1 y0 y1; have r0 := T3.x.c0; have r1 := T3.x.c1; have f0 := T3.x.f 0; have f1 := T3.x.f 1; obtain ⟨c0, c1, c2, c3, c4, c5, x0, x1, y0, y1⟩ := HC.out _ T3.b)
      | (go_at_call 47; (with_reducible refine (HM2.out _ T1.b).mono ?_); rintro e w2 ⟨A4, k4, d4, rfl, o4, hb4⟩; have T2 := T1.next hb4; have hq4 := LQ.out.len o4; clear r0 r1 f0 f1 c0 c1 c2 c3 c4 c5 x0 x1 y0 y1; have r0 := T2.x.c0; have r1 := T2.x.c1; have f0 := T2.x.f 0; have f1 := T2.x.f 1; obtain ⟨c0, c1, c2, c3, c4, c5, x0, x1, y0, y1⟩ := HC.out _ T2.b)
      | (go_at_call 47; refine (HM.out _ HT0.out.b).mono ?_; rintro e w1 ⟨A3, k3, d3, rfl, o3, hb3⟩; have T1 := HT0.out.next hb3; have hq3 := LP.out.len o3; clear r0 r1 f0 f1 c0 c1 c2 c3 c4 c5 x0 x1 y0 y1; have r0 := T1.x.c0; have r1 := T1.x.c1; have f0 := T1.x.f 0; have f1 := T1.x.f 1; obtain ⟨c0, c1, c2, c3, c4, c5, x0, x1, y0, y1⟩ := HC.out _ T1.b))
  clear c0 c1 c2 c3 c4 c5 x0 x1 y0 y1
  go_wp2
  refine bodyPost_ret (v := .agg #[.bool (decide (r < 0)), .slice A5 k5 d5]) (by simp [results, Tryz.results55, go_sem, r0, r1]) rfl ?_
  exact ⟨A5, k5, d5, rfl, own_box hG.out (Nat.le_refl _) o5 _ _, box_below (Nat.le_refl _) T3.b _ _⟩
end
end Go.Proofs.YtgiokmfdafmaoaaGreat

/- vec: Add, Scale, Mix. -/
namespace Go.Proofs.YtgiokmfdafmaoaaGreat
open Go.RowKit Go.Shelf
set_option linter.unusedVariables false
set_option linter.unusedSimpArgs false

theorem KAll.ans {w w' : World} {ok : Bool} {n : Nat} {f : Nat → Int} {E : Int} {e : Ending} (h : KAll w ok n (numK f) E e w') : VAns w ok n f E e w' := by
  unfold KAll at h
  unfold VAns
  cases ok with
  | true =>
    rw [if_pos rfl] at h ⊢
    obtain ⟨A, c, L, he, hO, hK, hb⟩ := h
    exact ⟨A, c, L, he, ⟨hO, isv_key hO.len hK⟩, hb⟩
  | false =>
    rw [if_neg (by decide)] at h ⊢
    exact h
theorem KAll.mono {w w1 w' : World} {ok : Bool} {n : Nat} {K : Nat → Bool × List Nat} {E : Int} {e : Ending} (h : KAll w1 ok n K E e w') (hb : Below w.heap.size w w1) : KAll w ok n K E e w' := by
  unfold KAll at h ⊢
  cases ok with
  | true =>
    rw [if_pos rfl] at h ⊢
    obtain ⟨A, c, L, he, hO, hK, hb2⟩ := h
    exact ⟨A, c, L, he, hO.mono hb.size, hK, below_then hb hb2⟩
  | false =>
    rw [if_neg (by decide)] at h ⊢
    exact ⟨h.1, below_then hb h.2⟩
/-- Both shapes of such an answer are a pair. -/
theorem KAll.shape {w w' : World} {ok : Bool} {n : Nat} {K : Nat → Bool × List Nat} {E : Int} {e : Ending} (h : KAll w ok n K E e w') : ∃ A3 n3 c3 E3, e = .returned (.tuple #[.slice A3 n3 c3, .int .i64 E3]) := by
  unfold KAll at h
  cases ok with
  | true =>
    rw [if_pos rfl] at h
    obtain ⟨A, c, L, he, _⟩ := h
    exact ⟨_, _, _, _, he⟩
  | false =>
    rw [if_neg (by decide)] at h
    exact ⟨_, _, _, _, h.1⟩
section
variable {A A2 B B2 : Option Addr} {n c m d nb cb na ca g1 g2 g3 g4 k : Nat} {L M : List ZE} {w W : World} {z y : Int}
set_option maxRecDepth 100000 in
set_option maxHeartbeats 4000000 in
theorem addV_is : AddVIs 10 := fun A A2 n c m d L M w h h2 => by
  have hmf : ∀ (fn : Fn) (first cap : Array Value) (w : World), (Instr.makeFunc fn first cap).run Tryz.prog w = .ok (.func fn first cap) w := fun _ _ _ _ => rfl
  have T1 : Below w.heap.size w ((w.alloc (bv A n c)).alloc (bv A2 m d)) := below_then (bxb _ _) (bxb _ _)
  have X1 : BoxV ((w.alloc (bv A n c)).alloc (bv A2 m d)) w.heap.size A n c := BoxV.next (w := w.alloc (bv A n c)) (World.alloc_heap_new _ _) (bxb _ _)
  have Y1 : BoxV ((w.alloc (bv A n c)).alloc (bv A2 m d)) (w.heap.size + 1) A2 m d := by
    have h := World.alloc_heap_new (w.alloc (bv A n c)) (bv A2 m d)
    rw [World.size_alloc] at h
    exact h
  have HJ : Hid (∀ (W : World) (g1 g2 : Nat), Below w.heap.size w W → BoxV W g1 A n c → BoxV W g2 A2 m d → Calls Tryz.prog 42 #[.slice A n c, .slice A2 m d, .func (.func 43) #[] #[.pointer (some ⟨g1, 0, none⟩), .pointer (some ⟨g2, 0, none⟩)]] W (KAll W (decide (twoVE L M = 0)) n (numK (fun i => zat L i + zat M i)) (twoVE L M))) := fun W g1 g2 hW hx hy =>
    joinedV2_any _ _ _ (enters_of Tryz.func43 (by kernel_rfl) rfl) _ (h.below hW) (h2.below hW) fun he k hk V hV => addVClo_any (hx.next hV) (hy.next hV) ((h.below hW).below hV) ((h2.below hW).below hV) he hk
  clear h h2
  generalize (fun i => zat L i + zat M i) = f at *
  have x0 := X1.c0
  have y0 := Y1.c0
  generalize twoVE L M = E at *
  go_enter Tryz.func10, Tryz.ntmps10
  go_wp2_with fail
  refine (HJ.out _ w.heap.size (w.heap.size + 1) T1 X1 Y1).mono ?_
  intro e w2 hA
  obtain ⟨A3, n3, c3, E3, rfl⟩ := hA.shape
  have HA := Lib.hid (hA.mono T1).ans
  clear hA T1 X1 Y1 x0 y0 HJ hmf
  go_wp2
  go_ret2
  exact HA.out
theorem z1_ok {w : World} {A : Option Addr} {n c : Nat} {p : Bool} {l : List Nat} (h : Z1 w A n c l) : ZE.ok w ⟨p, A, n, c, l⟩ := ⟨h.ra, h.ca1, h.ca2⟩
theorem z1_num {w : World} {A : Option Addr} {n c : Nat} {p : Bool} {l : List Nat} (h : Z1 w A n c l) (hm : mayZ p l = true) : ZNm w A n c (zof p l) ∧ p = decide (zof p l < 0) := by
  refine ⟨⟨?_, h.ca1, h.ca2⟩, (zof_neg hm).symm⟩
  rw [zof_abs, limbs_val h.ra.words (mayZ_may hm)]
  exact h.ra
set_option maxRecDepth 100000 in
set_option maxHeartbeats 4000000 in
theorem scaleV_is : ScaleIs 20 := fun A B n c nb cb p b L w h hb lb => by
  have hmf : ∀ (fn : Fn) (first cap : Array Value) (w : World), (Instr.makeFunc fn first cap).run Tryz.prog w = .ok (.func fn first cap) w := fun _ _ _ _ => rfl
  have T1 : Below w.heap.size w ((w.alloc (bv A n c)).alloc (zo p B nb cb)) := below_then (bxb _ _) (bxb _ _)
  have X1 : BoxV ((w.alloc (bv A n c)).alloc (zo p B nb cb)) w.heap.size A n c := BoxV.next (w := w.alloc (bv A n c)) (World.alloc_heap_new _ _) (bxb _ _)
  have Y1 : BoxZ ((w.alloc (bv A n c)).alloc (zo p B nb cb)) (w.heap.size + 1) p B nb cb := by
    have h := World.alloc_heap_new (w.alloc (bv A n c)) (zo p B nb cb)
    rw [World.size_alloc] at h
    exact h
  have N1 : Hid (Calls Tryz.prog 45 #[.slice (some ⟨w.heap.size + 1 + 1, 0, none⟩) 1 1] (((w.alloc (bv A n c)).alloc (zo p B nb cb)).alloc (zo p B nb cb)) fun e w' => e = .returned (.int .i64 (if mayZ p b then 0 else 8)) ∧ Below w.heap.size w w' ∧ BoxV w' w.heap.size A n c ∧ BoxZ w' (w.heap.size + 1) p B nb cb) := by
    have hr := rdv_one (w := ((w.alloc (bv A n c)).alloc (zo p B nb cb))) (p := p) ((z1_ok hb).below T1)
    have hs2 : ((w.alloc (bv A n c)).alloc (zo p B nb cb)).heap.size = w.heap.size + 1 + 1 := by rw [World.size_alloc, World.size_alloc]
    rw [hs2] at hr
    refine (numbers_any _ 1 1 _ _ hr (fun e he => by rw [List.mem_singleton] at he; subst he; exact Nat.le_trans lb (by omega)) (Nat.le_refl _) (by omega)).mono ?_
    rintro e w' ⟨rfl, hb1⟩
    have hb2 := below_then (bxb ((w.alloc (bv A n c)).alloc (zo p B nb cb)) (zo p B nb cb)) hb1
    exact ⟨by simp [mayV], below_then T1 hb2, X1.next hb2, Y1.below hb2 (Array.getElem?_eq_some_iff.1 Y1).1⟩
  have N2 := Lib.hid (fun W (hW : Below w.heap.size w W) => checkV_any (h.below hW))
  have N3 : Hid (mayR L = true → mayZ p b = true → ∀ (W : World) (g1 g2 : Nat), Below w.heap.size w W → BoxV W g1 A n c → BoxZ W g2 p B nb cb → Calls Tryz.prog 36 #[.int .i64 (n : Int), .func (.func 52) #[] #[.pointer (some ⟨g2, 0, none⟩), .pointer (some ⟨g1, 0, none⟩)]] W (KRow W n (numK (fun i => zof p b * zat L i)))) := fun hm hp W g1 g2 hW hx hy =>
    placedV2_any _ _ _ (enters_of Tryz.func52 (by kernel_rfl) rfl) n h.few _ W fun k hk V hV => by
      have hq := z1_num hb hp
      rw [hq.2] at hy
      exact scaleClo_any (hy.below hV (Array.getElem?_eq_some_iff.1 hy).1) (hx.next hV) ((hq.1.below hW).below hV) lb ((h.below hW).below hV) hm hk
  have hf := h.few
  have x0 := X1.c0
  have y0 := Y1.c0
  have y1 := Y1.c1
  clear h hb X1 Y1 T1
  unfold VAns
  cases h1 : mayZ p b with
  | false =>
    rw [h1] at N1
    simp only [Bool.and_false, Bool.false_eq_true, if_false] at N1 ⊢
    clear h1 N2 N3
    unfold zv
    go_enter Tryz.func20, Tryz.ntmps20
    go_wp2_with fail
    refine N1.out.mono ?_
    rintro e w1 ⟨rfl, hb1, hx, hy⟩
    go_wp2
    go_ret2
    exact ⟨rfl, hb1⟩
  | true =>
    rw [h1] at N1
    simp only [if_true, Bool.and_true] at N1 ⊢
    cases h2 : mayR L with
    | false =>
      rw [h2] at N2
      simp only [Bool.false_eq_true, if_false] at N2 ⊢
      clear h1 h2 N3
      unfold zv
      go_enter Tryz.func20, Tryz.ntmps20
      go_wp2_with fail
      refine N1.out.mono ?_
      rintro e w1 ⟨rfl, hb1, hx, hy⟩
      clear x0 y0 y1
      have x0 := hx.c0
      go_wp2_with fail
      refine (N2.out _ hb1).mono ?_
      rintro e w2 ⟨rfl, hb2⟩
      go_wp2
      go_ret2
      exact ⟨rfl, below_then hb1 hb2⟩
    | true =>
      rw [h2] at N2
      have N4 := Lib.hid (N3.out h2 h1)
      simp only [if_true] at N2 ⊢
      clear h1 h2 N3
      unfold KRow at N4
      unfold zv
      go_enter Tryz.func20, Tryz.ntmps20
      go_wp2_with fail
      refine N1.out.mono ?_
      rintro e w1 ⟨rfl, hb1, hx, hy⟩
      clear x0 y0 y1
      have x0 := hx.c0
      go_wp2_with fail
      refine (N2.out _ hb1).mono ?_
      rintro e w2 ⟨rfl, hb2⟩
      have HX := hx.next hb2
      have HY := hy.below hb2 (Array.getElem?_eq_some_iff.1 hy).1
      have hB := below_then hb1 hb2
      clear x0 hx hy hb1 hb2
      have x0 := HX.c0
      go_wp2_with fail
      refine (N4.out w2 w.heap.size (w.heap.size + 1) hB HX HY).mono ?_
      rintro e w3 ⟨A3, c3, R, rfl, hO, hK, hb3⟩
      have HN : Hid (NewV w3 w.heap.size A3 n c3 R (fun i => zat L i * zof p b)) := ⟨hO.mono hB.size, (isv_key hO.len hK).congr fun i _ => Int.mul_comm _ _⟩
      have HB := Lib.hid (below_then hB hb3)
      clear hO hK hb3 HX HY hB x0
      go_wp2
      go_ret2
      exact ⟨A3, c3, R, rfl, HN.out, HB.out⟩
set_option maxRecDepth 100000 in
set_option maxHeartbeats 4000000 in
/-- Four boxes: a number, a row, a number, a row. -/
theorem four_box (w : World) (p : Bool) (B : Option Addr) (na ca : Nat) (A : Option Addr) (n c : Nat) (q : Bool) (B2 : Option Addr) (nb cb : Nat) (A2 : Option Addr) (m d : Nat) : Below w.heap.size w ((((w.alloc (zo p B na ca)).alloc (bv A n c)).alloc (zo q B2 nb cb)).alloc (bv A2 m d)) ∧ BoxZ ((((w.alloc (zo p B na ca)).alloc (bv A n c)).alloc (zo q B2 nb cb)).alloc (bv A2 m d)) w.heap.size p B na ca ∧ BoxV ((((w.alloc (zo p B na ca)).alloc (bv A n c)).alloc (zo q B2 nb cb)).alloc (bv A2 m d)) (w.heap.size + 1) A n c ∧ BoxZ ((((w.alloc (zo p B na ca)).alloc (bv A n c)).alloc (zo q B2 nb cb)).alloc (bv A2 m d)) (w.heap.size + 1 + 1) q B2 nb cb ∧ BoxV ((((w.alloc (zo p B na ca)).alloc (bv A n c)).alloc (zo q B2 nb cb)).alloc (bv A2 m d)) (w.heap.size + 1 + 1 + 1) A2 m d := by
  have X1 : BoxZ (w.alloc (zo p B na ca)) w.heap.size p B na ca := World.alloc_heap_new _ _
  have X2 := World.alloc_heap_new (w.alloc (zo p B na ca)) (bv A n c)
  have X3 := World.alloc_heap_new ((w.alloc (zo p B na ca)).alloc (bv A n c)) (zo q B2 nb cb)
  have X4 := World.alloc_heap_new (((w.alloc (zo p B na ca)).alloc (bv A n c)).alloc (zo q B2 nb cb)) (bv A2 m d)
  simp only [World.size_alloc] at X2 X3 X4
  have b2 := bxb (w.alloc (zo p B na ca)) (bv A n c)
  have b3 := bxb ((w.alloc (zo p B na ca)).alloc (bv A n c)) (zo q B2 nb cb)
  have b4 := bxb (((w.alloc (zo p B na ca)).alloc (bv A n c)).alloc (zo q B2 nb cb)) (bv A2 m d)
  have b34 := below_then b3 b4
  have b24 := below_then b2 b34
  refine ⟨below_then (bxb _ _) b24, X1.below b24 (Array.getElem?_eq_some_iff.1 X1).1, (b34.block _ (Array.getElem?_eq_some_iff.1 X2).1).trans X2, (b4.block _ (Array.getElem?_eq_some_iff.1 X3).1).trans X3, X4⟩
set_option maxRecDepth 100000 in
set_option maxHeartbeats 4000000 in
theorem mixV_is : MixIs 22 := fun A A2 B B2 n c m d na ca nb cb p q a b L M w h h2 ha hb la lb => by
  have hmf : ∀ (fn : Fn) (first cap : Array Value) (w : World), (Instr.makeFunc fn first cap).run Tryz.prog w = .ok (.func fn first cap) w := fun _ _ _ _ => rfl
  obtain ⟨T1, X1, X2, X3, X4⟩ := four_box w p B na ca A n c q B2 nb cb A2 m d
  have N1 : Hid (Calls Tryz.prog 45 #[.slice (some ⟨w.heap.size + 1 + 1 + 1 + 1, 0, none⟩) 2 2] (((((w.alloc (zo p B na ca)).alloc (bv A n c)).alloc (zo q B2 nb cb)).alloc (bv A2 m d)).alloc (zo2 p B na ca q B2 nb cb)) fun e w' => e = .returned (.int .i64 (if mayZ p a && mayZ q b then 0 else 8)) ∧ Below w.heap.size w w' ∧ BoxZ w' w.heap.size p B na ca ∧ BoxV w' (w.heap.size + 1) A n c ∧ BoxZ w' (w.heap.size + 1 + 1) q B2 nb cb ∧ BoxV w' (w.heap.size + 1 + 1 + 1) A2 m d) := by
    have hr := rdv_two (w := ((((w.alloc (zo p B na ca)).alloc (bv A n c)).alloc (zo q B2 nb cb)).alloc (bv A2 m d))) (p := p) (q := q) ((z1_ok ha).below T1) ((z1_ok hb).below T1)
    have hs2 : ((((w.alloc (zo p B na ca)).alloc (bv A n c)).alloc (zo q B2 nb cb)).alloc (bv A2 m d)).heap.size = w.heap.size + 1 + 1 + 1 + 1 := by simp only [World.size_alloc]
    rw [hs2] at hr
    refine (numbers_any _ 2 2 _ _ hr (fun e he => by
      rcases List.mem_cons.1 he with rfl | he
      · exact Nat.le_trans la (by omega)
      · rw [List.mem_singleton] at he; subst he; exact Nat.le_trans lb (by omega)) (Nat.le_refl _) (by omega)).mono ?_
    rintro e w' ⟨rfl, hb1⟩
    have hb2 := below_then (bxb ((((w.alloc (zo p B na ca)).alloc (bv A n c)).alloc (zo q B2 nb cb)).alloc (bv A2 m d)) (zo2 p B na ca q B2 nb cb)) hb1
    exact ⟨by simp [mayV], below_then T1 hb2, X1.below hb2 (Array.getElem?_eq_some_iff.1 X1).1, X2.next hb2, X3.below hb2 (Array.getElem?_eq_some_iff.1 X3).1, X4.next hb2⟩
  have N3 : Hid ((mayZ p a && mayZ q b) = true → ∀ (W : World) (g1 g2 g3 g4 : Nat), Below w.heap.size w W → BoxZ W g1 p B na ca → BoxV W g2 A n c → BoxZ W g3 q B2 nb cb → BoxV W g4 A2 m d → Calls Tryz.prog 42 #[.slice A n c, .slice A2 m d, .func (.func 55) #[] #[.pointer (some ⟨g1, 0, none⟩), .pointer (some ⟨g2, 0, none⟩), .pointer (some ⟨g3, 0, none⟩), .pointer (some ⟨g4, 0, none⟩)]] W (KAll W (decide (twoVE L M = 0)) n (numK (fun i => zof p a * zat L i + zof q b * zat M i)) (twoVE L M))) := fun hm W g1 g2 g3 g4 hW h1 h3 h4 h5 =>
    joinedV4_any _ _ _ _ _ (enters_of Tryz.func55 (by kernel_rfl) rfl) _ (h.below hW) (h2.below hW) fun he k hk V hV => by
      rw [Bool.and_eq_true] at hm
      have hq := z1_num ha hm.1
      have hr := z1_num hb hm.2
      rw [hq.2] at h1
      rw [hr.2] at h4
      exact mixClo_any (h1.below hV (Array.getElem?_eq_some_iff.1 h1).1) (h3.next hV) (h4.below hV (Array.getElem?_eq_some_iff.1 h4).1) (h5.next hV) ((hq.1.below hW).below hV) la ((hr.1.below hW).below hV) lb ((h.below hW).below hV) ((h2.below hW).below hV) he hk
  have x0 := X1.c0
  have x1 := X1.c1
  have y0 := X3.c0
  have y1 := X3.c1
  clear h h2 ha hb X1 X2 X3 X4 T1
  generalize (fun i => zof p a * zat L i + zof q b * zat M i) = f at *
  generalize twoVE L M = E at *
  cases h1 : (mayZ p a && mayZ q b) with
  | false =>
    rw [h1] at N1
    simp only [Bool.false_and, Bool.false_eq_true, if_false] at N1 ⊢
    clear h1 N3
    unfold zv VAns
    simp only [Bool.false_eq_true, if_false]
    go_enter Tryz.func22, Tryz.ntmps22
    go_wp2_with fail
    refine N1.out.mono ?_
    rintro e w1 ⟨rfl, hb1, _⟩
    go_wp2
    go_ret2
    exact ⟨rfl, hb1⟩
  | true =>
    rw [h1] at N1
    have N4 := Lib.hid (N3.out h1)
    simp only [if_true, Bool.true_and] at N1 ⊢
    clear h1 N3
    unfold zv
    go_enter Tryz.func22, Tryz.ntmps22
    go_wp2_with fail
    refine N1.out.mono ?_
    rintro e w1 ⟨rfl, hb1, h1, h3, h4, h5⟩
    clear x0 x1 y0 y1
    have x0 := h3.c0
    have y0 := h5.c0
    go_wp2_with fail
    refine (N4.out w1 w.heap.size (w.heap.size + 1) (w.heap.size + 1 + 1) (w.heap.size + 1 + 1 + 1) hb1 h1 h3 h4 h5).mono ?_
    intro e w2 hA
    obtain ⟨A3, n3, c3, E3, rfl⟩ := hA.shape
    have HA := Lib.hid (hA.mono hb1).ans
    clear hA h1 h3 h4 h5 x0 y0 hb1
    go_wp2
    go_ret2
    exact HA.out
end
end Go.Proofs.YtgiokmfdafmaoaaGreat

/- vec: Cmp, Zero, Same. -/
namespace Go.Proofs.YtgiokmfdafmaoaaGreat
open Go.RowKit Go.Shelf
set_option linter.unusedVariables false
set_option linter.unusedSimpArgs false

theorem keys_ne {L M : List ZE} {k : Nat} {e x : ZE} (h1 : L[k]? = some e) (h2 : M[k]? = some x) (h : ZE.key e ≠ ZE.key x) : keys L ≠ keys M := fun he => by
  have h3 : (keys L)[k]? = (keys M)[k]? := by rw [he]
  unfold keys at h3
  rw [List.getElem?_map, List.getElem?_map, h1, h2] at h3
  exact h (by simpa using h3)
theorem keys_eq {L M : List ZE} {n : Nat} (hl : L.length = n) (hm : M.length = n) (h : ∀ j e x, j < n → L[j]? = some e → M[j]? = some x → ZE.key e = ZE.key x) : keys L = keys M := by
  unfold keys
  apply List.ext_getElem?
  intro i
  rw [List.getElem?_map, List.getElem?_map]
  by_cases hi : i < n
  · rw [List.getElem?_eq_getElem (show i < L.length by omega), List.getElem?_eq_getElem (show i < M.length by omega)]
    exact congrArg some (h i _ _ hi (List.getElem?_eq_getElem (show i < L.length by omega)) (List.getElem?_eq_getElem (show i < M.length by omega)))
  · rw [List.getElem?_eq_none (by omega), List.getElem?_eq_none (by omega)]
theorem noughts_no {L : List ZE} {k : Nat} {e : ZE} (he : L[k]? = some e) (h : ¬ (e.p = false ∧ e.l = [])) : noughts L = false := by
  have hm : e ∈ L := List.mem_of_getElem? he
  cases hv : noughts L with
  | false => rfl
  | true =>
    unfold noughts at hv
    rw [List.all_eq_true] at hv
    have h1 := hv e hm
    rw [Bool.and_eq_true] at h1
    exact absurd ⟨by simpa using h1.1, by simpa using h1.2⟩ h
theorem noughts_yes {L : List ZE} {n : Nat} (hn : L.length = n) (h : ∀ k e, k < n → L[k]? = some e → e.p = false ∧ e.l = []) : noughts L = true := by
  unfold noughts
  rw [List.all_eq_true]
  intro e he
  obtain ⟨k, hk⟩ := List.getElem?_of_mem he
  obtain ⟨h1, h2⟩ := h k e (by have := (List.getElem?_eq_some_iff.1 hk).1; omega) hk
  rw [h1, h2]
  rfl
theorem key_iff (e x : ZE) : ZE.key e = ZE.key x ↔ e.p = x.p ∧ e.l = x.l := by unfold ZE.key; rw [Prod.mk.injEq]
section
set_option maxRecDepth 100000 in
set_option maxHeartbeats 4000000 in
theorem zeroV_is : ZeroIs 29 := fun A n c L w h => by
  have HS : Hid (∀ (e : ZE) (W : World), e ∈ L → Below w.heap.size w W → Calls Tryz.prog 59 #[.agg #[.bool e.p, .slice e.A e.n e.c], .agg #[.bool false, .slice none 0 0]] W fun x w' => x = .returned (.bool (decide (e.p = false ∧ e.l = []))) ∧ Below W.heap.size W w') := fun e W he hW =>
    sameZ_any (p := e.p) (q := false) (w := W) ⟨((h.rd.ok e he).below hW).r, rd_nil _ _, Nat.le_trans (h.small e he) (by omega), Nat.zero_le _, (h.rd.ok e he).c1, (h.rd.ok e he).c2, Nat.le_refl _, Nat.zero_le _⟩
  have HL := Lib.hid h.rd.len
  have hf := h.few
  have h := h.rd
  generalize hE : noughts L = E
  have HX := Lib.hid hE
  clear hE
  go_enter Tryz.func29, Tryz.ntmps29
  go_wp2
  go_loopw [7] (fun i wr => ∃ k : Nat, k ≤ n ∧ i = .int .i64 (k : Int) ∧ (∀ j e, j < k → L[j]? = some e → e.p = false ∧ e.l = []) ∧ Below w.heap.size w wr) (fun i _ => n - (intOf i).toNat)
  case atStart => exact ⟨0, by omega, rfl, fun j e hj => absurd hj (by omega), Below.refl _ _⟩
  case round =>
    obtain ⟨k, hk, rfl, h1, hB⟩ := hrel
    by_cases hlt : k < n
    · obtain ⟨e, he, _⟩ := h.elem hlt
      have hm : e ∈ L := List.mem_of_getElem? he
      obtain ⟨b, o, rfl, hbl, hc0, hc1⟩ := (h.below hB).cell he
      obtain ⟨p, A1, n1, c1, l1⟩ := e
      dsimp only at hc0 hc1
      have HB := Lib.hid (below_then hB (bxb wr (zo p A1 n1 c1)))
      have HM := Lib.hid (HS.out _ _ hm HB.out)
      dsimp only at HM
      have H1 := Lib.hid h1
      have HE := Lib.hid he
      by_cases e1 : p = false ∧ l1 = []
      · have HK := Lib.hid e1
        rw [decide_eq_true e1] at HM
        clear h1 hB h hm he e1
        go_wp2_with fail
        refine HM.out.mono ?_
        rintro x w3 ⟨rfl, hb3⟩
        have hB3 := Lib.hid (below_then HB.out hb3)
        clear hb3
        go_wp2
        go_roundw
        case rel =>
          refine ⟨k + 1, by omega, by go_num, fun j e hj hje => ?_, hB3.out⟩
          rcases Nat.lt_or_ge j k with hjk | hjk
          · exact H1.out j e hjk hje
          · obtain rfl : j = k := by omega
            rw [HE.out] at hje
            cases hje
            exact HK.out
        case measure => simp [intOf]; omega
      · have HR : Hid (noughts L = false) := noughts_no he e1
        rw [decide_eq_false e1] at HM
        clear h1 hB h hm he e1
        go_wp2_with fail
        refine HM.out.mono ?_
        rintro x w3 ⟨rfl, hb3⟩
        have hB3 := Lib.hid (below_then HB.out hb3)
        clear hb3
        go_wp2
        go_ret
        exact ⟨by rw [← HX.out, HR.out]; (try rfl), hB3.out⟩
    · have HR : Hid (noughts L = true) := noughts_yes HL.out fun j e hj hje => h1 j e (by omega) hje
      have HB := Lib.hid hB
      clear h1 hB h
      go_wp2
      go_ret
      exact ⟨by rw [← HX.out, HR.out]; (try rfl), HB.out⟩
set_option maxRecDepth 100000 in
set_option maxHeartbeats 4000000 in
theorem equalFunc_any {A A2 : Option Addr} {n c m d : Nat} {L M : List ZE} {w : World} (h : V1 w A n c L) (h2 : V1 w A2 m d M) : Calls Tryz.prog 60 #[.slice A n c, .slice A2 m d, .func (.func 59) #[] #[]] w fun e w' => e = .returned (.bool (decide (keys L = keys M))) ∧ Below w.heap.size w w' := by
  have hE := enters_of Tryz.func59 (by kernel_rfl) rfl
  have HS : Hid (∀ (e x : ZE) (W : World), e ∈ L → x ∈ M → Below w.heap.size w W → Calls Tryz.prog 59 #[.agg #[.bool e.p, .slice e.A e.n e.c], .agg #[.bool x.p, .slice x.A x.n x.c]] W fun r w' => r = .returned (.bool (decide (e.p = x.p ∧ e.l = x.l))) ∧ Below W.heap.size W w') := fun e x W he hx hW =>
    sameZ_any (p := e.p) (q := x.p) (w := W) ⟨((h.rd.ok e he).below hW).r, ((h2.rd.ok x hx).below hW).r, Nat.le_trans (h.small e he) (by omega), Nat.le_trans (h2.small x hx) (by omega), (h.rd.ok e he).c1, (h.rd.ok e he).c2, (h2.rd.ok x hx).c1, (h2.rd.ok x hx).c2⟩
  have hf1 := h.few
  have hf2 := h2.few
  have h := h.rd
  have h2 := h2.rd
  have HL := Lib.hid h.len
  have HL2 := Lib.hid h2.len
  by_cases hnm : n = m
  · subst hnm
    generalize hD : decide (keys L = keys M) = D
    have HX := Lib.hid hD
    clear hD
    go_enter Tryz.func60, Tryz.ntmps60
    go_wp2
    go_loopw [17] (fun i wr => ∃ k : Nat, k ≤ n ∧ i = .int .i64 (k : Int) ∧ (∀ j e x, j < k → L[j]? = some e → M[j]? = some x → ZE.key e = ZE.key x) ∧ Below w.heap.size w wr) (fun i _ => n - (intOf i).toNat)
    case atStart => exact ⟨0, by omega, rfl, fun j e x hj => absurd hj (by omega), Below.refl _ _⟩
    case round =>
      obtain ⟨k, hk, rfl, h1, hB⟩ := hrel
      by_cases hlt : k < n
      · obtain ⟨e, he, _⟩ := h.elem hlt
        have hm : e ∈ L := List.mem_of_getElem? he
        obtain ⟨b, o, rfl, hbl, hc0, hc1⟩ := (h.below hB).cell he
        obtain ⟨x, hx, _⟩ := h2.elem hlt
        have hm2 : x ∈ M := List.mem_of_getElem? hx
        obtain ⟨b2, o2, rfl, hbl2, hd0, hd1⟩ := (h2.below hB).cell hx
        obtain ⟨p, A1, n1, c1, l1⟩ := e
        obtain ⟨q, A3, n3, c3, l3⟩ := x
        dsimp only at hc0 hc1 hd0 hd1
        have HB := Lib.hid (below_then hB (below_then (bxb wr (zo p A1 n1 c1)) (bxb _ (zo q A3 n3 c3))))
        have HM := Lib.hid (HS.out _ _ _ hm hm2 HB.out)
        dsimp only at HM
        have H1 := Lib.hid h1
        have HE := Lib.hid (And.intro he hx)
        by_cases e1 : p = q ∧ l1 = l3
        · have HK := Lib.hid e1
          rw [decide_eq_true e1] at HM
          clear h1 hB h h2 hm hm2 he hx e1
          go_wp2_with fail
          refine HM.out.mono ?_
          rintro r w3 ⟨rfl, hb3⟩
          have hB3 := Lib.hid (below_then HB.out hb3)
          clear hb3
          go_wp2
          go_roundw
          case rel =>
            refine ⟨k + 1, by omega, by go_num, fun j e x hj hje hjx => ?_, hB3.out⟩
            rcases Nat.lt_or_ge j k with hjk | hjk
            · exact H1.out j e x hjk hje hjx
            · obtain rfl : j = k := by omega
              rw [HE.out.1] at hje
              rw [HE.out.2] at hjx
              cases hje
              cases hjx
              exact (key_iff _ _).2 HK.out
          case measure => simp [intOf]; omega
        · have HR : Hid (decide (keys L = keys M) = false) := decide_eq_false (keys_ne he hx fun hk => e1 ((key_iff _ _).1 hk))
          rw [decide_eq_false e1] at HM
          clear h1 hB h h2 hm hm2 he hx e1
          go_wp2_with fail
          refine HM.out.mono ?_
          rintro r w3 ⟨rfl, hb3⟩
          have hB3 := Lib.hid (below_then HB.out hb3)
          clear hb3
          go_wp2
          go_ret
          exact ⟨by rw [← HX.out, HR.out]; (try rfl), hB3.out⟩
      · have HR : Hid (decide (keys L = keys M) = true) := decide_eq_true (keys_eq HL.out HL2.out fun j e x hj hje hjx => h1 j e x (by omega) hje hjx)
        have HB := Lib.hid hB
        clear h1 hB h h2
        go_wp2
        go_ret
        exact ⟨by rw [← HX.out, HR.out]; (try rfl), HB.out⟩
  · have HR : Hid (decide (keys L = keys M) = false) := decide_eq_false fun e => by
      have e2 : (keys L).length = (keys M).length := by rw [e]
      rw [keys_len, keys_len, HL.out, HL2.out] at e2
      exact hnm e2
    rw [HR.out]
    have g1 : ¬ (n : Int) = (m : Int) := by omega
    clear h h2 HR
    go_enter Tryz.func60, Tryz.ntmps60
    go_wp2
    go_ret
    exact ⟨rfl, Below.refl _ _⟩
set_option maxRecDepth 100000 in
set_option maxHeartbeats 4000000 in
theorem sameV_is : SameVIs 31 := fun A A2 n c m d L M w h h2 => by
  have HN := Lib.hid (equalFunc_any h h2)
  clear h h2
  go_enter Tryz.func31, Tryz.ntmps31
  go_wp2_with fail
  refine HN.out.mono ?_
  rintro e w1 ⟨rfl, hb⟩
  go_wp2
  go_ret
  exact ⟨rfl, hb⟩
set_option maxRecDepth 100000 in
set_option maxHeartbeats 4000000 in
theorem cmpV_is : CmpVIs 9 := fun A A2 n c m d L M w h h2 => by
  have HA := Lib.hid (alike_any h h2)
  have HN : Hid (twoVE L M = 0 → ∀ k, k < n → ∃ b o B nb cb b2 o2 B2 nb2 cb2, A = some ⟨b, o, none⟩ ∧ A2 = some ⟨b2, o2, none⟩ ∧ k < m ∧ ∀ W, Below w.heap.size w W → (W.cell? ⟨b, o + k * 2, none⟩ = some (.bool (decide (zat L k < 0))) ∧ W.cell? ⟨b, o + k * 2 + 1, none⟩ = some (.slice B nb cb) ∧ W.cell? ⟨b2, o2 + k * 2, none⟩ = some (.bool (decide (zat M k < 0))) ∧ W.cell? ⟨b2, o2 + k * 2 + 1, none⟩ = some (.slice B2 nb2 cb2)) ∧ Calls Tryz.prog 41 #[.agg #[.bool (decide (zat L k < 0)), .slice B nb cb], .agg #[.bool (decide (zat M k < 0)), .slice B2 nb2 cb2]] W (IAns W (sgn (zat L k - zat M k)) 0)) := fun he k hk => by
    obtain ⟨hm1, hm2, hl⟩ := two_may he
    have hk2 : k < m := by rw [← h2.rd.len, ← hl, h.rd.len]; exact hk
    obtain ⟨b, o, B, nb, cb, hA, hb, x0, x1, zn, lb⟩ := h.num hm1 hk
    obtain ⟨b2, o2, B2, nb2, cb2, hA2, hb2, y0, y1, zn2, lb2⟩ := h2.num hm2 hk2
    exact ⟨b, o, B, nb, cb, b2, o2, B2, nb2, cb2, hA, hA2, hk2, fun W hW => ⟨⟨(hW.cell (p := ⟨b, o + k * 2, none⟩) hb).trans x0, (hW.cell (p := ⟨b, o + k * 2 + 1, none⟩) hb).trans x1, (hW.cell (p := ⟨b2, o2 + k * 2, none⟩) hb2).trans y0, (hW.cell (p := ⟨b2, o2 + k * 2 + 1, none⟩) hb2).trans y1⟩, cmpN (zn.below hW) (zn2.below hW) (by omega) (by omega)⟩⟩
  have hf := h.few
  have hf2 := h2.few
  clear h h2
  generalize zat L = f at *
  generalize zat M = g at *
  unfold IAns at *
  generalize twoVE L M = E at *
  by_cases hz : E = 0
  · subst hz
    replace HN := Lib.hid (HN.out rfl)
    rw [if_pos rfl]
    go_enter Tryz.func9, Tryz.ntmps9
    go_wp2_with fail
    refine HA.out.mono ?_
    rintro e w1 ⟨rfl, hb1⟩
    go_wp2
    go_loopw [18] (fun i wr => ∃ k : Nat, k ≤ n ∧ i = .int .i64 (k : Int) ∧ (∀ j, j < k → sgn (f j - g j) = 0) ∧ Below w.heap.size w wr) (fun i _ => n - (intOf i).toNat)
    case atStart => exact ⟨0, by omega, rfl, fun j hj => absurd hj (by omega), hb1⟩
    case round =>
      obtain ⟨k, hk, rfl, h1, hB⟩ := hrel
      by_cases hlt : k < n
      · obtain ⟨b, o, B, nb, cb, b2, o2, B2, nb2, cb2, rfl, rfl, hkm, hC⟩ := HN.out k hlt
        have HX := Lib.hid (fun W hW => (hC W hW).1)
        obtain ⟨x0, x1, y0, y1⟩ := HX.out _ hB
        have HBd := Lib.hid hB.drew
        replace hC := fun W hW => (hC W hW).2
        have HC := Lib.hid hC
        have H1 := Lib.hid h1
        have HB := Lib.hid hB
        by_cases hs : sgn (f k - g k) = 0
        · have HS := Lib.hid hs
          rw [hs] at HC
          clear hs h1 hC hB HB
          go_wp2_with fail
          go_region_held3 (fun W' => W'.cell? ⟨b, o + k * 2, none⟩ = some (.bool (decide (f k < 0))) ∧ W'.cell? ⟨b, o + k * 2 + 1, none⟩ = some (.slice B nb cb) ∧ W'.cell? ⟨b2, o2 + k * 2, none⟩ = some (.bool (decide (g k < 0))) ∧ W'.cell? ⟨b2, o2 + k * 2 + 1, none⟩ = some (.slice B2 nb2 cb2)) (first | (with_reducible exact ⟨x0, x1, y0, y1⟩) | go_keep)
            (first | (go_at_call 41; refine (HC.out _ HBd.out).mono ?_; rintro e w3 ⟨rfl, hb3⟩; have HB3 := Lib.hid (below_then HBd.out hb3); clear x0 x1 y0 y1 hb3; obtain ⟨x0, x1, y0, y1⟩ := HX.out _ HB3.out))
          go_wp2
          go_roundw
          case rel =>
            refine ⟨k + 1, by omega, by go_num, fun j hj => ?_, HB3.out⟩
            rcases Nat.lt_or_ge j k with hjk | hjk
            · exact H1.out j hjk
            · obtain rfl : j = k := by omega
              exact HS.out
          case measure => simp [intOf]; omega
        · have HR : Hid (firstTo (fun i => sgn (f i - g i)) n = sgn (f k - g k)) := firstTo_found (f := fun i => sgn (f i - g i)) h1 hs hlt
          generalize sgn (f k - g k) = s at *
          have hE2 : ((s : Int) != 0) = true := by simpa using hs
          have hE3 : ((s : Int) == 0) = false := by simpa using hs
          clear hs h1 hC hB HB
          go_wp2_with fail
          go_region_held3 (fun W' => W'.cell? ⟨b, o + k * 2, none⟩ = some (.bool (decide (f k < 0))) ∧ W'.cell? ⟨b, o + k * 2 + 1, none⟩ = some (.slice B nb cb) ∧ W'.cell? ⟨b2, o2 + k * 2, none⟩ = some (.bool (decide (g k < 0))) ∧ W'.cell? ⟨b2, o2 + k * 2 + 1, none⟩ = some (.slice B2 nb2 cb2)) (first | (with_reducible exact ⟨x0, x1, y0, y1⟩) | go_keep)
            (first | (go_at_call 41; refine (HC.out _ HBd.out).mono ?_; rintro e w3 ⟨rfl, hb3⟩; have HB3 := Lib.hid (below_then HBd.out hb3); clear x0 x1 y0 y1 hb3; obtain ⟨x0, x1, y0, y1⟩ := HX.out _ HB3.out))
          go_wp2
          go_ret2
          exact ⟨by rw [HR.out]; (try rfl), HB3.out⟩
      · have HR : Hid (firstTo (fun i => sgn (f i - g i)) n = 0) := firstTo_zero.2 fun i hi => h1 i (by omega)
        have HB := Lib.hid hB
        clear h1 hB
        go_wp2
        go_ret2
        exact ⟨by rw [HR.out]; (try rfl), HB.out⟩
  · rw [if_neg hz]
    have hE2 : ((E : Int) != 0) = true := by simpa using hz
    have hE3 : ((E : Int) == 0) = false := by simpa using hz
    clear hz HN
    go_enter Tryz.func9, Tryz.ntmps9
    go_wp2_with fail
    refine HA.out.mono ?_
    rintro e w1 ⟨rfl, hb1⟩
    go_wp2
    go_ret2
    exact ⟨rfl, hb1⟩
end
end Go.Proofs.YtgiokmfdafmaoaaGreat

/- The document's May, Check, Zero, Same, Great of rows. -/
namespace Go.Proofs.YtgiokmfdafmaoaaGreat
open Go.RowKit Go.Shelf
set_option linter.unusedVariables false
set_option linter.unusedSimpArgs false

section
variable {A A2 B B2 : Option Addr} {n c m d nb cb na ca g1 g2 g3 g4 k : Nat} {L M : List ZE} {w W : World} {z y : Int}
set_option maxRecDepth 100000 in
set_option maxHeartbeats 4000000 in
theorem rMayV_any (h : V1 w A n c L) : Calls Tryz.prog 53 #[.slice A n c] w fun e w' => e = .returned (.bool (mayR L)) ∧ Below w.heap.size w w' := by
  have HC : Hid (∀ (e : ZE) (W : World), e ∈ L → Below w.heap.size w W → Calls Tryz.prog 54 #[.agg #[.bool e.p, .slice e.A e.n e.c]] W fun x w' => x = .returned (.bool (mayZ e.p e.l)) ∧ Below W.heap.size W w') := fun e W he hW =>
    rMayZ_any (p := e.p) (w := W) ⟨((h.rd.ok e he).below hW).r, Nat.le_trans (h.small e he) (by omega), (h.rd.ok e he).c1, (h.rd.ok e he).c2⟩
  have HL := Lib.hid h.rd.len
  have hf := h.few
  have h := h.rd
  generalize hE : mayR L = E
  have HX := Lib.hid hE
  clear hE
  go_enter Tryz.func53, Tryz.ntmps53
  go_wp2
  go_loopw [3] (fun i wr => ∃ k : Nat, k ≤ n ∧ i = .int .i64 (k : Int) ∧ (∀ j e, j < k → L[j]? = some e → mayZ e.p e.l = true) ∧ Below w.heap.size w wr) (fun i _ => n - (intOf i).toNat)
  case atStart => exact ⟨0, by omega, rfl, fun j e hj => absurd hj (by omega), Below.refl _ _⟩
  case round =>
    obtain ⟨k, hk, rfl, h1, hB⟩ := hrel
    by_cases hlt : k < n
    · obtain ⟨e, he, _⟩ := h.elem hlt
      have hm : e ∈ L := List.mem_of_getElem? he
      obtain ⟨b, o, rfl, hbl, hc0, hc1⟩ := (h.below hB).cell he
      obtain ⟨p, A1, n1, c1, l1⟩ := e
      dsimp only at hc0 hc1
      have HB := Lib.hid hB
      have HM := Lib.hid (HC.out _ _ hm HB.out)
      dsimp only at HM
      have H1 := Lib.hid h1
      have HE := Lib.hid he
      cases e1 : mayZ p l1 with
      | false =>
        have HR : Hid (mayR L = false) := by show mayR L = false; unfold mayR; rw [mayV_no he e1]; rfl
        rw [e1] at HM
        clear h1 hB h hm he e1
        go_wp2_with fail
        refine HM.out.mono ?_
        rintro x w3 ⟨rfl, hb3⟩
        have hB3 := Lib.hid (below_then HB.out hb3)
        clear hb3
        go_wp2
        go_ret
        exact ⟨by rw [← HX.out, HR.out]; (try rfl), hB3.out⟩
      | true =>
        have HK := Lib.hid e1
        rw [e1] at HM
        clear h1 hB h hm he e1
        go_wp2_with fail
        refine HM.out.mono ?_
        rintro x w3 ⟨rfl, hb3⟩
        have hB3 := Lib.hid (below_then HB.out hb3)
        clear hb3
        go_wp2
        go_roundw
        case rel =>
          refine ⟨k + 1, by omega, by go_num, fun j e hj hje => ?_, hB3.out⟩
          rcases Nat.lt_or_ge j k with hjk | hjk
          · exact H1.out j e hjk hje
          · obtain rfl : j = k := by omega
            rw [HE.out] at hje
            cases hje
            exact HK.out
        case measure => simp [intOf]; omega
    · have HR : Hid (mayR L = decide (n ≤ 64)) := by
        show mayR L = _
        unfold mayR
        rw [mayV_yes HL.out fun j e hj hje => h1 j e (by omega) hje, HL.out, Bool.true_and]
      have HB := Lib.hid hB
      clear h1 hB h
      by_cases h64 : n ≤ 64
      · have HR2 : Hid (mayR L = true) := HR.out.trans (decide_eq_true h64)
        have g1 : (n : Int) ≤ 64 := by omega
        go_wp2
        go_ret
        exact ⟨by rw [← HX.out, HR2.out]; (try rfl), HB.out⟩
      · have HR2 : Hid (mayR L = false) := HR.out.trans (decide_eq_false h64)
        have g1 : ¬ (n : Int) ≤ 64 := by omega
        go_wp2
        go_ret
        exact ⟨by rw [← HX.out, HR2.out]; (try rfl), HB.out⟩
set_option maxRecDepth 100000 in
set_option maxHeartbeats 4000000 in
theorem rCheckV_any (h : V1 w A n c L) : Calls Tryz.prog 28 #[.slice A n c] w fun e w' => e = .returned (.int .i64 (if mayR L then 0 else 8)) ∧ Below w.heap.size w w' := by
  have HN := Lib.hid (rMayV_any h)
  clear h
  cases hm : mayR L with
  | false =>
    rw [hm] at HN
    simp only [Bool.false_eq_true, if_false]
    clear hm
    go_enter Tryz.func28, Tryz.ntmps28
    go_wp2_with fail
    refine HN.out.mono ?_
    rintro e w1 ⟨rfl, hb⟩
    go_wp2
    go_ret
    exact ⟨rfl, hb⟩
  | true =>
    rw [hm] at HN
    simp only [if_true]
    clear hm
    go_enter Tryz.func28, Tryz.ntmps28
    go_wp2_with fail
    refine HN.out.mono ?_
    rintro e w1 ⟨rfl, hb⟩
    go_wp2
    go_ret
    exact ⟨rfl, hb⟩
set_option maxRecDepth 100000 in
set_option maxHeartbeats 4000000 in
theorem rTwoV_any (h : V1 w A n c L) (h2 : V1 w A2 m d M) : Calls Tryz.prog 48 #[.slice A n c, .slice A2 m d] w fun e w' => e = .returned (.int .i64 (twoVE L M)) ∧ Below w.heap.size w w' := by
  have HN := Lib.hid (rMayV_any h)
  have HN2 := Lib.hid (fun W (hW : Below w.heap.size w W) => rMayV_any (h2.below hW))
  have hf := h.few
  have hf2 := h2.few
  have TT : Hid (twoVE L M = if mayR L && mayR M then (if n = m then 0 else 70) else 8) := by
    show twoVE L M = _
    unfold twoVE
    rw [h.rd.len, h2.rd.len]
  clear h h2
  rw [TT.out]
  clear TT
  cases hm : mayR L with
  | false =>
    rw [hm] at HN
    simp only [Bool.false_and, Bool.false_eq_true, if_false]
    clear hm
    go_enter Tryz.func48, Tryz.ntmps48
    go_wp2_with fail
    refine HN.out.mono ?_
    rintro e w1 ⟨rfl, hb⟩
    go_wp2
    go_ret
    exact ⟨rfl, hb⟩
  | true =>
    rw [hm] at HN
    clear hm
    cases hm : mayR M with
    | false =>
      rw [hm] at HN2
      simp only [Bool.and_false, Bool.false_eq_true, if_false]
      clear hm
      go_enter Tryz.func48, Tryz.ntmps48
      go_wp2_with fail
      refine HN.out.mono ?_
      rintro e w1 ⟨rfl, hb⟩
      go_wp2_with fail
      refine (HN2.out _ hb).mono ?_
      rintro e w2 ⟨rfl, hb2⟩
      have HB := Lib.hid (below_then hb hb2)
      clear hb hb2
      go_wp2
      go_ret
      exact ⟨rfl, HB.out⟩
    | true =>
      rw [hm] at HN2
      simp only [Bool.and_true, if_true]
      clear hm
      by_cases hnm : n = m
      · subst hnm
        rw [if_pos rfl]
        go_enter Tryz.func48, Tryz.ntmps48
        go_wp2_with fail
        refine HN.out.mono ?_
        rintro e w1 ⟨rfl, hb⟩
        go_wp2_with fail
        refine (HN2.out _ hb).mono ?_
        rintro e w2 ⟨rfl, hb2⟩
        have HB := Lib.hid (below_then hb hb2)
        clear hb hb2
        go_wp2
        go_ret
        exact ⟨rfl, HB.out⟩
      · rw [if_neg hnm]
        have g1 : ¬ (n : Int) = (m : Int) := by omega
        go_enter Tryz.func48, Tryz.ntmps48
        go_wp2_with fail
        refine HN.out.mono ?_
        rintro e w1 ⟨rfl, hb⟩
        go_wp2_with fail
        refine (HN2.out _ hb).mono ?_
        rintro e w2 ⟨rfl, hb2⟩
        have HB := Lib.hid (below_then hb hb2)
        clear hb hb2
        go_wp2
        go_ret
        exact ⟨rfl, HB.out⟩
set_option maxRecDepth 100000 in
set_option maxHeartbeats 4000000 in
theorem rZeroV_any : ZeroIs 30 := fun A n c L w h => by
  have HL := Lib.hid h.rd.len
  have hf := h.few
  have HZ : Hid (∀ e, e ∈ L → (e.n = 0 ↔ e.l = []) ∧ e.n ≤ 60) := fun e he => ⟨by rw [← (h.rd.ok e he).r.len]; exact List.length_eq_zero_iff, h.small e he⟩
  have h := h.rd
  generalize hE : noughts L = E
  have HX := Lib.hid hE
  clear hE
  go_enter Tryz.func30, Tryz.ntmps30
  go_wp2
  go_loopw [3] (fun i wr => ∃ k : Nat, k ≤ n ∧ i = .int .i64 (k : Int) ∧ (∀ j e, j < k → L[j]? = some e → e.p = false ∧ e.l = []) ∧ Below w.heap.size w wr) (fun i _ => n - (intOf i).toNat)
  case atStart => exact ⟨0, by omega, rfl, fun j e hj => absurd hj (by omega), Below.refl _ _⟩
  case round =>
    obtain ⟨k, hk, rfl, h1, hB⟩ := hrel
    by_cases hlt : k < n
    · obtain ⟨e, he, _⟩ := h.elem hlt
      have hm : e ∈ L := List.mem_of_getElem? he
      obtain ⟨b, o, rfl, hbl, hc0, hc1⟩ := (h.below hB).cell he
      obtain ⟨hz, hz2⟩ := HZ.out e hm
      obtain ⟨p, A1, n1, c1, l1⟩ := e
      dsimp only at hc0 hc1 hz hz2
      have HB := Lib.hid hB
      have H1 := Lib.hid h1
      have HE := Lib.hid he
      have HN : Hid (¬ (p = false ∧ l1 = []) → noughts L = false) := fun e1 => noughts_no he e1
      have HI := Lib.hid hz
      clear h1 hB h hm he hz
      cases p with
      | true =>
        go_wp2
        go_ret
        exact ⟨by rw [← HX.out, HN.out (fun h => by cases h.1)]; (try rfl), HB.out⟩
      | false =>
        by_cases e1 : n1 = 0
        · subst e1
          have HK : Hid (l1 = []) := HI.out.1 rfl
          go_wp2
          go_roundw
          case rel =>
            refine ⟨k + 1, by omega, by go_num, fun j e hj hje => ?_, HB.out⟩
            rcases Nat.lt_or_ge j k with hjk | hjk
            · exact H1.out j e hjk hje
            · obtain rfl : j = k := by omega
              rw [HE.out] at hje
              cases hje
              exact ⟨rfl, HK.out⟩
          case measure => simp [intOf]; omega
        · have HR : Hid (noughts L = false) := HN.out (fun h => e1 (HI.out.2 h.2))
          have g1 : (0 : Int) < (n1 : Int) := by omega
          go_wp2
          go_ret
          exact ⟨by rw [← HX.out, HR.out]; (try rfl), HB.out⟩
    · have HR : Hid (noughts L = true) := noughts_yes HL.out fun j e hj hje => h1 j e (by omega) hje
      have HB := Lib.hid hB
      clear h1 hB h
      go_wp2
      go_ret
      exact ⟨by rw [← HX.out, HR.out]; (try rfl), HB.out⟩
set_option maxRecDepth 100000 in
set_option maxHeartbeats 4000000 in
theorem rSameV_any : SameVIs 12 := fun A A2 n c m d L M w h h2 => by
  have HS : Hid (∀ (e x : ZE) (W : World), e ∈ L → x ∈ M → Below w.heap.size w W → Calls Tryz.prog 27 #[.agg #[.bool e.p, .slice e.A e.n e.c], .agg #[.bool x.p, .slice x.A x.n x.c]] W fun r w' => r = .returned (.bool (decide (e.p = x.p ∧ e.l = x.l))) ∧ Below W.heap.size W w') := fun e x W he hx hW =>
    rSameZ_any e.A x.A e.n e.c x.n x.c e.p x.p e.l x.l W ⟨((h.rd.ok e he).below hW).r, ((h2.rd.ok x hx).below hW).r, Nat.le_trans (h.small e he) (by omega), Nat.le_trans (h2.small x hx) (by omega), (h.rd.ok e he).c1, (h.rd.ok e he).c2, (h2.rd.ok x hx).c1, (h2.rd.ok x hx).c2⟩
  have hf1 := h.few
  have hf2 := h2.few
  have h := h.rd
  have h2 := h2.rd
  have HL := Lib.hid h.len
  have HL2 := Lib.hid h2.len
  by_cases hnm : n = m
  · subst hnm
    generalize hD : decide (keys L = keys M) = D
    have HX := Lib.hid hD
    clear hD
    go_enter Tryz.func12, Tryz.ntmps12
    go_wp2
    go_loopw [5] (fun i wr => ∃ k : Nat, k ≤ n ∧ i = .int .i64 (k : Int) ∧ (∀ j e x, j < k → L[j]? = some e → M[j]? = some x → ZE.key e = ZE.key x) ∧ Below w.heap.size w wr) (fun i _ => n - (intOf i).toNat)
    case atStart => exact ⟨0, by omega, rfl, fun j e x hj => absurd hj (by omega), Below.refl _ _⟩
    case round =>
      obtain ⟨k, hk, rfl, h1, hB⟩ := hrel
      by_cases hlt : k < n
      · obtain ⟨e, he, _⟩ := h.elem hlt
        have hm : e ∈ L := List.mem_of_getElem? he
        obtain ⟨b, o, hA, hbl, hcA, hcB⟩ := h.cell he
        obtain ⟨x, hx, _⟩ := h2.elem hlt
        have hm2 : x ∈ M := List.mem_of_getElem? hx
        obtain ⟨b2, o2, hA2, hbl2, hdA, hdB⟩ := h2.cell hx
        have HX0 := Lib.hid (fun W (hW : Below w.heap.size w W) => And.intro ((hW.cell (p := ⟨b, o + k * 2, none⟩) hbl).trans hcA) (And.intro ((hW.cell (p := ⟨b, o + k * 2 + 1, none⟩) hbl).trans hcB) (And.intro ((hW.cell (p := ⟨b2, o2 + k * 2, none⟩) hbl2).trans hdA) ((hW.cell (p := ⟨b2, o2 + k * 2 + 1, none⟩) hbl2).trans hdB))))
        obtain ⟨hc0, hc1, hd0, hd1⟩ := HX0.out _ hB
        subst hA
        subst hA2
        clear hcA hcB hdA hdB
        obtain ⟨p, A1, n1, c1, l1⟩ := e
        obtain ⟨q, A3, n3, c3, l3⟩ := x
        dsimp only at hc0 hc1 hd0 hd1 HX0
        have HB := Lib.hid hB
        have HM := Lib.hid (fun W hW => HS.out _ _ W hm hm2 hW)
        dsimp only at HM
        have HBd := Lib.hid hB.drew
        have HXc : Hid (∀ W, Below w.heap.size w W → W.cell? ⟨b, o + k * 2, none⟩ = some (.bool p) ∧ W.cell? ⟨b, o + k * 2 + 1, none⟩ = some (.slice A1 n1 c1) ∧ W.cell? ⟨b2, o2 + k * 2, none⟩ = some (.bool q) ∧ W.cell? ⟨b2, o2 + k * 2 + 1, none⟩ = some (.slice A3 n3 c3)) := HX0
        have H1 := Lib.hid h1
        have HE := Lib.hid (And.intro he hx)
        by_cases e1 : p = q ∧ l1 = l3
        · have HK := Lib.hid e1
          rw [decide_eq_true e1] at HM
          clear h1 hB h h2 hm hm2 he hx e1 HX0 HB
          go_wp2_with fail
          go_region_held3 (fun W' => W'.cell? ⟨b, o + k * 2, none⟩ = some (.bool p) ∧ W'.cell? ⟨b, o + k * 2 + 1, none⟩ = some (.slice A1 n1 c1) ∧ W'.cell? ⟨b2, o2 + k * 2, none⟩ = some (.bool q) ∧ W'.cell? ⟨b2, o2 + k * 2 + 1, none⟩ = some (.slice A3 n3 c3)) (first | (with_reducible exact ⟨hc0, hc1, hd0, hd1⟩) | go_keep)
            (first | (go_at_call 27; refine (HM.out _ HBd.out).mono ?_; rintro e w3 ⟨rfl, hb3⟩; have HB3 := Lib.hid (below_then HBd.out hb3); clear hc0 hc1 hd0 hd1 hb3; obtain ⟨hc0, hc1, hd0, hd1⟩ := HXc.out _ HB3.out))
          go_wp2
          go_roundw
          case rel =>
            refine ⟨k + 1, by omega, by go_num, fun j e x hj hje hjx => ?_, HB3.out⟩
            rcases Nat.lt_or_ge j k with hjk | hjk
            · exact H1.out j e x hjk hje hjx
            · obtain rfl : j = k := by omega
              rw [HE.out.1] at hje
              rw [HE.out.2] at hjx
              cases hje
              cases hjx
              exact (key_iff _ _).2 HK.out
          case measure => simp [intOf]; omega
        · have HR : Hid (decide (keys L = keys M) = false) := decide_eq_false (keys_ne he hx fun hk => e1 ((key_iff _ _).1 hk))
          rw [decide_eq_false e1] at HM
          clear h1 hB h h2 hm hm2 he hx e1 HX0 HB
          go_wp2_with fail
          go_region_held3 (fun W' => W'.cell? ⟨b, o + k * 2, none⟩ = some (.bool p) ∧ W'.cell? ⟨b, o + k * 2 + 1, none⟩ = some (.slice A1 n1 c1) ∧ W'.cell? ⟨b2, o2 + k * 2, none⟩ = some (.bool q) ∧ W'.cell? ⟨b2, o2 + k * 2 + 1, none⟩ = some (.slice A3 n3 c3)) (first | (with_reducible exact ⟨hc0, hc1, hd0, hd1⟩) | go_keep)
            (first | (go_at_call 27; refine (HM.out _ HBd.out).mono ?_; rintro e w3 ⟨rfl, hb3⟩; have HB3 := Lib.hid (below_then HBd.out hb3); clear hc0 hc1 hd0 hd1 hb3; obtain ⟨hc0, hc1, hd0, hd1⟩ := HXc.out _ HB3.out))
          go_wp2
          go_ret
          exact ⟨by rw [← HX.out, HR.out]; (try rfl), HB3.out⟩
      · have HR : Hid (decide (keys L = keys M) = true) := decide_eq_true (keys_eq HL.out HL2.out fun j e x hj hje hjx => h1 j e x (by omega) hje hjx)
        have HB := Lib.hid hB
        clear h1 hB h h2
        go_wp2
        go_ret
        exact ⟨by rw [← HX.out, HR.out]; (try rfl), HB.out⟩
  · have HR : Hid (decide (keys L = keys M) = false) := decide_eq_false fun e => by
      have e2 : (keys L).length = (keys M).length := by rw [e]
      rw [keys_len, keys_len, HL.out, HL2.out] at e2
      exact hnm e2
    rw [HR.out]
    have g1 : ¬ (n : Int) = (m : Int) := by omega
    clear h h2 HR
    go_enter Tryz.func12, Tryz.ntmps12
    go_wp2
    go_ret
    exact ⟨rfl, Below.refl _ _⟩
/-- Is a row of more than so many numbers, or one of them of more than so many limbs? -/
def greatV (L : List ZE) (many limbs : Nat) : Bool := decide (many < L.length) || L.any fun e => decide (limbs < e.n)
theorem great_no {L : List ZE} {many limbs : Nat} (h : greatV L many limbs = false) : L.length ≤ many ∧ ∀ e, e ∈ L → e.n ≤ limbs := by
  unfold greatV at h
  rw [Bool.or_eq_false_iff, List.any_eq_false] at h
  refine ⟨by simpa using h.1, fun e he => by simpa using h.2 e he⟩
set_option maxRecDepth 100000 in
set_option maxHeartbeats 4000000 in
theorem greatV_any {many limbs : Nat} (h : RdV w A n L) (hn : n ≤ 9223372036854775807) (hs : ∀ e, e ∈ L → e.n ≤ 9223372036854775807) : Calls Tryz.prog 15 #[.slice A n c, .int .i64 (many : Int), .int .i64 (limbs : Int)] w fun e w' => e = .returned (.bool (greatV L many limbs)) ∧ Below w.heap.size w w' := by
  have HL := Lib.hid h.len
  have HS := Lib.hid hs
  clear hs
  generalize hE : greatV L many limbs = E
  have HX := Lib.hid hE
  clear hE
  by_cases hmany : many < n
  · have HR : Hid (greatV L many limbs = true) := by show greatV L many limbs = true; unfold greatV; rw [HL.out, decide_eq_true hmany]; rfl
    have g1 : (many : Int) < (n : Int) := by omega
    clear h
    go_enter Tryz.func15, Tryz.ntmps15
    go_wp2
    go_ret
    exact ⟨by rw [← HX.out, HR.out]; (try rfl), Below.refl _ _⟩
  · have g1 : ¬ (many : Int) < (n : Int) := by omega
    go_enter Tryz.func15, Tryz.ntmps15
    go_wp2
    go_loopw [7] (fun i wr => ∃ k : Nat, k ≤ n ∧ i = .int .i64 (k : Int) ∧ (∀ j e, j < k → L[j]? = some e → e.n ≤ limbs) ∧ Below w.heap.size w wr) (fun i _ => n - (intOf i).toNat)
    case atStart => exact ⟨0, by omega, rfl, fun j e hj => absurd hj (by omega), Below.refl _ _⟩
    case round =>
      obtain ⟨k, hk, rfl, h1, hB⟩ := hrel
      by_cases hlt : k < n
      · obtain ⟨e, he, _⟩ := h.elem hlt
        have hm : e ∈ L := List.mem_of_getElem? he
        obtain ⟨b, o, rfl, hbl, hc0, hc1⟩ := (h.below hB).cell he
        have hz2 := HS.out e hm
        have HN : Hid (limbs < e.n → greatV L many limbs = true) := fun e1 => by
          unfold greatV
          rw [Bool.or_eq_true]
          exact .inr (List.any_eq_true.2 ⟨e, hm, decide_eq_true e1⟩)
        obtain ⟨p, A1, n1, c1, l1⟩ := e
        dsimp only at hc0 hc1 hz2 HN
        have HB := Lib.hid hB
        have H1 := Lib.hid h1
        have HE := Lib.hid he
        clear h1 hB h hm he
        by_cases e1 : limbs < n1
        · have HR := Lib.hid (HN.out e1)
          have g2 : (limbs : Int) < (n1 : Int) := by omega
          clear HN
          go_wp2
          go_ret
          exact ⟨by rw [← HX.out, HR.out]; (try rfl), HB.out⟩
        · have g2 : ¬ (limbs : Int) < (n1 : Int) := by omega
          clear HN
          go_wp2
          go_roundw
          case rel =>
            refine ⟨k + 1, by omega, by go_num, fun j e hj hje => ?_, HB.out⟩
            rcases Nat.lt_or_ge j k with hjk | hjk
            · exact H1.out j e hjk hje
            · obtain rfl : j = k := by omega
              rw [HE.out] at hje
              cases hje
              exact Nat.le_of_not_lt e1
          case measure => simp [intOf]; omega
      · have HR : Hid (greatV L many limbs = false) := by
          show greatV L many limbs = false
          unfold greatV
          rw [Bool.or_eq_false_iff]
          refine ⟨decide_eq_false (by rw [HL.out]; exact hmany), List.any_eq_false.2 fun e he => ?_⟩
          obtain ⟨j, hj⟩ := List.getElem?_of_mem he
          have hjl := (List.getElem?_eq_some_iff.1 hj).1
          rw [HL.out] at hjl
          have := h1 j e (by omega) hj
          simpa using this
        have HB := Lib.hid hB
        clear h1 hB h
        go_wp2
        go_ret
        exact ⟨by rw [← HX.out, HR.out]; (try rfl), HB.out⟩
end
end Go.Proofs.YtgiokmfdafmaoaaGreat

/- vec: what makes a place of Prime. -/
namespace Go.Proofs.YtgiokmfdafmaoaaGreat
open Go.RowKit Go.Shelf
set_option linter.unusedVariables false
set_option linter.unusedSimpArgs false

section
variable {A A2 B B2 : Option Addr} {n c m d nb cb na ca g1 g2 g3 g4 k : Nat} {L M : List ZE} {w W : World} {z y : Int}
set_option maxRecDepth 100000 in
set_option maxHeartbeats 4000000 in
theorem primeClo_any (hv : BoxV w g1 A n c) (hx : w.heap[g2]? = some (.cells #[.slice B nb cb] 23)) (hz : Own w W.heap.size (.slice B nb cb) (limbs (gcdTo (zat L) n))) (lz : nb ≤ 60) (h0 : gcdTo (zat L) n ≠ 0) (h : V1 w A n c L) (hm : mayR L = true) (hk : k < n) :
    Calls Tryz.prog 38 #[.int .i64 (k : Int), .pointer (some ⟨g1, 0, none⟩), .pointer (some ⟨g2, 0, none⟩)] w (KAns w (numK (primeV (zat L) n) k).1 (numK (primeV (zat L) n) k).2) := by
  obtain ⟨s, hs, b2, o2, B2, nb2, cb2, rfl, hb2, y0, y1, zn2, lb2⟩ := h.numH hm hk
  have hd : ((gcdTo (zat L) n : Nat) : Int) ∣ s := by rw [← hs.out]; exact Int.ofNat_dvd_left.2 (gcdTo_dvd hk)
  have T0 := uno_box w false none 0 0
  have HM := Lib.hid (fun V (hV : Below w.heap.size w V) => partV_any (w := V) (zn2.below hV) (nat_nm (hz.nm.below hV)) (by omega) (by omega) h0 hd)
  have HC : Hid (∀ W', Below w.heap.size w W' → W'.cell? ⟨g2, 0, none⟩ = some (.slice B nb cb) ∧ W'.cell? ⟨g1, 0, none⟩ = some (.slice (some ⟨b2, o2, none⟩) n c) ∧ W'.cell? ⟨b2, o2 + k * 2, none⟩ = some (.bool (decide (s < 0))) ∧ W'.cell? ⟨b2, o2 + k * 2 + 1, none⟩ = some (.slice B2 nb2 cb2)) := fun W' hW => ⟨cells_cell ((hW.block g2 (Array.getElem?_eq_some_iff.1 hx).1).trans hx) rfl, (hv.next hW).c0, (hW.cell (p := ⟨b2, o2 + k * 2, none⟩) hb2).trans y0, (hW.cell (p := ⟨b2, o2 + k * 2 + 1, none⟩) hb2).trans y1⟩
  have r0 := T0.x.c0
  have r1 := T0.x.c1
  have f0 := T0.x.f 0
  have f1 := T0.x.f 1
  have HT0 := Lib.hid (T0.next (Below.refl _ _).drew)
  clear y0 y1
  obtain ⟨c0, c2, y0, y1⟩ := HC.out _ T0.b
  have e : primeV (zat L) n k = Int.fdiv s (gcdTo (zat L) n : Int) := by
    unfold primeV
    rw [if_neg h0, hs.out, (Int.fdiv_eq_of_eq_mul_right (by omega) (Int.mul_tdiv_cancel' hd).symm)]
  have hl1 := hv.lt
  have hl2 := (Array.getElem?_eq_some_iff.1 hx).1
  clear h hm hx hv hz zn2 hd
  rw [numK_at e]
  clear e
  unfold KAns
  dsimp only
  generalize Int.fdiv s (gcdTo (zat L) n : Int) = t at *
  unfold ZOne zV zv at HM
  go_enter Tryz.func38, Tryz.ntmps38
  go_wp2_with fail
  go_region_held3 (fun W' => W'.cell? ⟨g2, 0, none⟩ = some (.slice B nb cb) ∧ W'.cell? ⟨g1, 0, none⟩ = some (.slice (some ⟨b2, o2, none⟩) n c) ∧ W'.cell? ⟨b2, o2 + k * 2, none⟩ = some (.bool (decide (s < 0))) ∧ W'.cell? ⟨b2, o2 + k * 2 + 1, none⟩ = some (.slice B2 nb2 cb2)) (first | (with_reducible exact ⟨c0, c2, y0, y1⟩) | (with_reducible refine ⟨cell_far (cell_far c0 ?_ _) ?_ _, cell_far (cell_far c2 ?_ _) ?_ _, cell_far (cell_far y0 ?_ _) ?_ _, cell_far (cell_far y1 ?_ _) ?_ _⟩ <;> omega) | go_keep)
    (first | (go_at_call 39; refine (HM.out _ HT0.out.b).mono ?_; rintro e w1 ⟨A3, k3, c3, rfl, o3, hb3⟩; have T1 := HT0.out.next hb3; clear r0 r1 f0 f1 c0 c2 y0 y1; have r0 := T1.x.c0; have r1 := T1.x.c1; have f0 := T1.x.f 0; have f1 := T1.x.f 1; obtain ⟨c0, c2, y0, y1⟩ := HC.out _ T1.b))
  have hG := Lib.hid (Array.getElem?_eq_some_iff.1 HT0.out.x).1
  clear c0 c2 y0 y1
  go_wp2
  refine bodyPost_ret (v := .agg #[.bool (decide (t < 0)), .slice A3 k3 c3]) (by simp [results, Tryz.results38, go_sem, r0, r1]) rfl ?_
  exact ⟨A3, k3, c3, rfl, own_box hG.out (Nat.le_refl _) o3 _ _, box_below (Nat.le_refl _) T1.b _ _⟩
end
end Go.Proofs.YtgiokmfdafmaoaaGreat

/- vec: Content, Prime, Twin. -/
namespace Go.Proofs.YtgiokmfdafmaoaaGreat
open Go.RowKit Go.Shelf
set_option linter.unusedVariables false
set_option linter.unusedSimpArgs false

theorem gcd_bd {a b X : Nat} (h1 : a < X) (h2 : b < X) : Nat.gcd a b < X := by
  rcases Nat.eq_zero_or_pos b with h | h
  · subst h; rwa [Nat.gcd_zero_right]
  · exact Nat.lt_of_le_of_lt (Nat.le_of_dvd h (Nat.gcd_dvd_right a b)) h2
theorem gcdTo_bd {f : Nat → Int} {j n : Nat} (h : BdV j n f) : ∀ k, k ≤ n → gcdTo f k < B64 ^ j := by
  intro k
  induction k with
  | zero => intro _; exact Nat.pow_pos B64_pos
  | succ k ih => intro hk; exact gcd_bd (ih (by omega)) (h k (by omega))
theorem gcdN {w : World} {A A2 : Option Addr} {na ca nb cb x y : Nat} (h1 : Nm w A na ca x) (h2 : Nm w A2 nb cb y) (l1 : na ≤ 400) (l2 : nb ≤ 400) : Calls Tryz.prog 35 #[.slice A na ca, .slice A2 nb cb] w (Answers w (limbs (Nat.gcd x y)) 0) := by
  have h := gcd_is A A2 na ca nb cb (limbs x) (limbs y) w h1.rd h2.rd l1 l2 ⟨h1.nc, h1.cm⟩ ⟨h2.nc, h2.cm⟩
  have e : both (limbs x) (limbs y) = true := by unfold both; rw [may_limbs, may_limbs]; rfl
  unfold gcdL err2 at h
  rw [if_pos e, if_pos e, val_limbs, val_limbs] at h
  exact h
section
variable {A A2 B B2 : Option Addr} {n c m d nb cb na ca g1 g2 g3 g4 k : Nat} {L M : List ZE} {w W : World} {z y : Int}
set_option maxRecDepth 100000 in
set_option maxHeartbeats 4000000 in
theorem twinV_is : TwinIs 32 := fun A n c L w h => by
  have hmf : ∀ (fn : Fn) (first cap : Array Value) (w : World), (Instr.makeFunc fn first cap).run Tryz.prog w = .ok (.func fn first cap) w := fun _ _ _ _ => rfl
  have T1 := bxb w (bv A n c)
  have X1 : BoxV (w.alloc (bv A n c)) w.heap.size A n c := World.alloc_heap_new _ _
  have HP : Hid (∀ (W : World) (g1 : Nat), Below w.heap.size w W → BoxV W g1 A n c → Calls Tryz.prog 36 #[.int .i64 (n : Int), .func (.func 61) #[] #[.pointer (some ⟨g1, 0, none⟩)]] W (KRow W n (fun i => (keys L).getD i (false, [])))) := fun W g1 hW hx =>
    placedV1_any _ _ (enters_of Tryz.func61 (by kernel_rfl) rfl) n h.few _ W fun k hk V hV => by
      obtain ⟨e, he, hc⟩ := twinClo_any (hx.next hV) ((h.below hW).below hV) hk
      have hkk : (keys L).getD k (false, []) = (e.p, e.l) := by
        unfold keys
        rw [List.getD_eq_getElem?_getD, List.getElem?_map, he]
        rfl
      rw [hkk]
      exact hc
  have hl := h.rd.len
  have x0 := X1.c0
  unfold KRow at HP
  clear h
  go_enter Tryz.func32, Tryz.ntmps32
  go_wp2_with fail
  refine (HP.out _ w.heap.size T1 X1).mono ?_
  rintro e w2 ⟨A3, c3, R, rfl, hO, hK, hb2⟩
  have HO := Lib.hid (hO.mono T1.size)
  have HB := Lib.hid (below_then T1 hb2)
  have HK : Hid (keys R = keys L) := by
    have hr := hO.len
    apply List.ext_getElem?
    intro i
    unfold keys at *
    rw [List.getElem?_map, List.getElem?_map]
    by_cases hi : i < n
    · have h1 := List.getElem?_eq_getElem (show i < R.length by omega)
      have h2 := List.getElem?_eq_getElem (show i < L.length by omega)
      have h3 := hK i _ h1
      rw [List.getD_eq_getElem?_getD, List.getElem?_map, h2] at h3
      rw [h1, h2]
      exact congrArg some h3
    · rw [List.getElem?_eq_none (by omega), List.getElem?_eq_none (by omega)]
  clear hO hK hb2 T1 X1 x0 HP hmf
  go_wp2
  go_ret
  exact ⟨A3, c3, R, rfl, HO.out, HK.out, HB.out⟩
set_option maxRecDepth 100000 in
set_option maxHeartbeats 4000000 in
theorem contentV_is : ContentIs 6 := fun A n c L w h => by
  have N1 := Lib.hid (checkV_any h)
  have HN : Hid (mayR L = true → ∀ k, k < n → ∀ W, Below w.heap.size w W → ∃ b o B m d, A = some ⟨b, o, none⟩ ∧ W.cell? ⟨b, o + k * 2, none⟩ = some (.bool (decide (zat L k < 0))) ∧ W.cell? ⟨b, o + k * 2 + 1, none⟩ = some (.slice B m d) ∧ ZNm W B m d (zat L k) ∧ m ≤ 60) := fun hm k hk W hW => by
    obtain ⟨b, o, B, m, d, hA, _, h0, h1, h2, h3⟩ := (h.below hW).num hm hk
    exact ⟨b, o, B, m, d, hA, h0, h1, h2, h3⟩
  have HQ : Hid (mayR L = true → ∀ k, k ≤ n → gcdTo (zat L) k < B64 ^ 60) := fun hm => gcdTo_bd (h.bd hm)
  have hf := h.few
  clear h
  cases hm : mayR L with
  | false =>
    rw [hm] at N1
    simp only [Bool.false_eq_true, if_false] at N1 ⊢
    clear hm HN HQ
    go_enter Tryz.func6, Tryz.ntmps6
    go_wp2_with fail
    refine N1.out.mono ?_
    rintro e w1 ⟨rfl, hb1⟩
    go_wp2
    go_ret2
    exact answers_nil hb1
  | true =>
    rw [hm] at N1
    replace HN := Lib.hid (HN.out hm)
    replace HQ := Lib.hid (HQ.out hm)
    simp only [if_true] at N1 ⊢
    clear hm
    generalize zat L = f at *
    unfold Answers
    go_enter Tryz.func6, Tryz.ntmps6
    go_wp2_with fail
    refine N1.out.mono ?_
    rintro e w1 ⟨rfl, hb1⟩
    go_wp2
    go_loopw [5, 15] (fun s i wr => ∃ (k : Nat) (A4 : Option Addr) (n4 c4 : Nat), k ≤ n ∧ s = .slice A4 n4 c4 ∧ i = .int .i64 (k : Int) ∧ Own wr w.heap.size (.slice A4 n4 c4) (limbs (gcdTo f k)) ∧ Below w.heap.size w wr) (fun _ i _ => n - (intOf i).toNat)
    case atStart => exact ⟨0, none, 0, 0, by omega, rfl, rfl, by rw [show gcdTo f 0 = 0 from rfl, limbs_zero]; exact own_nil _ _, hb1⟩
    case round =>
      obtain ⟨k, A4, n4, c4, hk, rfl, rfl, hOw, hB⟩ := hrel
      by_cases hlt : k < n
      · obtain ⟨b, o, B, m, d, rfl, hc0, hc1, hzn, hl⟩ := HN.out k hlt wr hB
        have hl5 : n4 ≤ 60 := hOw.nm.len (HQ.out k hk)
        have HB4 := Lib.hid (below_then hB (bxb wr (zo (decide (f k < 0)) B m d)))
        have HG := Lib.hid (gcdN (w := wr.alloc (zo (decide (f k < 0)) B m d)) (hOw.nm.below (bxb _ _)) (hzn.below (bxb _ _)) (by omega) (by omega))
        unfold Answers at HG
        clear hOw hB hzn
        generalize hd0 : decide (f k < 0) = dd at *
        clear hd0
        go_wp2_with fail
        refine HG.out.mono ?_
        rintro e w3 ⟨A5, n5, c5, rfl, hoo, hb3⟩
        have HO := Lib.hid (own_mono hoo HB4.out.size)
        have HB5 := Lib.hid (below_then HB4.out hb3)
        clear hoo hb3
        go_wp2
        go_roundw
        case rel => exact ⟨k + 1, A5, n5, c5, by omega, rfl, by go_num, HO.out, HB5.out⟩
        case measure => simp [intOf]; omega
      · obtain rfl : k = n := by omega
        have HO := Lib.hid hOw
        have HB := Lib.hid hB
        clear hOw hB
        go_wp2
        go_ret2
        exact ⟨A4, n4, c4, rfl, HO.out, HB.out⟩
set_option maxRecDepth 100000 in
set_option maxHeartbeats 4000000 in
theorem primeV_is : PrimeIs 8 := fun A n c L w h => by
  have hmf : ∀ (fn : Fn) (first cap : Array Value) (w : World), (Instr.makeFunc fn first cap).run Tryz.prog w = .ok (.func fn first cap) w := fun _ _ _ _ => rfl
  have T1 := bxb w (bv A n c)
  have X1 : BoxV (w.alloc (bv A n c)) w.heap.size A n c := World.alloc_heap_new _ _
  have N1 := Lib.hid (fun W (hW : Below w.heap.size w W) => contentV_is A n c L W (h.below hW))
  have N2 := Lib.hid (fun W (hW : Below w.heap.size w W) => twinV_is A n c L W (h.below hW))
  have HQ : Hid (mayR L = true → gcdTo (zat L) n < B64 ^ 60) := fun hm => gcdTo_bd (h.bd hm) n (Nat.le_refl _)
  have N3 : Hid (mayR L = true → gcdTo (zat L) n ≠ 0 → ∀ (W : World) (g1 g2 : Nat) (B : Option Addr) (nb cb : Nat), Below w.heap.size w W → BoxV W g1 A n c → W.heap[g2]? = some (.cells #[.slice B nb cb] 23) → Own W w.heap.size (.slice B nb cb) (limbs (gcdTo (zat L) n)) → Calls Tryz.prog 36 #[.int .i64 (n : Int), .func (.func 38) #[] #[.pointer (some ⟨g1, 0, none⟩), .pointer (some ⟨g2, 0, none⟩)]] W (KRow W n (numK (primeV (zat L) n)))) := fun hm h0 W g1 g2 B nb cb hW hx hy hoo =>
    placedV2_any _ _ _ (enters_of Tryz.func38 (by kernel_rfl) rfl) n h.few _ W fun k hk V hV =>
      primeClo_any (W := w) (hx.next hV) ((hV.block _ (Array.getElem?_eq_some_iff.1 hy).1).trans hy) (hoo.below hV) (hoo.nm.len (HQ.out hm)) h0 ((h.below hW).below hV) hm hk
  have HI : Hid (mayR L = true → gcdTo (zat L) n = 0 → IsV L n (primeV (zat L) n)) := fun hm h0 => (h.isv hm).congr fun i hi => (prime_none h0 hi).1.symm
  have hf := h.few
  have x0 := X1.c0
  clear h
  unfold VAns
  cases hm : mayR L with
  | false =>
    rw [hm] at N1
    simp only [Bool.false_eq_true, if_false] at N1 ⊢
    clear hm N2 N3 HQ HI
    unfold Answers at N1
    go_enter Tryz.func8, Tryz.ntmps8
    go_wp2_with fail
    refine (N1.out _ T1).mono ?_
    rintro e w1 ⟨A3, k3, c3, rfl, hoo, hb1⟩
    have HB := Lib.hid (below_then (below_then T1 hb1) (bxb w1 (.cells #[.slice A3 k3 c3] 23)))
    clear hoo hb1 T1 X1 x0
    go_wp2
    go_ret2
    exact ⟨rfl, HB.out⟩
  | true =>
    rw [hm] at N1
    replace HI := Lib.hid (HI.out hm)
    replace N3 := Lib.hid (N3.out hm)
    replace HQ := Lib.hid (HQ.out hm)
    simp only [if_true] at N1 ⊢
    clear hm
    unfold Answers at N1
    have N5 : Hid (gcdTo (zat L) n = 0 → limbs (gcdTo (zat L) n) = []) := fun e => by rw [e, limbs_zero]
    go_enter Tryz.func8, Tryz.ntmps8
    go_wp2_with fail
    refine (N1.out _ T1).mono ?_
    rintro e w1 ⟨A3, k3, c3, rfl, hoo, hb1⟩
    have HB := Lib.hid (below_then (below_then T1 hb1) (bxb w1 (.cells #[.slice A3 k3 c3] 23)))
    have HX := (X1.next hb1).next (bxb w1 (.cells #[.slice A3 k3 c3] 23))
    have HO := Lib.hid ((own_mono hoo T1.size).below (bxb w1 (.cells #[.slice A3 k3 c3] 23)))
    have HY : (w1.alloc (.cells #[.slice A3 k3 c3] 23)).heap[w1.heap.size]? = some (.cells #[.slice A3 k3 c3] 23) := World.alloc_heap_new _ _
    have hln := hoo.rd.1.len
    clear hoo hb1 T1 X1 x0
    have x0 := HX.c0
    have y0 : (w1.alloc (.cells #[.slice A3 k3 c3] 23)).cell? ⟨w1.heap.size, 0, none⟩ = some (.slice A3 k3 c3) := cells_cell HY rfl
    by_cases h0 : gcdTo (zat L) n = 0
    · rw [N5.out h0] at hln
      simp at hln
      subst hln
      replace HI := Lib.hid (HI.out h0)
      clear N3 HQ HO N1
      go_wp2_with fail
      refine (N2.out _ HB.out).mono ?_
      rintro e w2 ⟨A4, c4, R, rfl, hO, hK, hb2⟩
      have HN : Hid (NewV w2 w.heap.size A4 n c4 R (primeV (zat L) n)) := ⟨hO.mono HB.out.size, ⟨hO.len, fun i e he => by
        have h1 : (keys R)[i]? = (keys L)[i]? := by rw [hK]
        unfold keys at h1
        rw [List.getElem?_map, List.getElem?_map, he] at h1
        cases hL : L[i]? with
        | none => rw [hL] at h1; cases h1
        | some x =>
          rw [hL] at h1
          have h2 : ZE.key e = ZE.key x := by simpa using h1
          unfold ZE.key at h2
          rw [Prod.mk.injEq] at h2
          have h3 := HI.out.num i x hL
          exact ⟨h2.1.trans h3.1, h2.2.trans h3.2⟩⟩⟩
      have HB2 := Lib.hid (below_then HB.out hb2)
      clear hO hK hb2 HB x0 y0 HX HY
      go_wp2
      go_ret2
      exact ⟨A4, c4, R, rfl, HN.out, HB2.out⟩
    · have hk0 : ¬ k3 = 0 := fun e => by
        subst e
        exact h0 (limbs_eq_nil.1 (List.eq_nil_of_length_eq_zero hln))
      have N6 := Lib.hid (N3.out h0 _ w.heap.size w1.heap.size A3 k3 c3 HB.out HX HY HO.out)
      unfold KRow at N6
      clear N3 HQ N1 N2 HI N5 hln
      go_wp2_with fail
      refine N6.out.mono ?_
      rintro e w2 ⟨A4, c4, R, rfl, hO, hK, hb2⟩
      have HN : Hid (NewV w2 w.heap.size A4 n c4 R (primeV (zat L) n)) := ⟨hO.mono HB.out.size, isv_key hO.len hK⟩
      have HB2 := Lib.hid (below_then HB.out hb2)
      clear hO hK hb2 HB x0 y0 HX HY N6
      go_wp2
      go_ret2
      exact ⟨A4, c4, R, rfl, HN.out, HB2.out⟩
end
end Go.Proofs.YtgiokmfdafmaoaaGreat

/- A number is laid behind a row, in a region. -/
namespace Go.Proofs.YtgiokmfdafmaoaaGreat
open Go.RowKit Go.Shelf
set_option linter.unusedVariables false
set_option linter.unusedSimpArgs false

theorem step_appendV {ops : Array Oper} {o : Oper} {a : Act} {w : World} {K : Act → World → Prop} {Q : Exit → Act → World → Prop} {E : Prop} (hg : o.guard = none) (s x : Operand)
    (hop : o.op = Op.call { callee := Callee.builtin Builtin.append, args := #[s, x], argTypes := #[28, 28] })
    (B : Nat) (A : Option Addr) (n c : Nat) (L : List ZE) (hs : a.eval s = .slice A n c) (h : OwnV w B A n c L)
    (ad : Addr) (c1 : Nat) (hx : a.eval x = .slice (some ad) 1 c1) (e : ZE) (h0 : w.cell? (ad.add 0) = some (.bool e.p)) (h1 : w.cell? (ad.add 1) = some (.slice e.A e.n e.c)) (he : Own w B (.slice e.A e.n e.c) e.l)
    (hn : n ≤ 100000) (hB : B ≤ w.heap.size)
    (hK : ∀ A' c' w', OwnV w' B A' (n + 1) c' (L ++ [e]) → (∀ w0, Below B w0 w → Below B w0 w') → K (a.put o.dst (.slice A' (n + 1) c')) w') :
    if Region.wanted o (yielded ops a.tmps) = true then Oper.wp Tryz.prog o a w K Q else E := by
  obtain ⟨i, hi, hz, hsz, hby⟩ := z_parts
  refine step_append_mine (P := Tryz.prog) hg s x _ hop B zT i _ 2 32 Tryz.underlying28 hi hz hsz hby rfl (by omega) _ n (flat L) hs h.row ad 1 c1 (flat [e]) hx rfl ?_ (flat_one e) (by unfold maxLen; omega) (by omega) hB ?_
  · intro j u hj
    match j, hj with
    | 0, hj => cases hj; exact h0
    | 1, hj => cases hj; exact h1
    | j + 2, hj => cases hj
  · intro v' w' hrow hg2
    have hel : ∀ y, y ∈ L ++ [e] → Own w' B (.slice y.A y.n y.c) y.l := fun y hy => by
      rcases List.mem_append.1 hy with hy | hy
      · exact own_growv (h.el y hy) h.row hg2
      · rw [List.mem_singleton.1 hy]
        exact own_growv he h.row hg2
    have hbel : ∀ w0, Below B w0 w → Below B w0 w' := fun w0 hw => hw.grown hg2 hB fun k hk => (h.row.lt k hk).1
    rw [← flat_append] at hrow
    have hlen : (L ++ [e]).length = n + 1 := by rw [List.length_append, h.len]; rfl
    rcases hrow.2 with ⟨e2, h2⟩ | ⟨g, cap, cur, e2, _⟩
    · omega
    · subst e2
      exact hK _ _ w' ⟨hrow, hlen, hel⟩ hbel
/-- What a row's append is handed. -/
structure AppV (w W : World) (A : Option Addr) (n c : Nat) (L : List ZE) (p : Bool) (A3 : Option Addr) (k3 c3 : Nat) (l : List Nat) : Prop where
  o : OwnV (W.alloc (zo p A3 k3 c3)) w.heap.size A n c L
  e : Own (W.alloc (zo p A3 k3 c3)) w.heap.size (.slice A3 k3 c3) l
  c0 : (W.alloc (zo p A3 k3 c3)).cell? ((⟨W.heap.size, 0, none⟩ : Addr).add 0) = some (.bool p)
  c1 : (W.alloc (zo p A3 k3 c3)).cell? ((⟨W.heap.size, 0, none⟩ : Addr).add 1) = some (.slice A3 k3 c3)
  s : w.heap.size ≤ (W.alloc (zo p A3 k3 c3)).heap.size
  b : Below w.heap.size w (W.alloc (zo p A3 k3 c3))
theorem appv {w W : World} {A : Option Addr} {n c : Nat} {L : List ZE} (p : Bool) {A3 : Option Addr} {k3 c3 : Nat} {l : List Nat} (h : OwnV W w.heap.size A n c L) (he : Own W w.heap.size (.slice A3 k3 c3) l) (hb : Below w.heap.size w W) : AppV w W A n c L p A3 k3 c3 l := by
  have hx : BoxZ (W.alloc (zo p A3 k3 c3)) W.heap.size p A3 k3 c3 := World.alloc_heap_new _ _
  have hb2 := below_then hb (bxb W (zo p A3 k3 c3))
  exact ⟨h.below (bxb _ _), he.below (bxb _ _), by rw [addr_at]; exact hx.c0, by rw [addr_at]; exact hx.c1, hb2.size, hb2⟩
section
end
end Go.Proofs.YtgiokmfdafmaoaaGreat

/- The document's Twin of rows. -/
namespace Go.Proofs.YtgiokmfdafmaoaaGreat
open Go.RowKit Go.Shelf
set_option linter.unusedVariables false
set_option linter.unusedSimpArgs false

section
variable {A A2 B B2 : Option Addr} {n c m d nb cb na ca g1 g2 g3 g4 k : Nat} {L M : List ZE} {w W : World} {z y : Int}
set_option maxRecDepth 100000 in
set_option maxHeartbeats 4000000 in
theorem rTwinV_any : TwinIs 16 := fun A n c L w h => by
  have HL := Lib.hid h.rd.len
  have hf := h.few
  have HS := Lib.hid (fun e (he : e ∈ L) => h.small e he)
  have h := h.rd
  go_enter Tryz.func16, Tryz.ntmps16
  go_wp2
  go_loopw [3, 4] (fun s i wr => ∃ (k : Nat) (A4 : Option Addr) (c4 : Nat) (K : List ZE), k ≤ n ∧ s = .slice A4 k c4 ∧ i = .int .i64 (k : Int) ∧ OwnV wr w.heap.size A4 k c4 K ∧ (∀ (j : Nat) (x e : ZE), K[j]? = some x → L[j]? = some e → ZE.key x = ZE.key e) ∧ Below w.heap.size w wr) (fun _ i _ => n - (intOf i).toNat)
  case atStart => exact ⟨0, none, 0, [], by omega, rfl, rfl, ownv_nil _ _, (fun j x e hx => by cases hx), Below.refl _ _⟩
  case round =>
    obtain ⟨k, A4, c4, K, hk, rfl, rfl, hO, hI, hB⟩ := hrel
    by_cases hlt : k < n
    · obtain ⟨e, he, hok⟩ := h.elem hlt
      have hm : e ∈ L := List.mem_of_getElem? he
      obtain ⟨b, o, hA, hbl, hcA, hcB⟩ := h.cell he
      have hs := HS.out e hm
      obtain ⟨p, A1, n1, c1, l1⟩ := e
      dsimp only at hcA hcB hs hok
      have HX := Lib.hid (fun W (hW : Below w.heap.size w W) => And.intro ((hW.cell (p := ⟨b, o + k * 2, none⟩) hbl).trans hcA) ((hW.cell (p := ⟨b, o + k * 2 + 1, none⟩) hbl).trans hcB))
      have HE := Lib.hid he
      have HBd := Lib.hid (hB.drew)
      have HR := Lib.hid (hok.r.below hB.drew)
      have HOd := Lib.hid (hO.below ((Below.refl wr.heap.size wr).drew))
      have HI := Lib.hid hI
      have hKl := Lib.hid hO.len
      have hBsz := hB.size
      obtain ⟨hc0, hc1⟩ := HX.out _ hB
      subst hA
      clear hO hI hB h hm he hok hcA hcB
      go_wp2_with fail
      go_region_held3 (fun W' => W'.cell? ⟨b, o + k * 2, none⟩ = some (.bool p) ∧ W'.cell? ⟨b, o + k * 2 + 1, none⟩ = some (.slice A1 n1 c1)) (first | (with_reducible exact ⟨hc0, hc1⟩) | go_keep)
        (first
          | (refine step_appendV rfl _ _ rfl w.heap.size A4 k c4 K rfl HAP.out.o ⟨w4.heap.size, 0, none⟩ 1 rfl ⟨p, A3, k3, c3, l1⟩ HAP.out.c0 HAP.out.c1 HAP.out.e (by omega) HAP.out.s ?_; intro A5 c5 w5 ho5 hb5; have HO6 := Lib.hid ho5; have HB6 := Lib.hid (hb5 w HAP.out.b); clear ho5 hb5; clear hc0 hc1; obtain ⟨hc0, hc1⟩ := HX.out _ HB6.out)
          | (refine step_copy rfl _ _ rfl A1 n1 c1 l1 rfl rfl HR.out (by omega) ?_; intro A3 k3 c3 w4 o3 hb3; have HB4 := Lib.hid (below_then HBd.out hb3); have HAP := Lib.hid (appv p (HOd.out.below hb3) (own_mono o3 hBsz) HB4.out); clear hc0 hc1 o3 hb3; obtain ⟨hc0, hc1⟩ := HX.out _ HB4.out))
      all_goals
        go_wp2
        go_roundw
        case rel =>
          refine ⟨k + 1, A5, c5, _, by omega, rfl, by go_num, HO6.out, fun j x e hx he => ?_, HB6.out⟩
          rcases Nat.lt_or_ge j k with hj | hj
          · rw [List.getElem?_append_left (by rw [hKl.out]; exact hj)] at hx
            exact HI.out j x e hx he
          · have hj2 : j = k := by
              have h1 := (List.getElem?_eq_some_iff.1 hx).1
              rw [List.length_append, hKl.out] at h1
              simp at h1
              omega
            subst hj2
            rw [List.getElem?_append_right (by rw [hKl.out]; exact Nat.le_refl _), hKl.out, Nat.sub_self] at hx
            rw [HE.out] at he
            cases hx
            cases he
            rfl
        case measure => simp [intOf]; omega
    · obtain rfl : k = n := by omega
      have HOw := Lib.hid hO
      have HK : Hid (keys K = keys L) := keys_eq hO.len HL.out fun j x e hj hx he => hI j x e hx he
      have HB := Lib.hid hB
      clear hO hI hB h
      go_wp2
      go_ret
      exact ⟨A4, c4, K, rfl, HOw.out, HK.out, HB.out⟩
end
end Go.Proofs.YtgiokmfdafmaoaaGreat

/- The document's Common, Content, Low, Prime of rows. -/
namespace Go.Proofs.YtgiokmfdafmaoaaGreat
open Go.RowKit Go.Shelf
set_option linter.unusedVariables false
set_option linter.unusedSimpArgs false

section
variable {A A2 B B2 : Option Addr} {n c m d nb cb na ca g1 g2 g3 g4 k : Nat} {L M : List ZE} {w W : World} {z y : Int}
/-- The k-th number's limbs. -/
theorem keys_at {L M : List ZE} (h : keys L = keys M) (i : Nat) : (L[i]?).map ZE.key = (M[i]?).map ZE.key := by
  have h1 : (keys L)[i]? = (keys M)[i]? := by rw [h]
  unfold keys at h1
  rwa [List.getElem?_map, List.getElem?_map] at h1
/-- The k-th number. -/
theorem V1.nat (h : V1 w A n c L) (hm : mayR L = true) (hk : k < n) : ∃ (p : Bool) (b o : Nat) (B : Option Addr) (m d : Nat), A = some ⟨b, o, none⟩ ∧ p = decide (zat L k < 0) ∧ ∀ W, Below w.heap.size w W → (W.cell? ⟨b, o + k * 2, none⟩ = some (.bool p) ∧ W.cell? ⟨b, o + k * 2 + 1, none⟩ = some (.slice B m d)) ∧ Nm W B m d (zat L k).natAbs ∧ m ≤ 60 := by
  obtain ⟨b, o, B, m, d, hA, hb, x0, x1, zn, lb⟩ := h.num hm hk
  exact ⟨_, b, o, B, m, d, hA, rfl, fun W hW => ⟨⟨(hW.cell (p := ⟨b, o + k * 2, none⟩) hb).trans x0, (hW.cell (p := ⟨b, o + k * 2 + 1, none⟩) hb).trans x1⟩, zn.below hW, lb⟩⟩
set_option maxRecDepth 100000 in
set_option maxHeartbeats 4000000 in
theorem rCommonV_any (h : V1 w A n c L) (hm : mayR L = true) : Calls Tryz.prog 56 #[.slice A n c] w fun e w' => ∃ (A' : Option Addr) (m d : Nat), e = .returned (.slice A' m d) ∧ Own w' w.heap.size (.slice A' m d) (limbs (gcdTo (zat L) n)) ∧ Below w.heap.size w w' := by
  have HN := Lib.hid (fun k (hk : k < n) => h.nat hm hk)
  have HQ : Hid (∀ k, k ≤ n → gcdTo (zat L) k < B64 ^ 60) := gcdTo_bd (h.bd hm)
  have hf := h.few
  clear h hm
  go_enter Tryz.func56, Tryz.ntmps56
  go_wp2
  go_loopw [3, 4] (fun s i wr => ∃ (k : Nat) (A4 : Option Addr) (n4 c4 : Nat), k ≤ n ∧ s = .slice A4 n4 c4 ∧ i = .int .i64 (k : Int) ∧ Own wr w.heap.size (.slice A4 n4 c4) (limbs (gcdTo (zat L) k)) ∧ Below w.heap.size w wr) (fun _ i _ => n - (intOf i).toNat)
  case atStart => exact ⟨0, none, 0, 0, by omega, rfl, rfl, by rw [show gcdTo (zat L) 0 = 0 from rfl, limbs_zero]; exact own_nil _ _, Below.refl _ _⟩
  case round =>
    obtain ⟨k, A4, n4, c4, hk, rfl, rfl, hOw, hB⟩ := hrel
    by_cases hlt : k < n
    · obtain ⟨p, b, o, B, m, d, rfl, _, hN⟩ := HN.out k hlt
      obtain ⟨hc0, hc1⟩ := (hN _ hB).1
      have HX := Lib.hid (fun W hW => (hN W hW).1)
      have hl5 : n4 ≤ 60 := hOw.nm.len (HQ.out k hk)
      have HB := Lib.hid hB
      have HBd := Lib.hid hB.drew
      have HG := Lib.hid (fun W (hW : Below wr.heap.size wr W) => common_any _ _ _ _ _ _ _ _ _ (hOw.nm.below hW) ((hN _ (below_then hB hW)).2.1) (by omega) (Nat.le_trans (hN _ hB).2.2 (by omega)))
      have HS := Lib.hid hB.size
      clear hOw hB hN
      go_wp2_with fail
      refine (HG.out _ (Below.refl _ _)).mono ?_
      rintro e w3 ⟨A5, n5, c5, rfl, o5, hb3⟩
      have HO5 := Lib.hid (own_mono o5 HS.out)
      have HB5 := Lib.hid (below_then HB.out hb3)
      clear hc0 hc1 o5 hb3
      go_wp2
      go_roundw
      case rel => exact ⟨k + 1, A5, n5, c5, by omega, rfl, by go_num, HO5.out, HB5.out⟩
      case measure => simp [intOf]; omega
    · obtain rfl : k = n := by omega
      have HO := Lib.hid hOw
      have HB := Lib.hid hB
      clear hOw hB
      go_wp2
      go_ret
      exact ⟨A4, n4, c4, rfl, HO.out, HB.out⟩
set_option maxRecDepth 100000 in
set_option maxHeartbeats 4000000 in
theorem rContentV_any : ContentIs 24 := fun A n c L w h => by
  have HY := Lib.hid (rMayV_any h)
  have HC : Hid (mayR L = true → ∀ W, Below w.heap.size w W → Calls Tryz.prog 56 #[.slice A n c] W fun e w' => ∃ (A' : Option Addr) (m d : Nat), e = .returned (.slice A' m d) ∧ Own w' W.heap.size (.slice A' m d) (limbs (gcdTo (zat L) n)) ∧ Below W.heap.size W w') := fun hm W hW => rCommonV_any (h.below hW) hm
  clear h
  cases hm : mayR L with
  | false =>
    rw [hm] at HY
    simp only [Bool.false_eq_true, if_false]
    clear hm HC
    go_enter Tryz.func24, Tryz.ntmps24
    go_wp2_with fail
    refine HY.out.mono ?_
    rintro e w1 ⟨rfl, hb1⟩
    go_wp2
    go_ret2
    exact answers_nil hb1
  | true =>
    rw [hm] at HY
    replace HC := Lib.hid (HC.out hm)
    simp only [if_true]
    clear hm
    go_enter Tryz.func24, Tryz.ntmps24
    go_wp2_with fail
    refine HY.out.mono ?_
    rintro e w1 ⟨rfl, hb1⟩
    go_wp2_with fail
    refine (HC.out _ hb1).mono ?_
    rintro e w2 ⟨A3, n3, c3, rfl, o3, hb2⟩
    have HO := Lib.hid (own_mono o3 hb1.size)
    have HB := Lib.hid (below_then hb1 hb2)
    clear o3 hb1 hb2
    go_wp2
    go_ret2
    exact ⟨A3, n3, c3, rfl, HO.out, HB.out⟩
theorem overN {x g : Nat} (h1 : Nm w A na ca x) (h2 : Nm w A2 nb cb g) (l1 : na ≤ 900) (l2 : nb ≤ 900) (h0 : g ≠ 0) : Calls Tryz.prog 79 #[.slice A na ca, .slice A2 nb cb] w fun e w' => ∃ (A' : Option Addr) (k c : Nat) (A3 : Option Addr) (k3 c3 : Nat), e = .returned (.tuple #[.slice A' k c, .slice A3 k3 c3]) ∧ Own w' w.heap.size (.slice A' k c) (limbs (x / g)) ∧ Below w.heap.size w w' := by
  have h := over_any A A2 na ca nb cb (limbs x) (limbs g) w h1.rd h2.rd l1 l2 (may_limbs g) (fun e => h0 (limbs_eq_nil.1 e))
  rw [val_limbs, val_limbs] at h
  exact h.mono fun e w' ⟨A', k, c, A3, k3, c3, he, hoo, _, hb⟩ => ⟨A', k, c, A3, k3, c3, he, hoo, hb⟩
theorem prime_sign {f : Nat → Int} {i : Nat} (h0 : gcdTo f n ≠ 0) (hi : i < n) : decide (f i < 0) = decide (primeV f n i < 0) ∧ (f i).natAbs / gcdTo f n = (primeV f n i).natAbs := by
  have h1 := prime_back (f := f) hi
  have hp : (0 : Int) < (gcdTo f n : Int) := by omega
  constructor
  · rw [decide_eq_decide, ← h1]
    constructor
    · intro h2
      by_cases h3 : primeV f n i < 0
      · exact h3
      · exact absurd (Int.mul_nonneg (Int.le_of_lt hp) (Int.not_lt.1 h3)) (by omega)
    · intro h2
      exact Int.mul_neg_of_pos_of_neg hp h2
  · rw [← h1, Int.natAbs_mul, Int.natAbs_natCast]
    exact Nat.mul_div_cancel_left _ (by omega)
set_option maxRecDepth 100000 in
set_option maxHeartbeats 4000000 in
theorem rLowV_any (h : V1 w A n c L) (hm : mayR L = true) : Calls Tryz.prog 57 #[.slice A n c] w fun e w' => ∃ (A' : Option Addr) (c' : Nat) (K : List ZE), e = .returned (.slice A' n c') ∧ NewV w' w.heap.size A' n c' K (primeV (zat L) n) ∧ Below w.heap.size w w' := by
  have H1 := Lib.hid (rCommonV_any h hm)
  have HN := Lib.hid (fun k (hk : k < n) => h.nat hm hk)
  have HQ : Hid (gcdTo (zat L) n < B64 ^ 60) := gcdTo_bd (h.bd hm) n (Nat.le_refl _)
  have HT := Lib.hid (fun W (hW : Below w.heap.size w W) => rTwinV_any A n c L W (h.below hW))
  have HI := Lib.hid (h.isv hm)
  have hf := h.few
  clear h hm
  go_enter Tryz.func57, Tryz.ntmps57
  go_wp2_with fail
  refine H1.out.mono ?_
  rintro e w1 ⟨A3, n3, c3, rfl, o3, hb1⟩
  have hl3 : n3 ≤ 60 := o3.nm.len HQ.out
  have hz3 := o3.nm.zero
  by_cases h0 : gcdTo (zat L) n = 0
  · have h3 : n3 = 0 := hz3.2 h0
    subst h3
    have HR : Hid (∀ M : List ZE, M.length = n → keys M = keys L → IsV M n (primeV (zat L) n)) := fun M hl hK => ⟨hl, fun i e he => by
      have h1 := keys_at hK i
      rw [he] at h1
      cases hL : L[i]? with
      | none => rw [hL] at h1; cases h1
      | some x =>
        rw [hL] at h1
        have h2 := (key_iff e x).1 (by simpa using h1)
        have h3 := HI.out.num i x hL
        have hi : i < n := by rw [← HI.out.len]; exact (List.getElem?_eq_some_iff.1 hL).1
        rw [(prime_none h0 hi).1]
        exact ⟨h2.1.trans h3.1, h2.2.trans h3.2⟩⟩
    clear h0 hz3 o3 HN HQ
    go_wp2_with fail
    refine (HT.out _ hb1).mono ?_
    rintro e w2 ⟨A4, c4, M, rfl, hO, hK, hb2⟩
    have HNw : Hid (NewV w2 w.heap.size A4 n c4 M (primeV (zat L) n)) := ⟨hO.mono hb1.size, HR.out M hO.len hK⟩
    have HB := Lib.hid (below_then hb1 hb2)
    clear hO hK hb1 hb2
    go_wp2
    go_ret
    exact ⟨A4, c4, M, rfl, HNw.out, HB.out⟩
  · have h3 : ¬ n3 = 0 := fun h => h0 (hz3.1 h)
    have HO3 := Lib.hid o3
    have HB1 := Lib.hid hb1
    have HS1 := Lib.hid hb1.size
    have H0 := Lib.hid h0
    have h4 : ((n3 : Int) == 0) = false := by simp; exact h3
    clear hz3 o3 hb1 h0
    go_wp2
    go_loopw [4, 5] (fun s i wr => ∃ (k : Nat) (A4 : Option Addr) (c4 : Nat) (K : List ZE), k ≤ n ∧ s = .slice A4 k c4 ∧ i = .int .i64 (k : Int) ∧ OwnV wr w1.heap.size A4 k c4 K ∧ IsV K k (primeV (zat L) n) ∧ Below w1.heap.size w1 wr) (fun _ i _ => n - (intOf i).toNat)
    case atStart => exact ⟨0, none, 0, [], by omega, rfl, rfl, ownv_nil _ _, isv_nil _, Below.refl _ _⟩
    case round =>
      obtain ⟨k, A4, c4, K, hk, rfl, rfl, hO, hI, hB⟩ := hrel
      by_cases hlt : k < n
      · obtain ⟨p, b, o, B, m, d, rfl, hp, hN⟩ := HN.out k hlt
        have hw2 := below_then HB1.out hB
        obtain ⟨hc0, hc1⟩ := (hN _ hw2).1
        have HX := Lib.hid (fun W hW => (hN W hW).1)
        have HV := Lib.hid (fun W (hW : Below wr.heap.size wr W) => overN ((hN _ (below_then hw2 hW)).2.1) ((HO3.out.nm.below hB).below hW) (Nat.le_trans (hN _ hw2).2.2 (by omega)) (by omega) H0.out)
        obtain ⟨e1, e2⟩ := prime_sign H0.out hlt
        have E1 : Hid (p = decide (primeV (zat L) n k < 0)) := hp.trans e1
        have E2 := Lib.hid e2
        have HB := Lib.hid hB
        have Hw2 := Lib.hid hw2
        have HOw := Lib.hid hO
        have HI2 := Lib.hid hI
        have HS := Lib.hid hB.size
        clear hO hI hB hw2 hN hp e1 e2
        go_wp2_with fail
        refine (HV.out _ (Below.refl _ _)).mono ?_
        rintro e w3 ⟨A7, n7, c7, A6, n6, c6, rfl, o5, hb3⟩
        have HB3 := Lib.hid (HB.out.trans (hb3.mono HB.out.size))
        have Hw3 := Lib.hid (below_then Hw2.out hb3)
        have HO5 := Lib.hid (own_mono o5 HS.out)
        have HOv := Lib.hid (HOw.out.below hb3)
        clear o5 hb3 hc0 hc1
        obtain ⟨hc0, hc1⟩ := HX.out _ Hw3.out
        have q0 : (w3.alloc (zo p A7 n7 c7)).cell? ((⟨w3.heap.size, 0, none⟩ : Addr).add 0) = some (.bool p) := by rw [addr_at]; exact BoxZ.c0 (show BoxZ _ _ p A7 n7 c7 from World.alloc_heap_new _ _)
        have q1 : (w3.alloc (zo p A7 n7 c7)).cell? ((⟨w3.heap.size, 0, none⟩ : Addr).add 1) = some (.slice A7 n7 c7) := by rw [addr_at]; exact BoxZ.c1 (show BoxZ _ _ p A7 n7 c7 from World.alloc_heap_new _ _)
        have Q01 := Lib.hid (And.intro q0 q1)
        have HOw5 := Lib.hid (HOv.out.below (bxb w3 (zo p A7 n7 c7)))
        have HOe5 := Lib.hid (HO5.out.below (bxb w3 (zo p A7 n7 c7)))
        have HBw5 := Lib.hid (below_then HB3.out (bxb w3 (zo p A7 n7 c7)))
        have hB5 := HBw5.out.size
        clear q0 q1
        go_wp2_with (at_builtin; go_loud (refine wpList_appendV rfl _ _ 28 rfl Tryz.underlying28 w1.heap.size A4 k c4 K rfl HOw5.out ⟨w3.heap.size, 0, none⟩ 1 rfl ⟨p, A7, n7, c7, (limbs ((zat L k).natAbs / gcdTo (zat L) n))⟩ Q01.out.1 Q01.out.2 HOe5.out (by omega) hB5 ?_); intro A5 c5 w5 ho5 hg5 hb5)
        have HO6 := Lib.hid ho5
        have HB6 := Lib.hid (hb5 w1 HBw5.out)
        clear ho5 hg5 hb5 hB5
        go_roundw
        case rel => exact ⟨k + 1, _, _, _, by omega, rfl, by go_num, HO6.out, HI2.out.push E1.out (by show limbs _ = _; rw [E2.out]), HB6.out⟩
        case measure => simp [intOf]; omega
      · obtain rfl : k = n := by omega
        have HOw := Lib.hid (hO.mono HS1.out)
        have HI2 := Lib.hid hI
        have HB := Lib.hid (below_then HB1.out hB)
        clear hO hI hB
        go_wp2
        go_ret
        exact ⟨A4, c4, K, rfl, ⟨HOw.out, HI2.out⟩, HB.out⟩
set_option maxRecDepth 100000 in
set_option maxHeartbeats 4000000 in
theorem rPrimeV_any : PrimeIs 25 := fun A n c L w h => by
  have HY := Lib.hid (rMayV_any h)
  have HC : Hid (mayR L = true → ∀ W, Below w.heap.size w W → Calls Tryz.prog 57 #[.slice A n c] W fun e w' => ∃ (A' : Option Addr) (c' : Nat) (K : List ZE), e = .returned (.slice A' n c') ∧ NewV w' W.heap.size A' n c' K (primeV (zat L) n) ∧ Below W.heap.size W w') := fun hm W hW => rLowV_any (h.below hW) hm
  clear h
  unfold VAns
  cases hm : mayR L with
  | false =>
    rw [hm] at HY
    simp only [Bool.false_eq_true, if_false]
    clear hm HC
    go_enter Tryz.func25, Tryz.ntmps25
    go_wp2_with fail
    refine HY.out.mono ?_
    rintro e w1 ⟨rfl, hb1⟩
    go_wp2
    go_ret2
    exact ⟨rfl, hb1⟩
  | true =>
    rw [hm] at HY
    replace HC := Lib.hid (HC.out hm)
    simp only [if_true]
    clear hm
    generalize primeV (zat L) n = f at *
    go_enter Tryz.func25, Tryz.ntmps25
    go_wp2_with fail
    refine HY.out.mono ?_
    rintro e w1 ⟨rfl, hb1⟩
    go_wp2_with fail
    refine (HC.out _ hb1).mono ?_
    rintro e w2 ⟨A3, c3, K, rfl, hN, hb2⟩
    have HN : Hid (NewV w2 w.heap.size A3 n c3 K f) := ⟨hN.o.mono hb1.size, hN.v⟩
    have HB := Lib.hid (below_then hb1 hb2)
    clear hN hb1 hb2
    go_wp2
    go_ret2
    exact ⟨A3, c3, K, rfl, HN.out, HB.out⟩
end
end Go.Proofs.YtgiokmfdafmaoaaGreat

/- The document's whole numbers: of an int. -/
namespace Go.Proofs.YtgiokmfdafmaoaaGreat
open Go.RowKit Go.Shelf
set_option linter.unusedVariables false
set_option linter.unusedSimpArgs false

set_option maxRecDepth 100000 in
set_option maxHeartbeats 2000000 in
theorem rOfZ_any : OfZIs 51 := by
  intro n w h1 h2
  unfold ZOne zV zv
  have hx : BoxZ (w.alloc (zo false none 0 0)) w.heap.size false none 0 0 := World.alloc_heap_new _ _
  have hs : w.heap.size < (w.alloc (zo false none 0 0)).heap.size := by simp
  have HB := Lib.hid (And.intro (bxb w (zo false none 0 0)) hx)
  have HS := Lib.hid hs
  clear hx hs
  by_cases hn : n < 0
  · rw [decide_eq_true hn]
    have hc : IntKind.u64.wrap n = 18446744073709551616 + n := by rw [IntKind.wrap_u64]; omega
    have hc2 : IntKind.u64.wrap (-(18446744073709551616 + n)) = (n.natAbs : Int) := by rw [IntKind.wrap_u64]; omega
    have HT := Lib.hid (fun W => rOf_any W n.natAbs (by rw [B64_eq]; omega))
    go_enter Tryz.func51, Tryz.ntmps51
    go_wp2_with fail
    refine (HT.out _).mono ?_
    rintro e w4 ⟨A3, k3, c3, rfl, o3, hb3⟩
    have x4 := HB.out.2.below hb3 HS.out
    have r0 := x4.c0
    have r1 := x4.c1
    have f0 := x4.f 0
    have f1 := x4.f 1
    have B4 := below_then HB.out.1 hb3
    clear hb3
    go_wp2
    refine bodyPost_ret (v := zv true A3 k3 c3) (by simp [results, Tryz.results51, go_sem, r0, r1, zv]) rfl ?_
    exact ⟨_, _, _, rfl, own_box HS.out (Nat.le_refl _) o3 _ _, box_below (Nat.le_refl _) B4 _ _⟩
  · rw [decide_eq_false hn]
    have hc : IntKind.u64.wrap n = (n.natAbs : Int) := by rw [IntKind.wrap_u64]; omega
    have HT := Lib.hid (fun W => rOf_any W n.natAbs (by rw [B64_eq]; omega))
    go_enter Tryz.func51, Tryz.ntmps51
    go_wp2_with fail
    refine (HT.out _).mono ?_
    rintro e w4 ⟨A3, k3, c3, rfl, o3, hb3⟩
    have x4 := HB.out.2.below hb3 HS.out
    have r0 := x4.c0
    have r1 := x4.c1
    have f0 := x4.f 0
    have f1 := x4.f 1
    have B4 := below_then HB.out.1 hb3
    clear hb3
    go_wp2
    refine bodyPost_ret (v := zv false A3 k3 c3) (by simp [results, Tryz.results51, go_sem, r0, r1, zv]) rfl ?_
    exact ⟨_, _, _, rfl, own_box HS.out (Nat.le_refl _) o3 _ _, box_below (Nat.le_refl _) B4 _ _⟩
end Go.Proofs.YtgiokmfdafmaoaaGreat

/- The document's Mixed, Add, Scale, Mix of rows. -/
namespace Go.Proofs.YtgiokmfdafmaoaaGreat
open Go.RowKit Go.Shelf
set_option linter.unusedVariables false
set_option linter.unusedSimpArgs false

/-- What a row's append is handed: its blocks from B0 on, what lies below kept since V. -/
structure AppB (B0 : Nat) (V W : World) (A : Option Addr) (n c : Nat) (L : List ZE) (p : Bool) (A3 : Option Addr) (k3 c3 : Nat) (l : List Nat) : Prop where
  o : OwnV (W.alloc (zo p A3 k3 c3)) B0 A n c L
  e : Own (W.alloc (zo p A3 k3 c3)) B0 (.slice A3 k3 c3) l
  c0 : (W.alloc (zo p A3 k3 c3)).cell? ((⟨W.heap.size, 0, none⟩ : Addr).add 0) = some (.bool p)
  c1 : (W.alloc (zo p A3 k3 c3)).cell? ((⟨W.heap.size, 0, none⟩ : Addr).add 1) = some (.slice A3 k3 c3)
  s : B0 ≤ (W.alloc (zo p A3 k3 c3)).heap.size
  b : Below B0 V (W.alloc (zo p A3 k3 c3))
theorem appb {B0 : Nat} {V W : World} {A : Option Addr} {n c : Nat} {L : List ZE} (p : Bool) {A3 : Option Addr} {k3 c3 : Nat} {l : List Nat} (h : OwnV W B0 A n c L) (he : Own W B0 (.slice A3 k3 c3) l) (hb : Below B0 V W) (hs : B0 ≤ W.heap.size) : AppB B0 V W A n c L p A3 k3 c3 l := by
  have hx : BoxZ (W.alloc (zo p A3 k3 c3)) W.heap.size p A3 k3 c3 := World.alloc_heap_new _ _
  exact ⟨h.below (bxb _ _), he.below (bxb _ _), by rw [addr_at]; exact hx.c0, by rw [addr_at]; exact hx.c1, Nat.le_trans hs (bxb _ _).size, hb.alloc hs _⟩
section
variable {A A2 B B2 : Option Addr} {n c m d nb cb na ca g1 g2 g3 g4 k : Nat} {L M : List ZE} {w W : World} {z y : Int}
set_option maxRecDepth 100000 in
set_option maxHeartbeats 4000000 in
theorem rMixed_any (hz : ZNm w B nb cb z) (hy : ZNm w B2 na ca y) (lz : nb ≤ 60) (ly : na ≤ 60) (h : V1 w A n c L) (h2 : V1 w A2 m d M) (he : twoVE L M = 0) : Calls Tryz.prog 50 #[zV z B nb cb, .slice A n c, zV y B2 na ca, .slice A2 m d] w (fun e w' => ∃ (A' : Option Addr) (c' : Nat) (K : List ZE), e = .returned (.slice A' n c') ∧ NewV w' w.heap.size A' n c' K (fun i => z * zat L i + y * zat M i) ∧ Below w.heap.size w w') := by
  obtain ⟨hm1, hm2, hl⟩ := two_may he
  have hnm : m = n := by rw [← h2.rd.len, ← hl, h.rd.len]
  subst hnm
  have hf := h.few
  have T0 := two_box w (decide (z < 0)) B nb cb (decide (y < 0)) B2 na ca
  have HT := Lib.hid T0
  have HN : Hid (∀ k, k < m → ∃ s t b1 o1 B3 n3 e3 b2 o2 B4 n4 e4, zat L k = s ∧ zat M k = t ∧ A = some ⟨b1, o1, none⟩ ∧ A2 = some ⟨b2, o2, none⟩ ∧ ∀ W, Below w.heap.size w W → (W.cell? ⟨b1, o1 + k * 2, none⟩ = some (.bool (decide (s < 0))) ∧ W.cell? ⟨b1, o1 + k * 2 + 1, none⟩ = some (.slice B3 n3 e3) ∧ W.cell? ⟨b2, o2 + k * 2, none⟩ = some (.bool (decide (t < 0))) ∧ W.cell? ⟨b2, o2 + k * 2 + 1, none⟩ = some (.slice B4 n4 e4)) ∧ ZNm W B3 n3 e3 s ∧ ZNm W B4 n4 e4 t ∧ n3 ≤ 60 ∧ n4 ≤ 60) := fun k hk => by
    obtain ⟨s, hs, b1, o1, B3, n3, e3, hA, hb, x0, x1, zn, lb⟩ := h.numH hm1 hk
    obtain ⟨t, ht, b2, o2, B4, n4, e4, hA2, hb2, y0, y1, zn2, lb2⟩ := h2.numH hm2 hk
    exact ⟨s, t, b1, o1, B3, n3, e3, b2, o2, B4, n4, e4, hs.out, ht.out, hA, hA2, fun W hW => ⟨⟨(hW.cell (p := ⟨b1, o1 + k * 2, none⟩) hb).trans x0, (hW.cell (p := ⟨b1, o1 + k * 2 + 1, none⟩) hb).trans x1, (hW.cell (p := ⟨b2, o2 + k * 2, none⟩) hb2).trans y0, (hW.cell (p := ⟨b2, o2 + k * 2 + 1, none⟩) hb2).trans y1⟩, zn.below hW, zn2.below hW, lb, lb2⟩⟩
  have HZ := Lib.hid (fun W (hW : Below w.heap.size w W) => And.intro (hz.below hW) (hy.below hW))
  have HBx : Hid (∀ W, Below (w.heap.size + 1 + 1) ((w.alloc (zo (decide (z < 0)) B nb cb)).alloc (zo (decide (y < 0)) B2 na ca)) W → (W.cell? ⟨w.heap.size, 0, none⟩ = some (.bool (decide (z < 0))) ∧ W.cell? ⟨w.heap.size, 1, none⟩ = some (.slice B nb cb) ∧ W.cell? ⟨w.heap.size + 1, 0, none⟩ = some (.bool (decide (y < 0))) ∧ W.cell? ⟨w.heap.size + 1, 1, none⟩ = some (.slice B2 na ca))) := fun W hW => by
    have hx := T0.x.below hW (by omega)
    have hyb := T0.y.below hW (by omega)
    exact ⟨hx.c0, hx.c1, hyb.c0, hyb.c1⟩
  clear h h2 he hm1 hm2 hl hz hy T0
  generalize zat L = f at *
  generalize zat M = g at *
  unfold zV zv
  go_enter Tryz.func50, Tryz.ntmps50
  go_wp2
  go_loopw [9, 10] (fun u i wr => ∃ (k : Nat) (A4 : Option Addr) (c4 : Nat) (K : List ZE), k ≤ m ∧ u = .slice A4 k c4 ∧ i = .int .i64 (k : Int) ∧ OwnV wr (w.heap.size + 1 + 1) A4 k c4 K ∧ IsV K k (fun i => z * f i + y * g i) ∧ Below (w.heap.size + 1 + 1) ((w.alloc (zo (decide (z < 0)) B nb cb)).alloc (zo (decide (y < 0)) B2 na ca)) wr) (fun _ i _ => m - (intOf i).toNat)
  case atStart => exact ⟨0, none, 0, [], by omega, rfl, rfl, ownv_nil _ _, isv_nil _, Below.refl _ _⟩
  case round =>
    obtain ⟨k, A4, c4, K, hk, rfl, rfl, hO, hI, hB⟩ := hrel
    by_cases hlt : k < m
    · obtain ⟨s, t, b1, o1, B3, n3, e3, b2, o2, B4, n4, e4, hs, ht, rfl, rfl, hN⟩ := HN.out k hlt
      have HN := Lib.hid hN
      have HB := Lib.hid hB
      have hw2 : Below w.heap.size w wr := HT.out.b.trans (hB.mono (by omega))
      have Hw := Lib.hid hw2
      have HBd := Lib.hid hB.drew
      have Hwd := Lib.hid hw2.drew
      have HOd := Lib.hid (hO.below ((Below.refl wr.heap.size wr).drew))
      have HI := Lib.hid hI
      have HE : Hid ((fun i => z * f i + y * g i) k = z * s + y * t) := by show z * f k + y * g k = _; rw [hs, ht]
      have hBsz : w.heap.size + 1 + 1 ≤ wr.heap.size := by have := hB.size; simp only [World.size_alloc] at this; exact this
      obtain ⟨c0, c1, c2, c3⟩ := HBx.out _ hB
      obtain ⟨x0, x1, y0, y1⟩ := (hN _ hw2).1
      have LP : Hid (Bd 120 (z * s)) := (Bd.of (HZ.out _ hw2).1 lz).mul (Bd.of (hN _ hw2).2.1 (hN _ hw2).2.2.2.1)
      have LQ : Hid (Bd 120 (y * t)) := (Bd.of (HZ.out _ hw2).2 ly).mul (Bd.of (hN _ hw2).2.2.1 (hN _ hw2).2.2.2.2)
      have HM := Lib.hid (fun W (hW : Below w.heap.size w W) => rTimesZ_any (w := W) (HZ.out _ hW).1 (hN _ hW).2.1 (by omega) (Nat.le_trans (hN _ hW).2.2.2.1 (by omega)))
      have HM2 := Lib.hid (fun W (hW : Below w.heap.size w W) => rTimesZ_any (w := W) (HZ.out _ hW).2 (hN _ hW).2.2.1 (by omega) (Nat.le_trans (hN _ hW).2.2.2.2 (by omega)))
      have HSm := Lib.hid (fun W {A A2 : Option Addr} {n c m k2 : Nat} (h1 : ZNm W A n c (z * s)) (h2 : ZNm W A2 m k2 (y * t)) (l1 : n ≤ 1000) (l2 : m ≤ 1000) => rSumZ_any (w := W) h1 h2 l1 l2)
      have HC : Hid (∀ W', Below (w.heap.size + 1 + 1) ((w.alloc (zo (decide (z < 0)) B nb cb)).alloc (zo (decide (y < 0)) B2 na ca)) W' → W'.cell? ⟨w.heap.size, 0, none⟩ = some (.bool (decide (z < 0))) ∧ W'.cell? ⟨w.heap.size, 1, none⟩ = some (.slice B nb cb) ∧ W'.cell? ⟨w.heap.size + 1, 0, none⟩ = some (.bool (decide (y < 0))) ∧ W'.cell? ⟨w.heap.size + 1, 1, none⟩ = some (.slice B2 na ca) ∧ W'.cell? ⟨b1, o1 + k * 2, none⟩ = some (.bool (decide (s < 0))) ∧ W'.cell? ⟨b1, o1 + k * 2 + 1, none⟩ = some (.slice B3 n3 e3) ∧ W'.cell? ⟨b2, o2 + k * 2, none⟩ = some (.bool (decide (t < 0))) ∧ W'.cell? ⟨b2, o2 + k * 2 + 1, none⟩ = some (.slice B4 n4 e4)) := fun W' hW => by
        obtain ⟨a1, a2, a3, a4⟩ := HBx.out _ hW
        obtain ⟨a5, a6, a7, a8⟩ := (HN.out _ (HT.out.b.trans (hW.mono (by omega)))).1
        exact ⟨a1, a2, a3, a4, a5, a6, a7, a8⟩
      clear hO hI hB hw2 hN hs ht
      generalize hpq : z * s + y * t = r at *
      clear hpq
      generalize z * s = p at *
      generalize y * t = q at *
      unfold ZOne zV zv at HM HM2 HSm
      go_wp2_with fail
      go_region_held3 (fun W' => W'.cell? ⟨w.heap.size, 0, none⟩ = some (.bool (decide (z < 0))) ∧ W'.cell? ⟨w.heap.size, 1, none⟩ = some (.slice B nb cb) ∧ W'.cell? ⟨w.heap.size + 1, 0, none⟩ = some (.bool (decide (y < 0))) ∧ W'.cell? ⟨w.heap.size + 1, 1, none⟩ = some (.slice B2 na ca) ∧ W'.cell? ⟨b1, o1 + k * 2, none⟩ = some (.bool (decide (s < 0))) ∧ W'.cell? ⟨b1, o1 + k * 2 + 1, none⟩ = some (.slice B3 n3 e3) ∧ W'.cell? ⟨b2, o2 + k * 2, none⟩ = some (.bool (decide (t < 0))) ∧ W'.cell? ⟨b2, o2 + k * 2 + 1, none⟩ = some (.slice B4 n4 e4)) (first | (with_reducible exact ⟨c0, c1, c2, c3, x0, x1, y0, y1⟩) | go_keep)
        (first
          | (refine step_appendV rfl _ _ rfl (w.heap.size + 1 + 1) A4 k c4 K rfl HAP.out.o ⟨w3.heap.size, 0, none⟩ 1 rfl ⟨decide (r < 0), A7, n7, c7, limbs r.natAbs⟩ HAP.out.c0 HAP.out.c1 HAP.out.e (by omega) HAP.out.s ?_; intro A8 c8 w8 ho5 hb5; have HO6 := Lib.hid ho5; have HB6 := Lib.hid (hb5 _ HAP.out.b); clear ho5 hb5 c0 c1 c2 c3 x0 x1 y0 y1; obtain ⟨c0, c1, c2, c3, x0, x1, y0, y1⟩ := HC.out _ HB6.out)
          | (go_at_call 74; refine (HSm.out _ (o5.below hb6).nm o6.nm (by omega) (by omega)).mono ?_; rintro e w3 ⟨A7, n7, c7, rfl, o7, hb7⟩; have HB3 := Lib.hid (HB2.out.trans (hb7.mono hs2)); have hs3 := Nat.le_trans hs2 hb7.size; have HAP := Lib.hid (appb (decide (r < 0)) (HO2.out.below hb7) (own_mono o7 hs2) HB3.out hs3); clear c0 c1 c2 c3 x0 x1 y0 y1; obtain ⟨c0, c1, c2, c3, x0, x1, y0, y1⟩ := HC.out _ HB3.out)
          | (go_at_call 75; (with_reducible refine (HM2.out _ Hw1.out).mono ?_); rintro e w2 ⟨A6, n6, c6, rfl, o6, hb6⟩; have HB2 := Lib.hid (HB1.out.trans (hb6.mono hs1)); have hs2 := Nat.le_trans hs1 hb6.size; have HO2 := Lib.hid (HO1.out.below hb6); have hq2 := LQ.out.len o6; clear c0 c1 c2 c3 x0 x1 y0 y1; obtain ⟨c0, c1, c2, c3, x0, x1, y0, y1⟩ := HC.out _ HB2.out)
          | (go_at_call 75; refine (HM.out _ Hwd.out).mono ?_; rintro e w1 ⟨A5, n5, c5, rfl, o5, hb5⟩; have HB1 := Lib.hid (HBd.out.trans (hb5.mono hBsz)); have hs1 := Nat.le_trans hBsz hb5.size; have Hw1 := Lib.hid (below_then Hwd.out hb5); have HO1 := Lib.hid (HOd.out.below hb5); have hq1 := LP.out.len o5; clear c0 c1 c2 c3 x0 x1 y0 y1; obtain ⟨c0, c1, c2, c3, x0, x1, y0, y1⟩ := HC.out _ HB1.out))
      all_goals
        go_wp2
        go_roundw
        case rel => exact ⟨k + 1, A8, c8, _, by omega, rfl, by go_num, HO6.out, HI.out.push (by show decide (r < 0) = _; rw [HE.out]) (by show limbs r.natAbs = _; rw [HE.out]), HB6.out⟩
        case measure => simp [intOf]; omega
    · obtain rfl : k = m := by omega
      have HOw := Lib.hid (hO.mono (show w.heap.size ≤ w.heap.size + 1 + 1 by omega))
      have HI := Lib.hid hI
      have HB := Lib.hid (HT.out.b.trans (hB.mono (by omega)))
      clear hO hI hB
      go_wp2
      go_ret
      exact ⟨A4, c4, K, rfl, ⟨HOw.out, HI.out⟩, HB.out⟩
end
end Go.Proofs.YtgiokmfdafmaoaaGreat

/- vec: Dot. -/
namespace Go.Proofs.YtgiokmfdafmaoaaGreat
open Go.RowKit Go.Shelf
set_option linter.unusedVariables false
set_option linter.unusedSimpArgs false

theorem sum_bd {f : Nat → Int} {X : Nat} (n : Nat) (h : ∀ i, i < n → (f i).natAbs < X) : ∀ k, k ≤ n → (sumTo f k).natAbs ≤ k * X := by
  intro k
  induction k with
  | zero => intro _; simp [sumTo]
  | succ k ih =>
    intro hk
    have h1 := ih (by omega)
    have h2 := h k (by omega)
    rw [sumTo, Nat.succ_mul]
    have h3 := Int.natAbs_add_le (sumTo f k) (f k)
    omega
theorem sum_Bd {f : Nat → Int} {n j : Nat} (hn : n ≤ 1000) (h : BdV j n f) {k : Nat} (hk : k ≤ n) : Bd (j + 1) (sumTo f k) := by
  have h1 := sum_bd n h k hk
  unfold Bd
  have h2 : k * B64 ^ j ≤ 1000 * B64 ^ j := Nat.mul_le_mul_right _ (by omega)
  have h3 : 1000 * B64 ^ j < B64 * B64 ^ j := Nat.mul_lt_mul_of_pos_right (by rw [B64_eq]; omega) (Nat.pow_pos B64_pos)
  rw [Nat.pow_succ, Nat.mul_comm]
  omega
theorem set_numV {w : World} {g n c : Nat} {p : Bool} {A : Option Addr} (h : BoxZ w g p A n c) (q : Bool) (B : Option Addr) (m d : Nat) : BoxZ ((w.setCell ⟨g, 0, none⟩ (.bool q)).setCell ⟨g, 1, none⟩ (.slice B m d)) g q B m d := by
  have h1 := Go.Joins.block_setCell (i := 0) h (.bool q)
  exact Go.Joins.block_setCell (i := 1) h1 (.slice B m d)
section
variable {A A2 B B2 : Option Addr} {n c m d nb cb na ca g1 g2 g3 g4 k : Nat} {L M : List ZE} {w W : World} {z y : Int}
set_option maxRecDepth 100000 in
set_option maxHeartbeats 4000000 in
theorem dotV_is : DotIs 17 := fun A A2 n c m d L M w h h2 => by
  have hmf : ∀ (fn : Fn) (first cap : Array Value) (w : World), (Instr.makeFunc fn first cap).run Tryz.prog w = .ok (.func fn first cap) w := fun _ _ _ _ => rfl
  have T1 : Below w.heap.size w (((w.alloc (bv A n c)).alloc (bv A2 m d)).alloc (zo false none 0 0)) := below_then (below_then (bxb _ _) (bxb _ _)) (bxb _ _)
  have X1 : BoxV (((w.alloc (bv A n c)).alloc (bv A2 m d)).alloc (zo false none 0 0)) w.heap.size A n c := BoxV.next (BoxV.next (w := w.alloc (bv A n c)) (World.alloc_heap_new _ _) (bxb _ _)) (bxb _ _)
  have Y1 : BoxV (((w.alloc (bv A n c)).alloc (bv A2 m d)).alloc (zo false none 0 0)) (w.heap.size + 1) A2 m d := by
    have h := World.alloc_heap_new (w.alloc (bv A n c)) (bv A2 m d)
    rw [World.size_alloc] at h
    exact BoxV.next h (bxb _ _)
  have R1 : BoxZ (((w.alloc (bv A n c)).alloc (bv A2 m d)).alloc (zo false none 0 0)) (w.heap.size + 1 + 1) false none 0 0 := by
    have h := World.alloc_heap_new ((w.alloc (bv A n c)).alloc (bv A2 m d)) (zo false none 0 0)
    rw [World.size_alloc, World.size_alloc] at h
    exact h
  have HJ : Hid (∀ (W : World) (g1 g2 : Nat), Below w.heap.size w W → BoxV W g1 A n c → BoxV W g2 A2 m d → Calls Tryz.prog 42 #[.slice A n c, .slice A2 m d, .func (.func 46) #[] #[.pointer (some ⟨g1, 0, none⟩), .pointer (some ⟨g2, 0, none⟩)]] W (KAll W (decide (twoVE L M = 0)) n (numK (fun i => zat L i * zat M i)) (twoVE L M))) := fun W g1 g2 hW hx hy =>
    joinedV2_any _ _ _ (enters_of Tryz.func46 (by kernel_rfl) rfl) _ (h.below hW) (h2.below hW) fun he k hk V hV => dotClo_any (hx.next hV) (hy.next hV) ((h.below hW).below hV) ((h2.below hW).below hV) he hk
  have HQ : Hid (twoVE L M = 0 → BdV 120 n (fun i => zat L i * zat M i)) := fun he i hi => by
    obtain ⟨hm1, hm2, hl⟩ := two_may he
    have hi2 : i < m := by rw [← h2.rd.len, ← hl, h.rd.len]; exact hi
    exact ((h.bd hm1) i hi).mul ((h2.bd hm2) i hi2)
  have hf := h.few
  clear h h2
  generalize (fun i => zat L i * zat M i) = f at *
  have x0 := X1.c0
  have y0 := Y1.c0
  have r0 := R1.c0
  have r1 := R1.c1
  have f0 := R1.f 0
  have f1 := R1.f 1
  generalize twoVE L M = E at *
  by_cases hz : E = 0
  · subst hz
    rw [if_pos rfl]
    have hq := Lib.hid (HQ.out rfl)
    clear HQ
    rw [show decide ((0 : Int) = 0) = true from rfl] at HJ
    unfold KAll at HJ
    simp only [if_true] at HJ
    go_enter Tryz.func17, Tryz.ntmps17
    go_wp2_with fail
    refine (HJ.out _ w.heap.size (w.heap.size + 1) T1 X1 Y1).mono ?_
    rintro e w2 ⟨A3, c3, R, rfl, hO, hK, hb2⟩
    have HI := Lib.hid (isv_key hO.len hK)
    have HO := Lib.hid hO
    have HB := Lib.hid (below_then T1 hb2)
    have hn3 := hO.cap.1
    have hc3 := hO.cap.2
    have hb4 := bxb w2 (zo false none 0 0)
    have HR2 := Lib.hid (R1.below hb2 (Array.getElem?_eq_some_iff.1 R1).1)
    have hRs : w.heap.size + 1 + 1 < w2.heap.size := (Array.getElem?_eq_some_iff.1 HR2.out).1
    have T4 : BoxZ (w2.alloc (zo false none 0 0)) w2.heap.size false none 0 0 := World.alloc_heap_new _ _
    clear hO hK hb2 T1 X1 Y1 R1 x0 y0 r0 r1 f0 f1 HJ hmf
    go_wp2
    go_loopw [24] (fun i wr => ∃ (k : Nat) (A4 : Option Addr) (n4 c4 : Nat), k ≤ n ∧ i = .int .i64 (k : Int) ∧ BoxZ wr w2.heap.size (decide (sumTo f k < 0)) A4 n4 c4 ∧ Own wr (w2.heap.size + 1) (.slice A4 n4 c4) (limbs (sumTo f k).natAbs) ∧ Below w2.heap.size w2 wr) (fun i _ => n - (intOf i).toNat)
    case atStart => exact ⟨0, none, 0, 0, by omega, rfl, T4, by rw [show (sumTo f 0).natAbs = 0 from rfl, limbs_zero]; exact own_nil _ _, hb4⟩
    case round =>
      obtain ⟨k, A4, n4, c4, hk, rfl, hX, hOw, hB⟩ := hrel
      have r0 := hX.c0
      have r1 := hX.c1
      have f0 := hX.f 0
      have f1 := hX.f 1
      have hXl := (Array.getElem?_eq_some_iff.1 hX).1
      by_cases hlt : k < n
      · have hR := HO.out.rd.below (w' := wr) hB
        obtain ⟨e, he, hok⟩ := hR.elem hlt
        obtain ⟨b, o, rfl, hbl, hc0, hc1⟩ := hR.cell he
        have hi := HI.out.num k e he
        have hbk := (hq.out) k hlt
        have hzn : ZNm wr e.A e.n e.c (f k) := ⟨by have hr := hok.r; rw [hi.2] at hr; exact hr, hok.c1, hok.c2⟩
        have hl4 : e.n ≤ 121 := hzn.len (hbk.mono (by omega))
        have hl5 : n4 ≤ 121 := (sum_Bd hf hq.out hk).len hOw
        have HS := Lib.hid (fun W (hW : Below wr.heap.size wr W) => sumV_any (w := W) (hOw.nm.below hW) (hzn.below hW) (by omega) (by omega))
        rw [hi.1] at hc0
        have hsk : sumTo f k + f k = sumTo f (k + 1) := rfl
        rw [hsk] at HS
        obtain ⟨p, A1, n1, c1, l1⟩ := e
        dsimp only at hc0 hc1 HS
        have hb5 := bxb wr (zo (decide (f k < 0)) A1 n1 c1)
        have HX5 := Lib.hid (hX.below hb5 hXl)
        have HB5 := Lib.hid (hB.trans (hb5.mono hB.size))
        have HP5 : Hid (BoxZ (wr.alloc (zo (decide (f k < 0)) A1 n1 c1)) wr.heap.size (decide (f k < 0)) A1 n1 c1) := World.alloc_heap_new _ _
        have HBe0 := Lib.hid hb5
        clear hi hok hR hzn hbk he hb5 hX hOw r0 r1 f0 f1
        have r0 := HX5.out.c0
        have r1 := HX5.out.c1
        have f0 := HX5.out.f 0
        have f1 := HX5.out.f 1
        have p0 := HP5.out.c0
        have p1 := HP5.out.c1
        unfold ZOne zV zv at HS
        generalize hsg : decide (sumTo f k < 0) = sg at *
        generalize hst : sumTo f (k + 1) = s1 at *
        generalize hsf : decide (f k < 0) = sf at *
        have HS1 := Lib.hid hst
        clear hsk hsg hst hsf
        go_wp2_with fail
        refine (HS.out _ HBe0.out).mono ?_
        rintro e w3 ⟨A5, k5, c5, rfl, o5, hb3⟩
        have HX6 := Lib.hid (HX5.out.below hb3 (Nat.lt_of_lt_of_le hXl (by rw [World.size_alloc]; omega)))
        have HB6 := Lib.hid (HB5.out.trans (hb3.mono HB5.out.size))
        have HO6 := Lib.hid (own_mono o5 (show w2.heap.size + 1 ≤ (wr.alloc (zo sf A1 n1 c1)).heap.size by rw [World.size_alloc]; omega))
        have HO7 := Lib.hid (own_far (own_far HO6.out (p := ⟨w2.heap.size, 0, none⟩) (Nat.lt_succ_self _) (.bool (decide (s1 < 0)))) (p := ⟨w2.heap.size, 1, none⟩) (Nat.lt_succ_self _) (.slice A5 k5 c5))
        clear hb3 o5 r0 r1 f0 f1 p0 p1
        have r0 := HX6.out.c0
        have r1 := HX6.out.c1
        have f0 := HX6.out.f 0
        have f1 := HX6.out.f 1
        go_wp2
        go_roundw
        case rel => exact ⟨k + 1, A5, k5, c5, by omega, by go_num, by rw [HS1.out]; exact set_numV HX6.out _ _ _ _, by rw [HS1.out]; exact HO7.out, box_below (Nat.le_refl _) HB6.out _ _⟩
        case measure => simp [intOf]; omega
      · obtain rfl : k = n := by omega
        have HRr := Lib.hid (HR2.out.below hB hRs)
        have HOw := Lib.hid hOw
        have HBf := Lib.hid (below_then HB.out hB)
        clear hX hOw hB
        have q0 := HRr.out.c0
        have q1 := HRr.out.c1
        have g0 := HRr.out.f 0
        have g1 := HRr.out.f 1
        generalize sumTo f k = s at *
        go_wp2
        refine bodyPost_ret (v := .tuple #[zV s A4 n4 c4, .int .i64 0]) (by simp [results, Tryz.results17, go_sem, q0, q1, zV, zv]) rfl ?_
        exact ⟨A4, n4, c4, rfl, own_mono (own_far (own_far HOw.out (p := ⟨w.heap.size + 1 + 1, 0, none⟩) (by show w.heap.size + 1 + 1 < _; omega) _) (p := ⟨w.heap.size + 1 + 1, 1, none⟩) (by show w.heap.size + 1 + 1 < _; omega) _) (by omega), box_below (show w.heap.size ≤ w.heap.size + 1 + 1 by omega) HBf.out _ _⟩
  · rw [if_neg hz]
    rw [decide_eq_false hz] at HJ
    unfold KAll at HJ
    simp only [Bool.false_eq_true, if_false] at HJ
    have hE2 : ((E : Int) != 0) = true := by simpa using hz
    have hE3 : ((E : Int) == 0) = false := by simpa using hz
    clear hz HQ
    go_enter Tryz.func17, Tryz.ntmps17
    go_wp2_with fail
    refine (HJ.out _ w.heap.size (w.heap.size + 1) T1 X1 Y1).mono ?_
    rintro e w2 ⟨rfl, hb2⟩
    have HB := Lib.hid (below_then T1 hb2)
    have HR2 := R1.below hb2 (Array.getElem?_eq_some_iff.1 R1).1
    clear x0 y0 r0 r1 f0 f1 T1 X1 Y1 R1 hb2
    have r0 := HR2.c0
    have r1 := HR2.c1
    have f0 := HR2.f 0
    have f1 := HR2.f 1
    go_wp2
    refine bodyPost_ret (v := .tuple #[zV 0 none 0 0, .int .i64 E]) (by simp [results, Tryz.results17, go_sem, r0, r1, zV, zv]) rfl ?_
    exact ⟨none, 0, 0, rfl, by rw [show Int.natAbs 0 = 0 from rfl, limbs_zero]; exact own_nil _ _, box_below (show w.heap.size ≤ w.heap.size + 1 + 1 by omega) HB.out _ _⟩
end
end Go.Proofs.YtgiokmfdafmaoaaGreat

/- The document's Product, Dot of rows. -/
namespace Go.Proofs.YtgiokmfdafmaoaaGreat
open Go.RowKit Go.Shelf
set_option linter.unusedVariables false
set_option linter.unusedSimpArgs false

section
variable {A A2 B B2 : Option Addr} {n c m d nb cb na ca g1 g2 g3 g4 k : Nat} {L M : List ZE} {w W : World} {z y : Int}
set_option maxRecDepth 100000 in
set_option maxHeartbeats 4000000 in
theorem rProduct_any (h : V1 w A n c L) (h2 : V1 w A2 m d M) (he : twoVE L M = 0) : Calls Tryz.prog 49 #[.slice A n c, .slice A2 m d] w (ZOne w (sumTo (fun i => zat L i * zat M i) n)) := by
  obtain ⟨hm1, hm2, hl⟩ := two_may he
  have hnm : m = n := by rw [← h2.rd.len, ← hl, h.rd.len]
  subst hnm
  have hf := h.few
  have T1 := uno_box w false none 0 0
  have HR1 := Lib.hid T1.x
  have HT1 := Lib.hid T1.b
  have T2 : BoxZ ((w.alloc (zo false none 0 0)).alloc (zo false none 0 0)) (w.heap.size + 1) false none 0 0 := by
    have h := World.alloc_heap_new (w.alloc (zo false none 0 0)) (zo false none 0 0)
    rw [World.size_alloc] at h
    exact h
  have hb2 : Below (w.heap.size + 1) (w.alloc (zo false none 0 0)) ((w.alloc (zo false none 0 0)).alloc (zo false none 0 0)) := by
    have h := bxb (w.alloc (zo false none 0 0)) (zo false none 0 0)
    rwa [World.size_alloc] at h
  have HQ : Hid (BdV 120 m (fun i => zat L i * zat M i)) := fun i hi => ((h.bd hm1) i hi).mul ((h2.bd hm2) i hi)
  have HN : Hid (∀ k, k < m → ∃ x y b1 o1 B3 n3 e3 b2 o2 B4 n4 e4, zat L k = x ∧ zat M k = y ∧ A = some ⟨b1, o1, none⟩ ∧ A2 = some ⟨b2, o2, none⟩ ∧ ∀ W, Below w.heap.size w W → (W.cell? ⟨b1, o1 + k * 2, none⟩ = some (.bool (decide (x < 0))) ∧ W.cell? ⟨b1, o1 + k * 2 + 1, none⟩ = some (.slice B3 n3 e3) ∧ W.cell? ⟨b2, o2 + k * 2, none⟩ = some (.bool (decide (y < 0))) ∧ W.cell? ⟨b2, o2 + k * 2 + 1, none⟩ = some (.slice B4 n4 e4)) ∧ Calls Tryz.prog 75 #[.agg #[.bool (decide (x < 0)), .slice B3 n3 e3], .agg #[.bool (decide (y < 0)), .slice B4 n4 e4]] W (ZOne W (x * y)) ∧ b1 < w.heap.size ∧ b2 < w.heap.size) := fun k hk => by
    obtain ⟨s, hs, b1, o1, B3, n3, e3, hA, hb, x0, x1, zn, lb⟩ := h.numH hm1 hk
    obtain ⟨t, ht, b2, o2, B4, n4, e4, hA2, hb2, y0, y1, zn2, lb2⟩ := h2.numH hm2 hk
    exact ⟨s, t, b1, o1, B3, n3, e3, b2, o2, B4, n4, e4, hs.out, ht.out, hA, hA2, fun W hW => ⟨⟨(hW.cell (p := ⟨b1, o1 + k * 2, none⟩) hb).trans x0, (hW.cell (p := ⟨b1, o1 + k * 2 + 1, none⟩) hb).trans x1, (hW.cell (p := ⟨b2, o2 + k * 2, none⟩) hb2).trans y0, (hW.cell (p := ⟨b2, o2 + k * 2 + 1, none⟩) hb2).trans y1⟩, rTimesZ_any (zn.below hW) (zn2.below hW) (by omega) (by omega), hb, hb2⟩⟩
  clear h h2 he hm1 hm2 hl
  have HF : Hid (∀ k, zat L k * zat M k = (fun i => zat L i * zat M i) k) := fun k => rfl
  generalize (fun i => zat L i * zat M i) = f at *
  unfold ZOne zV zv at *
  go_enter Tryz.func49, Tryz.ntmps49
  go_wp2
  go_loopw [6] (fun i wr => ∃ (k : Nat) (A4 : Option Addr) (n4 c4 : Nat), k ≤ m ∧ i = .int .i64 (k : Int) ∧ BoxZ wr (w.heap.size + 1) (decide (sumTo f k < 0)) A4 n4 c4 ∧ Own wr (w.heap.size + 1 + 1) (.slice A4 n4 c4) (limbs (sumTo f k).natAbs) ∧ Below (w.heap.size + 1) (w.alloc (zo false none 0 0)) wr) (fun i _ => m - (intOf i).toNat)
  case atStart => exact ⟨0, none, 0, 0, by omega, rfl, T2, by rw [show (sumTo f 0).natAbs = 0 from rfl, limbs_zero]; exact own_nil _ _, hb2⟩
  case round =>
    obtain ⟨k, A4, n5, c4, hk, rfl, hX, hOw, hB⟩ := hrel
    have hXl := (Array.getElem?_eq_some_iff.1 hX).1
    have hw2 : Below w.heap.size w wr := HT1.out.trans (hB.mono (by omega))
    by_cases hlt : k < m
    · obtain ⟨x, y, b1, o1, B3, n3, e3, b2, o2, B4, n4, e4, hx, hy, rfl, rfl, hN⟩ := HN.out k hlt
      have HN2 := Lib.hid hN
      have hl5 : n5 ≤ 121 := (sum_Bd hf HQ.out hk).len hOw
      have hl6 : Hid (Bd 120 (x * y)) := by
        show Bd 120 (x * y)
        have h1 := HQ.out k hlt
        rwa [← HF.out k, hx, hy] at h1
      have hsk : sumTo f k + x * y = sumTo f (k + 1) := by rw [← hx, ← hy, HF.out]; rfl
      obtain ⟨⟨x0, x1, y0, y1⟩, _, hq1, hq2⟩ := hN _ hw2
      have HBd := Lib.hid hB.drew
      have Hwd := Lib.hid hw2.drew
      have HX := Lib.hid (hX.below ((Below.refl wr.heap.size wr).drew) hXl)
      have HO := Lib.hid (hOw.below ((Below.refl wr.heap.size wr).drew))
      have r0 := hX.c0
      have r1 := hX.c1
      have f0 := hX.f 0
      have f1 := hX.f 1
      have HTm := Lib.hid (fun W (hW : Below w.heap.size w W) => (hN W hW).2.1)
      have HC := Lib.hid (fun W (hW : Below w.heap.size w W) => (hN W hW).1)
      have HSm := Lib.hid (fun W {A A2 : Option Addr} {n c m k2 : Nat} (h1 : ZNm W A n c (sumTo f k)) (h2 : ZNm W A2 m k2 (x * y)) (l1 : n ≤ 1000) (l2 : m ≤ 1000) => rSumZ_any (w := W) h1 h2 l1 l2)
      clear hx hy hN hX hOw hB hw2
      rw [hsk] at HSm
      clear hsk
      generalize sumTo f k = s at *
      obtain ⟨s1, es1⟩ : ∃ s1, sumTo f (k + 1) = s1 := ⟨_, rfl⟩
      rw [es1] at HSm
      have HS1 := Lib.hid es1
      clear es1
      generalize x * y = t at *
      unfold ZOne zV zv at HSm
      go_wp2_with fail
      go_region_with
        (first
          | ((with_reducible refine (HSm.out _ HO5.out.nm o5.nm (by omega) (by omega)).mono ?_); rintro e w3 ⟨A7, n7, c7, rfl, o7, hb7⟩; have HB7 := Lib.hid (HB5.out.trans (hb7.mono hs5)); have Hw7 := Lib.hid (below_then Hw5.out hb7); have HX7 := Lib.hid (HX5.out.below hb7 (by omega)); have HO7 := Lib.hid (own_mono o7 hs6); clear x0 x1 y0 y1 r0 r1 f0 f1; have r0 := HX7.out.c0; have r1 := HX7.out.c1; have f0 := HX7.out.f 0; have f1 := HX7.out.f 1; obtain ⟨x0, x1, y0, y1⟩ := HC.out _ Hw7.out)
          | ((with_reducible refine (HTm.out _ Hwd.out).mono ?_); rintro e w2 ⟨A5, k5, c5, rfl, o5, hb5⟩; have hs5 : w.heap.size + 1 ≤ w2.heap.size := Nat.le_trans (Nat.le_of_lt hXl) hb5.size; have hs6 : w.heap.size + 1 + 1 ≤ w2.heap.size := Nat.le_trans hXl hb5.size; have HB5 := Lib.hid (HBd.out.trans (hb5.mono (Nat.le_of_lt hXl))); have Hw5 := Lib.hid (below_then Hwd.out hb5); have HX5 := Lib.hid (HX.out.below hb5 hXl); have HO5 := Lib.hid (HO.out.below hb5); have hq5 := hl6.out.len o5; clear x0 x1 y0 y1 r0 r1 f0 f1; have r0 := HX5.out.c0; have r1 := HX5.out.c1; have f0 := HX5.out.f 0; have f1 := HX5.out.f 1; obtain ⟨x0, x1, y0, y1⟩ := HC.out _ Hw5.out))
      all_goals
        go_wp2
        go_roundw
        case rel => exact ⟨k + 1, A7, n7, c7, by omega, by go_num, by rw [HS1.out]; exact set_numV HX7.out _ _ _ _, by rw [HS1.out]; exact own_far (own_far HO7.out (p := ⟨w.heap.size + 1, 0, none⟩) (Nat.lt_succ_self _) _) (p := ⟨w.heap.size + 1, 1, none⟩) (Nat.lt_succ_self _) _, box_below (Nat.le_refl _) HB7.out _ _⟩
        case measure => simp [intOf]; omega
    · obtain rfl : k = m := by omega
      have HR := Lib.hid (HR1.out.below hB (Nat.lt_succ_self _))
      have HO := Lib.hid hOw
      have Hw := Lib.hid hw2
      have q0 := hX.c0
      have q1 := hX.c1
      have r0 := HR.out.c0
      have r1 := HR.out.c1
      have f0 := HR.out.f 0
      have f1 := HR.out.f 1
      clear hX hOw hB hw2
      have HF1 := Lib.hid (own_mono (own_far (own_far HO.out (p := ⟨w.heap.size, 0, none⟩) (show w.heap.size < w.heap.size + 1 + 1 by omega) (.bool (decide (sumTo f k < 0)))) (p := ⟨w.heap.size, 1, none⟩) (show w.heap.size < w.heap.size + 1 + 1 by omega) (.slice A4 n5 c4)) (show w.heap.size ≤ w.heap.size + 1 + 1 by omega))
      go_wp2
      refine bodyPost_ret (v := .agg #[.bool (decide (sumTo f k < 0)), .slice A4 n5 c4]) (by simp [results, Tryz.results49, go_sem, r0, r1, zV, zv]) rfl ?_
      exact ⟨A4, n5, c4, rfl, HF1.out, box_below (Nat.le_refl _) Hw.out _ _⟩
end
end Go.Proofs.YtgiokmfdafmaoaaGreat

/- The document's Dot of rows. -/
namespace Go.Proofs.YtgiokmfdafmaoaaGreat
open Go.RowKit Go.Shelf
set_option linter.unusedVariables false
set_option linter.unusedSimpArgs false

section
variable {A A2 B B2 : Option Addr} {n c m d nb cb na ca g1 g2 g3 g4 k : Nat} {L M : List ZE} {w W : World} {z y : Int}
set_option maxRecDepth 100000 in
set_option maxHeartbeats 4000000 in
theorem rDotV_any : DotIs 18 := fun A A2 n c m d L M w h h2 => by
  have T0 := uno_box w false none 0 0
  have HA := Lib.hid (fun W (hW : Below w.heap.size w W) => rTwoV_any (h.below hW) (h2.below hW))
  have HP : Hid (twoVE L M = 0 → ∀ W, Below w.heap.size w W → Calls Tryz.prog 49 #[.slice A n c, .slice A2 m d] W (ZOne W (sumTo (fun i => zat L i * zat M i) n))) := fun he W hW => rProduct_any (h.below hW) (h2.below hW) he
  clear h h2
  generalize sumTo (fun i => zat L i * zat M i) n = s at *
  generalize twoVE L M = E at *
  unfold ZOne ZAns zV zv at *
  have r0 := T0.x.c0
  have r1 := T0.x.c1
  have f0 := T0.x.f 0
  have f1 := T0.x.f 1
  by_cases hz : E = 0
  · subst hz
    replace HP := Lib.hid (HP.out rfl)
    rw [if_pos rfl]
    go_enter Tryz.func18, Tryz.ntmps18
    go_wp2_with fail
    refine (HA.out _ T0.b).mono ?_
    rintro e w1 ⟨rfl, hb1⟩
    have T1 := T0.next hb1
    clear r0 r1 f0 f1
    have r0 := T1.x.c0
    have r1 := T1.x.c1
    have f0 := T1.x.f 0
    have f1 := T1.x.f 1
    go_wp2_with fail
    refine (HP.out _ T1.b).mono ?_
    rintro e w2 ⟨A3, n3, c3, rfl, o3, hb2⟩
    have T2 := T1.next hb2
    have hG := Lib.hid (Array.getElem?_eq_some_iff.1 T1.x).1
    clear r0 r1 f0 f1
    have r0 := T2.x.c0
    have r1 := T2.x.c1
    have f0 := T2.x.f 0
    have f1 := T2.x.f 1
    go_wp2
    refine bodyPost_ret (v := .tuple #[.agg #[.bool (decide (s < 0)), .slice A3 n3 c3], .int .i64 0]) (by simp [results, Tryz.results18, go_sem, r0, r1]) rfl ?_
    exact ⟨A3, n3, c3, rfl, own_box hG.out (Nat.le_refl _) o3 _ _, box_below (Nat.le_refl _) T2.b _ _⟩
  · rw [if_neg hz]
    have hE2 : ((E : Int) != 0) = true := by simpa using hz
    have hE3 : ((E : Int) == 0) = false := by simpa using hz
    clear hz HP
    go_enter Tryz.func18, Tryz.ntmps18
    go_wp2_with fail
    refine (HA.out _ T0.b).mono ?_
    rintro e w1 ⟨rfl, hb1⟩
    have T1 := T0.next hb1
    clear r0 r1 f0 f1
    have r0 := T1.x.c0
    have r1 := T1.x.c1
    have f0 := T1.x.f 0
    have f1 := T1.x.f 1
    go_wp2
    refine bodyPost_ret (v := .tuple #[.agg #[.bool false, .slice none 0 0], .int .i64 E]) (by simp [results, Tryz.results18, go_sem, r0, r1]) rfl ?_
    exact ⟨none, 0, 0, rfl, by rw [show Int.natAbs 0 = 0 from rfl, limbs_zero]; exact own_nil _ _, box_below (Nat.le_refl _) T1.b _ _⟩
end
end Go.Proofs.YtgiokmfdafmaoaaGreat

/- The document's Compared, Cmp of rows. -/
namespace Go.Proofs.YtgiokmfdafmaoaaGreat
open Go.RowKit Go.Shelf
set_option linter.unusedVariables false
set_option linter.unusedSimpArgs false

section
variable {A A2 B B2 : Option Addr} {n c m d nb cb na ca g1 g2 g3 g4 k : Nat} {L M : List ZE} {w W : World} {z y : Int}
set_option maxRecDepth 100000 in
set_option maxHeartbeats 4000000 in
theorem rComparedV_any (h : V1 w A n c L) (h2 : V1 w A2 m d M) (he : twoVE L M = 0) : Calls Tryz.prog 58 #[.slice A n c, .slice A2 m d] w fun e w' => e = .returned (.int .i64 (firstTo (fun i => sgn (zat L i - zat M i)) n)) ∧ Below w.heap.size w w' := by
  have HN : Hid (∀ k, k < n → ∃ b o B nb cb b2 o2 B2 nb2 cb2, A = some ⟨b, o, none⟩ ∧ A2 = some ⟨b2, o2, none⟩ ∧ k < m ∧ ∀ W, Below w.heap.size w W → (W.cell? ⟨b, o + k * 2, none⟩ = some (.bool (decide (zat L k < 0))) ∧ W.cell? ⟨b, o + k * 2 + 1, none⟩ = some (.slice B nb cb) ∧ W.cell? ⟨b2, o2 + k * 2, none⟩ = some (.bool (decide (zat M k < 0))) ∧ W.cell? ⟨b2, o2 + k * 2 + 1, none⟩ = some (.slice B2 nb2 cb2)) ∧ Calls Tryz.prog 80 #[.agg #[.bool (decide (zat L k < 0)), .slice B nb cb], .agg #[.bool (decide (zat M k < 0)), .slice B2 nb2 cb2]] W (fun e w' => e = .returned (.int .i64 (sgn (zat L k - zat M k))) ∧ Below W.heap.size W w')) := fun k hk => by
    obtain ⟨hm1, hm2, hl⟩ := two_may he
    have hk2 : k < m := by rw [← h2.rd.len, ← hl, h.rd.len]; exact hk
    obtain ⟨b, o, B, nb, cb, hA, hb, x0, x1, zn, lb⟩ := h.num hm1 hk
    obtain ⟨b2, o2, B2, nb2, cb2, hA2, hb2, y0, y1, zn2, lb2⟩ := h2.num hm2 hk2
    exact ⟨b, o, B, nb, cb, b2, o2, B2, nb2, cb2, hA, hA2, hk2, fun W hW => ⟨⟨(hW.cell (p := ⟨b, o + k * 2, none⟩) hb).trans x0, (hW.cell (p := ⟨b, o + k * 2 + 1, none⟩) hb).trans x1, (hW.cell (p := ⟨b2, o2 + k * 2, none⟩) hb2).trans y0, (hW.cell (p := ⟨b2, o2 + k * 2 + 1, none⟩) hb2).trans y1⟩, rComparedZ_any (zn.below hW) (zn2.below hW) (by omega) (by omega)⟩⟩
  have hf := h.few
  have hf2 := h2.few
  clear h h2 he
  generalize zat L = f at *
  generalize zat M = g at *
  go_enter Tryz.func58, Tryz.ntmps58
  go_wp2
  go_loopw [5] (fun i wr => ∃ k : Nat, k ≤ n ∧ i = .int .i64 (k : Int) ∧ (∀ j, j < k → sgn (f j - g j) = 0) ∧ Below w.heap.size w wr) (fun i _ => n - (intOf i).toNat)
  case atStart => exact ⟨0, by omega, rfl, fun j hj => absurd hj (by omega), Below.refl _ _⟩
  case round =>
    obtain ⟨k, hk, rfl, h1, hB⟩ := hrel
    by_cases hlt : k < n
    · obtain ⟨b, o, B, nb, cb, b2, o2, B2, nb2, cb2, rfl, rfl, hkm, hC⟩ := HN.out k hlt
      have HX := Lib.hid (fun W hW => (hC W hW).1)
      obtain ⟨x0, x1, y0, y1⟩ := HX.out _ hB
      have HBd := Lib.hid hB.drew
      replace hC := fun W hW => (hC W hW).2
      have HC := Lib.hid hC
      have H1 := Lib.hid h1
      have HB := Lib.hid hB
      by_cases hs : sgn (f k - g k) = 0
      · have HS := Lib.hid hs
        rw [hs] at HC
        clear hs h1 hC hB HB
        go_wp2_with fail
        go_region_held3 (fun W' => W'.cell? ⟨b, o + k * 2, none⟩ = some (.bool (decide (f k < 0))) ∧ W'.cell? ⟨b, o + k * 2 + 1, none⟩ = some (.slice B nb cb) ∧ W'.cell? ⟨b2, o2 + k * 2, none⟩ = some (.bool (decide (g k < 0))) ∧ W'.cell? ⟨b2, o2 + k * 2 + 1, none⟩ = some (.slice B2 nb2 cb2)) (first | (with_reducible exact ⟨x0, x1, y0, y1⟩) | go_keep)
          (first | (go_at_call 80; refine (HC.out _ HBd.out).mono ?_; rintro e w3 ⟨rfl, hb3⟩; have HB3 := Lib.hid (below_then HBd.out hb3); clear x0 x1 y0 y1 hb3; obtain ⟨x0, x1, y0, y1⟩ := HX.out _ HB3.out))
        go_wp2
        go_roundw
        case rel =>
          refine ⟨k + 1, by omega, by go_num, fun j hj => ?_, HB3.out⟩
          rcases Nat.lt_or_ge j k with hjk | hjk
          · exact H1.out j hjk
          · obtain rfl : j = k := by omega
            exact HS.out
        case measure => simp [intOf]; omega
      · have HR : Hid (firstTo (fun i => sgn (f i - g i)) n = sgn (f k - g k)) := firstTo_found (f := fun i => sgn (f i - g i)) h1 hs hlt
        generalize sgn (f k - g k) = s at *
        have hE2 : ((s : Int) != 0) = true := by simpa using hs
        have hE3 : ((s : Int) == 0) = false := by simpa using hs
        clear hs h1 hC hB HB
        go_wp2_with fail
        go_region_held3 (fun W' => W'.cell? ⟨b, o + k * 2, none⟩ = some (.bool (decide (f k < 0))) ∧ W'.cell? ⟨b, o + k * 2 + 1, none⟩ = some (.slice B nb cb) ∧ W'.cell? ⟨b2, o2 + k * 2, none⟩ = some (.bool (decide (g k < 0))) ∧ W'.cell? ⟨b2, o2 + k * 2 + 1, none⟩ = some (.slice B2 nb2 cb2)) (first | (with_reducible exact ⟨x0, x1, y0, y1⟩) | go_keep)
          (first | (go_at_call 80; refine (HC.out _ HBd.out).mono ?_; rintro e w3 ⟨rfl, hb3⟩; have HB3 := Lib.hid (below_then HBd.out hb3); clear x0 x1 y0 y1 hb3; obtain ⟨x0, x1, y0, y1⟩ := HX.out _ HB3.out))
        go_wp2
        go_ret
        exact ⟨by rw [HR.out]; (try rfl), HB3.out⟩
    · have HR : Hid (firstTo (fun i => sgn (f i - g i)) n = 0) := firstTo_zero.2 fun i hi => h1 i (by omega)
      have HB := Lib.hid hB
      clear h1 hB
      go_wp2
      go_ret
      exact ⟨by rw [HR.out]; (try rfl), HB.out⟩
set_option maxRecDepth 100000 in
set_option maxHeartbeats 4000000 in
theorem rCmpV_any : CmpVIs 26 := fun A A2 n c m d L M w h h2 => by
  have HA := Lib.hid (rTwoV_any h h2)
  have HC : Hid (twoVE L M = 0 → ∀ W, Below w.heap.size w W → Calls Tryz.prog 58 #[.slice A n c, .slice A2 m d] W fun e w' => e = .returned (.int .i64 (firstTo (fun i => sgn (zat L i - zat M i)) n)) ∧ Below W.heap.size W w') := fun he W hW => rComparedV_any (h.below hW) (h2.below hW) he
  clear h h2
  generalize firstTo (fun i => sgn (zat L i - zat M i)) n = s at *
  unfold IAns at *
  generalize twoVE L M = E at *
  by_cases hz : E = 0
  · subst hz
    replace HC := Lib.hid (HC.out rfl)
    rw [if_pos rfl]
    go_enter Tryz.func26, Tryz.ntmps26
    go_wp2_with fail
    refine HA.out.mono ?_
    rintro e w1 ⟨rfl, hb1⟩
    go_wp2_with fail
    refine (HC.out _ hb1).mono ?_
    rintro e w2 ⟨rfl, hb2⟩
    have HB := Lib.hid (below_then hb1 hb2)
    clear hb1 hb2
    go_wp2
    go_ret2
    exact ⟨rfl, HB.out⟩
  · rw [if_neg hz]
    have hE2 : ((E : Int) != 0) = true := by simpa using hz
    have hE3 : ((E : Int) == 0) = false := by simpa using hz
    clear hz HC
    go_enter Tryz.func26, Tryz.ntmps26
    go_wp2_with fail
    refine HA.out.mono ?_
    rintro e w1 ⟨rfl, hb1⟩
    go_wp2
    go_ret2
    exact ⟨rfl, hb1⟩
end
end Go.Proofs.YtgiokmfdafmaoaaGreat

/- vec: Of. -/
namespace Go.Proofs.YtgiokmfdafmaoaaGreat
open Go.RowKit Go.Shelf
set_option linter.unusedVariables false
set_option linter.unusedSimpArgs false

abbrev isT : TypeId := 67
/-- A slice of n ints. -/
structure RdN (w : World) (A : Option Addr) (n : Nat) (X : List Int) : Prop where
  len : X.length = n
  ok : ∀ x, x ∈ X → -9223372036854775808 ≤ x ∧ x ≤ 9223372036854775807
  cells : 0 < n → ∃ b o, A = some ⟨b, o, none⟩ ∧ b < w.heap.size ∧ ∀ i x, X[i]? = some x → w.cell? ⟨b, o + i, none⟩ = some (.int .i64 x)
theorem RdN.below {w w' : World} {A : Option Addr} {n : Nat} {X : List Int} (h : RdN w A n X) (hb : Below w.heap.size w w') : RdN w' A n X :=
  ⟨h.len, h.ok, fun hn => by
    obtain ⟨b, o, e, hlt, hc⟩ := h.cells hn
    exact ⟨b, o, e, Nat.lt_of_lt_of_le hlt hb.size, fun i x hx => (hb.cell (p := ⟨b, o + i, none⟩) hlt).trans (hc i x hx)⟩⟩
/-- Ints that a call lays. -/
theorem rdn_new {w : World} {g : Nat} {cs : Array Value} {T : TypeId} {X : List Int} (hg : w.heap[g]? = some (.cells cs T)) (hc : cs.toList = X.map (Value.int .i64)) (hX : ∀ x, x ∈ X → -9223372036854775808 ≤ x ∧ x ≤ 9223372036854775807) : RdN w (some ⟨g, 0, none⟩) X.length X := by
  refine ⟨rfl, hX, fun _ => ⟨g, 0, rfl, (Array.getElem?_eq_some_iff.1 hg).1, fun i x hx => ?_⟩⟩
  refine cells_cell hg ?_
  rw [Nat.zero_add, ← Array.getElem?_toList, hc, List.getElem?_map, hx]
  rfl
/-- The ints as a row. -/
def iat (X : List Int) (i : Nat) : Int := X.getD i 0
theorem iat_some {X : List Int} {i : Nat} {x : Int} (h : X[i]? = some x) : iat X i = x := by unfold iat; rw [List.getD_eq_getElem?_getD, h]; rfl
abbrev bi (A : Option Addr) (n c : Nat) : Obj := .cells #[.slice A n c] isT
def BoxI (w : World) (g : Nat) (A : Option Addr) (n c : Nat) : Prop := w.heap[g]? = some (bi A n c)
section
variable {A A2 B B2 : Option Addr} {n c m d nb cb na ca g1 g2 g3 g4 k : Nat} {L M : List ZE} {w W : World} {z y : Int}
variable {X : List Int}
theorem BoxI.lt (h : BoxI w g1 A n c) : g1 < w.heap.size := (Array.getElem?_eq_some_iff.1 h).1
theorem BoxI.next (h : BoxI w g1 A n c) (hb : Below w.heap.size w W) : BoxI W g1 A n c := (hb.block g1 h.lt).trans h
theorem BoxI.c0 (h : BoxI w g1 A n c) : w.cell? ⟨g1, 0, none⟩ = some (.slice A n c) := cells_cell h rfl
set_option maxRecDepth 100000 in
set_option maxHeartbeats 4000000 in
theorem ofClo_any (hx : BoxI w g1 A n c) (h : RdN w A n X) (hk : k < n) : Calls Tryz.prog 37 #[.int .i64 (k : Int), .pointer (some ⟨g1, 0, none⟩)] w (KAns w (numK (iat X) k).1 (numK (iat X) k).2) := by
  obtain ⟨b, o, rfl, hb, hc⟩ := h.cells (by omega)
  obtain ⟨x, hxk⟩ : ∃ x, X[k]? = some x := ⟨X[k]'(by rw [h.len]; exact hk), List.getElem?_eq_getElem _⟩
  have hok := h.ok x (List.mem_of_getElem? hxk)
  have y0 := hc k x hxk
  have e := iat_some hxk
  have T0 := uno_box w false none 0 0
  have HM := Lib.hid (fun W => wOf_any (w := W) x hok.1 hok.2)
  have HC : Hid (∀ W', Below w.heap.size w W' → W'.cell? ⟨g1, 0, none⟩ = some (.slice (some ⟨b, o, none⟩) n c) ∧ W'.cell? ⟨b, o + k, none⟩ = some (.int .i64 x)) := fun W' hW => ⟨(hx.next hW).c0, (hW.cell (p := ⟨b, o + k, none⟩) hb).trans y0⟩
  have r0 := T0.x.c0
  have r1 := T0.x.c1
  have f0 := T0.x.f 0
  have f1 := T0.x.f 1
  have HT0 := Lib.hid (T0.next (Below.refl _ _).drew)
  clear y0
  obtain ⟨c0, y0⟩ := HC.out _ T0.b
  have hl1 := hx.lt
  rw [numK_at e]
  clear h hx hc hxk e
  unfold KAns
  dsimp only
  unfold ZOne zV zv at HM
  go_enter Tryz.func37, Tryz.ntmps37
  go_wp2_with fail
  refine (HM.out _).mono ?_
  rintro e w1 ⟨A3, k3, c3, rfl, o3, hb3⟩
  have T1 := T0.next hb3
  clear r0 r1 f0 f1 c0 y0
  have r0 := T1.x.c0
  have r1 := T1.x.c1
  have f0 := T1.x.f 0
  have f1 := T1.x.f 1
  have hG := Lib.hid (Array.getElem?_eq_some_iff.1 T0.x).1
  go_wp2
  refine bodyPost_ret (v := .agg #[.bool (decide (x < 0)), .slice A3 k3 c3]) (by simp [results, Tryz.results37, go_sem, r0, r1]) rfl ?_
  exact ⟨A3, k3, c3, rfl, own_box hG.out (Nat.le_refl _) o3 _ _, box_below (Nat.le_refl _) T1.b _ _⟩
/-- A call answered the row of these ints, in new memory. -/
def NAns (w : World) (n : Nat) (f : Nat → Int) (e : Ending) (w' : World) : Prop := ∃ (A : Option Addr) (c : Nat) (L : List ZE), e = .returned (.slice A n c) ∧ NewV w' w.heap.size A n c L f ∧ Below w.heap.size w w'
set_option maxRecDepth 100000 in
set_option maxHeartbeats 4000000 in
theorem ofV_any (h : RdN w A n X) (hn : n ≤ 1000) (hc1 : n ≤ c) (hc2 : c ≤ 9223372036854775807) : Calls Tryz.prog 7 #[.slice A n c] w (NAns w n (iat X)) := by
  have hmf : ∀ (fn : Fn) (first cap : Array Value) (w : World), (Instr.makeFunc fn first cap).run Tryz.prog w = .ok (.func fn first cap) w := fun _ _ _ _ => rfl
  have T1 := bxb w (bi A n c)
  have X1 : BoxI (w.alloc (bi A n c)) w.heap.size A n c := World.alloc_heap_new _ _
  have HP : Hid (∀ (W : World) (g1 : Nat), Below w.heap.size w W → BoxI W g1 A n c → Calls Tryz.prog 36 #[.int .i64 (n : Int), .func (.func 37) #[] #[.pointer (some ⟨g1, 0, none⟩)]] W (KRow W n (numK (iat X)))) := fun W g1 hW hx =>
    placedV1_any _ _ (enters_of Tryz.func37 (by kernel_rfl) rfl) n hn _ W fun k hk V hV => ofClo_any (hx.next hV) ((h.below hW).below hV) hk
  have x0 := X1.c0
  unfold KRow at HP
  unfold NAns
  clear h
  go_enter Tryz.func7, Tryz.ntmps7
  go_wp2_with fail
  refine (HP.out _ w.heap.size T1 X1).mono ?_
  rintro e w2 ⟨A3, c3, R, rfl, hO, hK, hb2⟩
  have HO : Hid (NewV w2 w.heap.size A3 n c3 R (iat X)) := ⟨hO.mono T1.size, isv_key hO.len hK⟩
  have HB := Lib.hid (below_then T1 hb2)
  clear hO hK hb2 T1 X1 x0 HP hmf
  go_wp2
  go_ret
  exact ⟨A3, c3, R, rfl, HO.out, HB.out⟩
/-- Of of a few small ints that are laid for it. -/
theorem ofL_any {g : Nat} {cs : Array Value} {T : TypeId} (X : List Int) (hg : w.heap[g]? = some (.cells cs T)) (hc : cs.toList = X.map (Value.int .i64)) (hX : ∀ x, x ∈ X → -1000 ≤ x ∧ x ≤ 1000) (hl : X.length ≤ 60) : Calls Tryz.prog 7 #[.slice (some ⟨g, 0, none⟩) X.length X.length] w (NAns w X.length (iat X)) :=
  ofV_any (rdn_new hg hc fun x hx => by have := hX x hx; omega) (by omega) (Nat.le_refl _) (by omega)
end
end Go.Proofs.YtgiokmfdafmaoaaGreat

/- A row of whole numbers that came in, opened. -/
namespace Go.Proofs.YtgiokmfdafmaoaaGreat
open Go.RowKit Go.Shelf Go.ChangeShapes Go.WideShapes
set_option linter.unusedVariables false

theorem vncells : Tryz.prog.cellsOf 23 = 1 := by kernel_rfl
theorem vbcells : Tryz.prog.cellsOf 4 = 1 := by kernel_rfl
set_option maxRecDepth 100000 in
theorem nat_rd {H : Type} {enc : TypeId × Value → H} {W : World} {base n : Nat} {held : Bool} {c1 : Value} {y1 : DataW H × List MemPlace}
    (hy1 : DataW.trod enc Tryz.prog W base (fun _ => true) held n 23 [c1] = some y1) :
    ∃ a len cap l, c1 = .slice a len cap ∧ Rd W a len l ∧ len ≤ cap ∧ cap ≤ 9223372036854775807 ∧ (a = none → len = 0 ∧ cap = 0) := by
  obtain ⟨a, l, c, e1⟩ := Go.Joins.slice_form Tryz.underlying23 hy1
  simp at e1
  subst e1
  have hrow : (a = none ∧ l = 0 ∧ c = 0 ∧ ∃ zs : List Int, zs = []) ∨ ∃ zs : List Int, ∃ x, a = some x ∧ l ≤ c ∧ c ≤ maxLen ∧ zs.length = c ∧ (∀ i, i < zs.length → W.cell? (x.add i) = some (.int .u64 (zs.getD i 0))) ∧ ∀ n ∈ zs, (Lit.int .u64 n).wf = true := by
    rcases open_ints Tryz.underlying23 Tryz.underlying36 (by kernel_rfl) hy1 with ⟨hcs, _⟩ | ⟨x, l', c', zs, hcs, _, hl, hm, hz, _, hcell, hwz⟩
    · simp at hcs
      obtain ⟨rfl, rfl, rfl⟩ := hcs
      exact .inl ⟨rfl, rfl, rfl, [], rfl⟩
    · simp at hcs
      obtain ⟨rfl, rfl, rfl⟩ := hcs
      exact .inr ⟨zs, _, rfl, hl, hm, by simpa using hz, hcell, hwz⟩
  rcases hrow with ⟨h1, h2, h3, zs, h4⟩ | ⟨zs, hx⟩
  · obtain ⟨⟨L, hL⟩, k1, k2⟩ := rd_of_row (w := W) (a := a) (len := l) (cap := c) (zs := zs) (.inl ⟨h1, h2, h3, h4⟩)
    exact ⟨a, l, c, L, rfl, hL, k1, k2, fun _ => ⟨h2, h3⟩⟩
  · obtain ⟨⟨L, hL⟩, k1, k2⟩ := rd_of_row (w := W) (a := a) (len := l) (cap := c) (zs := zs) (.inr hx)
    exact ⟨a, l, c, L, rfl, hL, k1, k2, fun h0 => by obtain ⟨x, hx2, _⟩ := hx; rw [hx2] at h0; cases h0⟩
set_option maxRecDepth 100000 in
/-- Two cells that read as a whole number. -/
theorem elem_z {H : Type} {enc : TypeId × Value → H} {W : World} {base n : Nat} {held : Bool} {cs : List Value} {y : DataW H × List MemPlace}
    (h : DataW.trod enc Tryz.prog W base (fun _ => true) held n zT cs = some y) : ∃ e : ZE, cs = [.bool e.p, .slice e.A e.n e.c] ∧ ZE.ok W e ∧ (e.A = none → e.n = 0 ∧ e.c = 0) := by
  obtain ⟨y0, y1, m, _, hl, h0, h1⟩ := trod_struct2 Tryz.underlying41 h
  rw [zcells] at hl
  match cs, hl with
  | [c0, c1], _ =>
    simp [vncells, vbcells] at h0 h1
    obtain ⟨s, e0, _⟩ := DataW.trod_bool Tryz.underlying4 h0
    obtain ⟨a, l, p, L, rfl, r1, q1, u1, x1⟩ := nat_rd h1
    simp at e0
    subst e0
    exact ⟨⟨s, a, l, p, L⟩, rfl, ⟨r1, q1, u1⟩, x1⟩
theorem cells_two {W : World} {base : Nat} {a : Addr} {u v : Value} (h : W.cells? base a 2 = some [u, v]) : W.cell? (a.add 0) = some u ∧ W.cell? (a.add 1) = some v := by
  obtain ⟨_, _, hc⟩ := World.cells?_some h
  exact ⟨hc 0 (by omega), hc 1 (by omega)⟩
theorem choose_row {α : Type} {n : Nat} {p : Nat → α → Prop} (h : ∀ i, i < n → ∃ x, p i x) : ∃ L : List α, L.length = n ∧ ∀ i x, L[i]? = some x → p i x := by
  induction n with
  | zero => exact ⟨[], rfl, fun i x hx => by cases hx⟩
  | succ k ih =>
    obtain ⟨L, hL, hp⟩ := ih fun i hi => h i (by omega)
    obtain ⟨x, hx⟩ := h k (by omega)
    refine ⟨L ++ [x], by rw [List.length_append, hL]; rfl, fun i y hy => ?_⟩
    rcases Nat.lt_or_ge i k with hi | hi
    · rw [List.getElem?_append_left (by rw [hL]; exact hi)] at hy
      exact hp i y hy
    · rw [List.getElem?_append_right (by rw [hL]; exact hi), hL] at hy
      have hi2 : i = k := by
        rcases Nat.eq_zero_or_pos (i - k) with h0 | h0
        · omega
        · obtain ⟨j, hj⟩ : ∃ j, i - k = j + 1 := ⟨i - k - 1, by omega⟩
          rw [hj] at hy
          cases hy
      subst hi2
      rw [Nat.sub_self] at hy
      cases hy
      exact hx
set_option maxRecDepth 100000 in
theorem open_v {H : Type} {enc : TypeId × Value → H} {W : World} {base b0 : Nat} {held : Bool} {r : Reach} {v : Value} {d : DataW H} {ps : List MemPlace} {T : TypeId} (ht : Tryz.prog.underlying T = some (.slice zT))
    (hv : Value.okWide Tryz.prog W r b0 T v) (h : DataW.Trod enc Tryz.prog W base (fun _ => true) held T v d ps) :
    ∃ A n c L, v = .slice A n c ∧ RdV W A n L ∧ n ≤ c ∧ c ≤ 9223372036854775807 ∧ (A = none → n = 0 ∧ c = 0) ∧ (∀ e, e ∈ L → e.A = none → e.n = 0 ∧ e.c = 0) := by
  obtain ⟨A, n, c, rfl⟩ := okWide_slice ht hv
  obtain ⟨fuel, hf⟩ := h
  rcases Go.Deep.open_slice ht hf with ⟨hcs, _⟩ | ⟨a, len, cap, m, k, D, Pl, hcs, _, hl, hm, hmm, _, hx⟩
  · simp [Value.cells] at hcs
    obtain ⟨rfl, rfl, rfl⟩ := hcs
    exact ⟨none, 0, 0, [], rfl, rdv_nil _ _, Nat.le_refl _, Nat.zero_le _, fun _ => ⟨rfl, rfl⟩, fun e he => by cases he⟩
  · simp [Value.cells] at hcs
    obtain ⟨rfl, rfl, rfl⟩ := hcs
    rw [zcells] at hx
    have hmc : n ≤ m := by rw [hmm]; simp; exact hl
    obtain ⟨L, hL, hp⟩ := choose_row (α := ZE) (n := n) (p := fun i e => (W.cell? ((a.add (i * 2)).add 0) = some (.bool e.p) ∧ W.cell? ((a.add (i * 2)).add 1) = some (.slice e.A e.n e.c)) ∧ ZE.ok W e ∧ (e.A = none → e.n = 0 ∧ e.c = 0)) (fun i hi => by
      obtain ⟨cs, hc, htr⟩ := hx i (by omega)
      obtain ⟨e, rfl, he⟩ := elem_z htr
      exact ⟨e, cells_two hc, he⟩)
    refine ⟨some a, n, c, L, rfl, ⟨hL, fun e he => ?_, fun hn => ?_⟩, hl, hm, fun h => (by cases h), fun e he => ?_⟩
    · obtain ⟨i, hi⟩ := List.getElem?_of_mem he
      exact (hp i e hi).2.1
    · obtain ⟨b, off, spot⟩ := a
      have hn0 : 0 < L.length := by rw [hL]; exact hn
      have h0 := (hp 0 _ (List.getElem?_eq_getElem hn0)).1.1
      have hspot : spot = none := by simpa [Addr.add] using World.cell?_spot h0
      subst hspot
      have hlt : b < W.heap.size := by
        have h1 := h0
        simp [Addr.add] at h1
        unfold World.cell? at h1
        cases hob : W.heap[b]? with
        | none => simp [hob] at h1
        | some o => exact (Array.getElem?_eq_some_iff.1 hob).1
      refine ⟨b, off, rfl, hlt, fun i e he => ?_⟩
      have h1 := (hp i e he).1
      by_cases hi : i = 0
      · subst hi
        simpa [Addr.add] using h1
      · have hi2 : ¬ i * 2 = 0 := by omega
        simpa [Addr.add, hi, hi2] using h1
    · obtain ⟨i, hi⟩ := List.getElem?_of_mem he
      exact (hp i e hi).2.2
end Go.Proofs.YtgiokmfdafmaoaaGreat

/- What a law over rows holds; rows told by keys. -/
namespace Go.Proofs.YtgiokmfdafmaoaaGreat
open Go.RowKit Go.Shelf
set_option linter.unusedVariables false
set_option linter.unusedSimpArgs false

/-- A row. -/
structure IV where
  A : Option Addr
  n : Nat
  c : Nat
  L : List ZE
def HeldV (W : World) (l : List IV) : Prop := ∀ i, i ∈ l → V1 W i.A i.n i.c i.L
theorem heldv_nil (W : World) : HeldV W [] := fun i hi => by cases hi
theorem HeldV.next {W W' : World} {l : List IV} (h : HeldV W l) (hb : Below W.heap.size W W') : HeldV W' l := fun i hi => (h i hi).below hb
theorem HeldV.cons {W : World} {l : List IV} {A : Option Addr} {n c : Nat} {L : List ZE} (h : HeldV W l) (hi : V1 W A n c L) : HeldV W (⟨A, n, c, L⟩ :: l) := fun j hj => by
  rcases List.mem_cons.1 hj with rfl | hj
  · exact hi
  · exact h j hj
/-- All of a row depends on its keys. -/
theorem keys_get {L M : List ZE} (h : keys L = keys M) (i : Nat) : (L[i]?).map ZE.key = (M[i]?).map ZE.key := by
  have h1 : (keys L)[i]? = (keys M)[i]? := by rw [h]
  unfold keys at h1
  rwa [List.getElem?_map, List.getElem?_map] at h1
theorem keys_length {L M : List ZE} (h : keys L = keys M) : L.length = M.length := by rw [← keys_len, ← keys_len, h]
theorem keys_zat {L M : List ZE} (h : keys L = keys M) : zat L = zat M := by
  funext i
  have h1 := keys_get h i
  unfold zat
  cases hL : L[i]? with
  | none =>
    rw [hL] at h1
    cases hM : M[i]? with
    | none => rfl
    | some x => rw [hM] at h1; cases h1
  | some e =>
    rw [hL] at h1
    cases hM : M[i]? with
    | none => rw [hM] at h1; cases h1
    | some x =>
      rw [hM] at h1
      have h2 := (key_iff e x).1 (by simpa using h1)
      show zof e.p e.l = zof x.p x.l
      rw [h2.1, h2.2]
theorem keys_all {L M : List ZE} (h : keys L = keys M) (f : Bool → List Nat → Bool) : (L.all fun e => f e.p e.l) = (M.all fun e => f e.p e.l) := by
  have h1 : ∀ K : List ZE, (K.all fun e => f e.p e.l) = (keys K).all fun x => f x.1 x.2 := fun K => by
    unfold keys
    rw [List.all_map]
    rfl
  rw [h1, h1, h]
theorem keys_mayR {L M : List ZE} (h : keys L = keys M) : mayR L = mayR M := by
  unfold mayR mayV
  rw [keys_all h (fun p l => mayZ p l), keys_length h]
theorem keys_noughts {L M : List ZE} (h : keys L = keys M) : noughts L = noughts M := by
  unfold noughts
  exact keys_all h (fun p l => !p && l.isEmpty)
theorem keys_two {L L2 M : List ZE} (h : keys L = keys L2) : twoVE L M = twoVE L2 M := by
  unfold twoVE
  rw [keys_mayR h, keys_length h]
/-- A row that is so many values of f. -/
theorem isv_len {L : List ZE} {n : Nat} {f : Nat → Int} (h : IsV L n f) : L.length = n := h.len
theorem isv_mayR {L : List ZE} {n : Nat} {f : Nat → Int} (h : IsV L n f) (hn : n ≤ 64) : mayR L = true := newv_may h hn
theorem isv_zat {L : List ZE} {n : Nat} {f : Nat → Int} (h : IsV L n f) {i : Nat} (hi : i < n) : zat L i = f i := h.zat hi
theorem two_ok {L M : List ZE} {n : Nat} (h1 : mayR L = true) (h2 : mayR M = true) (l1 : L.length = n) (l2 : M.length = n) : twoVE L M = 0 := by
  unfold twoVE
  rw [h1, h2, Bool.and_true, if_pos rfl, if_pos (l1.trans l2.symm)]
theorem mayR_le {L : List ZE} (h : mayR L = true) : L.length ≤ 64 := by
  unfold mayR at h
  rw [Bool.and_eq_true] at h
  simpa using h.2
/-- How long a row's numbers are. -/
theorem V1.bdk {w : World} {A : Option Addr} {n c j : Nat} {L : List ZE} (h : V1 w A n c L) (hm : mayR L = true) (hs : ∀ e, e ∈ L → e.n ≤ j) : BdV j n (zat L) := fun i hi => by
  obtain ⟨e, he, hok⟩ := h.rd.elem hi
  have hr := hok.r
  have h1 := (h.isv hm).num i e he
  rw [h1.2] at hr
  exact Bd.of ⟨hr, hok.c1, hok.c2⟩ (hs e (List.mem_of_getElem? he))
theorem BdV.mono {j k n : Nat} {f : Nat → Int} (h : BdV j n f) (hjk : j ≤ k) : BdV k n f := fun i hi => (h i hi).mono hjk
theorem BdV.congr {j n : Nat} {f g : Nat → Int} (h : BdV j n f) (hfg : ∀ i, i < n → f i = g i) : BdV j n g := fun i hi => by rw [← hfg i hi]; exact h i hi
/-- Small ints as a row. -/
theorem iat_bd {X : List Int} (hX : ∀ x, x ∈ X → -1000 ≤ x ∧ x ≤ 1000) : BdV 1 X.length (iat X) := fun i hi => by
  have h1 := iat_some (List.getElem?_eq_getElem hi)
  rw [h1]
  have h2 := hX _ (List.getElem_mem hi)
  unfold Bd
  have h3 : B64 ^ 1 = 18446744073709551616 := by rw [Nat.pow_one, B64_eq]
  omega
section
end
end Go.Proofs.YtgiokmfdafmaoaaGreat

/- The document's Add, Scale, Mix of rows. -/
namespace Go.Proofs.YtgiokmfdafmaoaaGreat
open Go.RowKit Go.Shelf
set_option linter.unusedVariables false
set_option linter.unusedSimpArgs false

section
variable {A A2 B B2 : Option Addr} {n c m d nb cb na ca g1 g2 g3 g4 k : Nat} {L M : List ZE} {w W : World} {z y : Int}
theorem MAns.t {f g : Nat → Int} {e : Ending} {w' : World} (h : ∃ (A' : Option Addr) (c' : Nat) (K : List ZE), e = .returned (.slice A' n c') ∧ NewV w' w.heap.size A' n c' K f ∧ Below w.heap.size w w') (hfg : ∀ i, f i = g i) : ∃ (A' : Option Addr) (c' : Nat) (K : List ZE), e = .returned (.slice A' n c') ∧ NewV w' w.heap.size A' n c' K g ∧ Below w.heap.size w w' := by
  obtain ⟨A', c', K, he, hN, hb⟩ := h
  exact ⟨A', c', K, he, ⟨hN.o, hN.v.congr fun i _ => hfg i⟩, hb⟩
set_option maxRecDepth 100000 in
set_option maxHeartbeats 4000000 in
theorem rAddV_any : AddVIs 19 := fun A A2 n c m d L M w h h2 => by
  have HA := Lib.hid (rTwoV_any h h2)
  obtain ⟨u, eu⟩ : ∃ u : Int, u = 1 := ⟨_, rfl⟩
  have HO : Hid (∀ W : World, Calls Tryz.prog 51 #[.int .i64 1] W (ZOne W u)) := fun W => by rw [eu]; exact rOfZ_any 1 W (by omega) (by omega)
  have LU : Hid (Bd 1 u) := by
    show Bd 1 u
    rw [eu]
    unfold Bd
    have h4 : B64 ^ 1 = 18446744073709551616 := by rw [Nat.pow_one, B64_eq]
    omega
  have HM : Hid (twoVE L M = 0 → ∀ (W : World) (B B2 : Option Addr) (nb cb na ca : Nat), Below w.heap.size w W → ZNm W B nb cb u → ZNm W B2 na ca u → nb ≤ 60 → na ≤ 60 → Calls Tryz.prog 50 #[zV u B nb cb, .slice A n c, zV u B2 na ca, .slice A2 m d] W (fun e w' => ∃ (A' : Option Addr) (c' : Nat) (K : List ZE), e = .returned (.slice A' n c') ∧ NewV w' W.heap.size A' n c' K (fun i => zat L i + zat M i) ∧ Below W.heap.size W w')) := fun he W B B2 nb cb na ca hW hz hy l1 l2 =>
    (rMixed_any hz hy l1 l2 (h.below hW) (h2.below hW) he).mono fun e w' hq => MAns.t hq fun i => by rw [eu, Int.one_mul, Int.one_mul]
  clear h h2 eu
  generalize (fun i => zat L i + zat M i) = f at *
  generalize twoVE L M = E at *
  unfold ZOne zV zv at *
  by_cases hz : E = 0
  · subst hz
    replace HM := Lib.hid (HM.out rfl)
    rw [show decide ((0 : Int) = 0) = true from rfl]
    unfold VAns
    simp only [if_true]
    go_enter Tryz.func19, Tryz.ntmps19
    go_wp2_with fail
    refine HA.out.mono ?_
    rintro e w1 ⟨rfl, hb1⟩
    go_wp2_with fail
    refine (HO.out _).mono ?_
    rintro e w2 ⟨A3, n3, c3, rfl, o3, hb2⟩
    go_wp2_with fail
    refine (HO.out _).mono ?_
    rintro e w3 ⟨A4, n4, c4, rfl, o4, hb3⟩
    have k3 := LU.out.len o3
    have k4 := LU.out.len o4
    have HB3 := Lib.hid (below_then (below_then hb1 hb2) hb3)
    go_wp2_with fail
    refine (HM.out w3 A3 A4 n3 c3 n4 c4 HB3.out (o3.nm.below hb3) o4.nm (by omega) (by omega)).mono ?_
    rintro e w4 ⟨A5, c5, K, rfl, hN, hb4⟩
    have HN : Hid (NewV w4 w.heap.size A5 n c5 K f) := ⟨hN.o.mono HB3.out.size, hN.v⟩
    have HB := Lib.hid (below_then HB3.out hb4)
    clear hN hb1 hb2 hb3 hb4 o3 o4
    go_wp2
    go_ret2
    exact ⟨A5, c5, K, rfl, HN.out, HB.out⟩
  · rw [decide_eq_false hz]
    unfold VAns
    simp only [Bool.false_eq_true, if_false]
    have hE2 : ((E : Int) != 0) = true := by simpa using hz
    have hE3 : ((E : Int) == 0) = false := by simpa using hz
    clear hz HM
    go_enter Tryz.func19, Tryz.ntmps19
    go_wp2_with fail
    refine HA.out.mono ?_
    rintro e w1 ⟨rfl, hb1⟩
    go_wp2
    go_ret2
    exact ⟨rfl, hb1⟩
set_option maxRecDepth 100000 in
set_option maxHeartbeats 4000000 in
theorem rScaleV_any : ScaleIs 21 := fun A B n c nb cb p b L w h hb lb => by
  have T0 := uno_box w p B nb cb
  have HY := Lib.hid (fun W (hW : Below w.heap.size w W) => rMayV_any (h.below hW))
  have HZ : Hid (∀ W, Below w.heap.size w W → Calls Tryz.prog 54 #[.agg #[.bool p, .slice B nb cb]] W fun e w' => e = .returned (.bool (mayZ p b)) ∧ Below W.heap.size W w') := fun W hW => rMayZ_any (p := p) (w := W) ⟨hb.ra.below hW, hb.la, hb.ca1, hb.ca2⟩
  have HM : Hid (mayR L = true → mayZ p b = true → ∀ W, Below w.heap.size w W → Calls Tryz.prog 50 #[.agg #[.bool p, .slice B nb cb], .slice A n c, .agg #[.bool false, .slice none 0 0], .slice A n c] W (fun e w' => ∃ (A' : Option Addr) (c' : Nat) (K : List ZE), e = .returned (.slice A' n c') ∧ NewV w' W.heap.size A' n c' K (fun i => zat L i * zof p b) ∧ Below W.heap.size W w')) := fun hm hp W hW => by
    have hq := z1_num hb hp
    have h3 := rMixed_any (hq.1.below hW) (zero_znm W) lb (Nat.zero_le _) (h.below hW) (h.below hW) (two_ok hm hm rfl rfl)
    unfold zV zv at h3
    rw [← hq.2, show decide ((0 : Int) < 0) = false from decide_eq_false (by omega)] at h3
    exact h3.mono fun e w' hq => MAns.t hq fun i => by rw [Int.zero_mul, Int.add_zero, Int.mul_comm]
  have x0 := T0.x.c0
  have x1 := T0.x.c1
  clear h hb
  generalize (fun i => zat L i * zof p b) = f at *
  unfold zv VAns
  cases h1 : mayR L with
  | false =>
    rw [h1] at HY
    simp only [Bool.false_and, Bool.false_eq_true, if_false]
    clear h1 HM
    go_enter Tryz.func21, Tryz.ntmps21
    go_wp2_with fail
    refine (HY.out _ T0.b).mono ?_
    rintro e w1 ⟨rfl, hb1⟩
    have HB := Lib.hid (below_then T0.b hb1)
    clear x0 x1 T0 hb1
    go_wp2
    go_ret2
    exact ⟨rfl, HB.out⟩
  | true =>
    rw [h1] at HY
    cases h2 : mayZ p b with
    | false =>
      rw [h2] at HZ
      simp only [Bool.and_false, Bool.false_eq_true, if_false]
      clear h1 h2 HM
      go_enter Tryz.func21, Tryz.ntmps21
      go_wp2_with fail
      refine (HY.out _ T0.b).mono ?_
      rintro e w1 ⟨rfl, hb1⟩
      have T1 := T0.next hb1
      clear x0 x1 T0 hb1
      have x0 := T1.x.c0
      have x1 := T1.x.c1
      go_wp2_with fail
      refine (HZ.out _ T1.b).mono ?_
      rintro e w2 ⟨rfl, hb2⟩
      have HB := Lib.hid (below_then T1.b hb2)
      clear x0 x1 T1 hb2
      go_wp2
      go_ret2
      exact ⟨rfl, HB.out⟩
    | true =>
      rw [h2] at HZ
      replace HM := Lib.hid (HM.out h1 h2)
      simp only [Bool.and_true, if_true]
      clear h1 h2
      go_enter Tryz.func21, Tryz.ntmps21
      go_wp2_with fail
      refine (HY.out _ T0.b).mono ?_
      rintro e w1 ⟨rfl, hb1⟩
      have T1 := T0.next hb1
      clear x0 x1 T0 hb1
      have x0 := T1.x.c0
      have x1 := T1.x.c1
      go_wp2_with fail
      refine (HZ.out _ T1.b).mono ?_
      rintro e w2 ⟨rfl, hb2⟩
      have T2 := T1.next hb2
      clear x0 x1 T1 hb2
      have x0 := T2.x.c0
      have x1 := T2.x.c1
      go_wp2_with fail
      refine (HM.out _ T2.b).mono ?_
      rintro e w4 ⟨A5, c5, K, rfl, hN, hb4⟩
      have HN : Hid (NewV w4 w.heap.size A5 n c5 K f) := ⟨hN.o.mono T2.b.size, hN.v⟩
      have HB := Lib.hid (below_then T2.b hb4)
      clear hN hb4 x0 x1 T2
      go_wp2
      go_ret2
      exact ⟨A5, c5, K, rfl, HN.out, HB.out⟩
set_option maxRecDepth 100000 in
set_option maxHeartbeats 4000000 in
theorem rMixV_any : MixIs 23 := fun A A2 B B2 n c m d na ca nb cb p q a b L M w h h2 ha hb la lb => by
  have T0 := two_box w p B na ca q B2 nb cb
  have HP : Hid (∀ W, Below w.heap.size w W → Calls Tryz.prog 54 #[.agg #[.bool p, .slice B na ca]] W fun e w' => e = .returned (.bool (mayZ p a)) ∧ Below W.heap.size W w') := fun W hW => rMayZ_any (p := p) (w := W) ⟨ha.ra.below hW, ha.la, ha.ca1, ha.ca2⟩
  have HQ : Hid (∀ W, Below w.heap.size w W → Calls Tryz.prog 54 #[.agg #[.bool q, .slice B2 nb cb]] W fun e w' => e = .returned (.bool (mayZ q b)) ∧ Below W.heap.size W w') := fun W hW => rMayZ_any (p := q) (w := W) ⟨hb.ra.below hW, hb.la, hb.ca1, hb.ca2⟩
  have HT := Lib.hid (fun W (hW : Below w.heap.size w W) => rTwoV_any (h.below hW) (h2.below hW))
  have HM : Hid (twoVE L M = 0 → mayZ p a = true → mayZ q b = true → ∀ W, Below w.heap.size w W → Calls Tryz.prog 50 #[.agg #[.bool p, .slice B na ca], .slice A n c, .agg #[.bool q, .slice B2 nb cb], .slice A2 m d] W (fun e w' => ∃ (A' : Option Addr) (c' : Nat) (K : List ZE), e = .returned (.slice A' n c') ∧ NewV w' W.heap.size A' n c' K (fun i => zof p a * zat L i + zof q b * zat M i) ∧ Below W.heap.size W w')) := fun he hp hq W hW => by
    have k1 := z1_num ha hp
    have k2 := z1_num hb hq
    have h3 := rMixed_any (k1.1.below hW) (k2.1.below hW) la lb (h.below hW) (h2.below hW) he
    unfold zV zv at h3
    rw [← k1.2, ← k2.2] at h3
    exact h3
  have x0 := T0.x.c0
  have x1 := T0.x.c1
  have y0 := T0.y.c0
  have y1 := T0.y.c1
  clear h h2 ha hb
  generalize (fun i => zof p a * zat L i + zof q b * zat M i) = f at *
  generalize twoVE L M = E at *
  unfold zv
  cases h1 : mayZ p a with
  | false =>
    rw [h1] at HP
    unfold VAns
    simp only [Bool.false_and, Bool.false_eq_true, if_false]
    clear h1 HM
    go_enter Tryz.func23, Tryz.ntmps23
    go_wp2_with fail
    refine (HP.out _ T0.b).mono ?_
    rintro e w1 ⟨rfl, hb⟩
    have T1 := T0.next hb
    clear x0 x1 y0 y1 T0 hb
    have x0 := T1.x.c0
    have x1 := T1.x.c1
    have y0 := T1.y.c0
    have y1 := T1.y.c1
    go_wp2
    go_ret2
    exact ⟨rfl, T1.b⟩
  | true =>
    rw [h1] at HP
    cases h2 : mayZ q b with
    | false =>
      rw [h2] at HQ
      unfold VAns
      simp only [Bool.and_false, Bool.false_and, Bool.false_eq_true, if_false]
      clear h1 h2 HM
      go_enter Tryz.func23, Tryz.ntmps23
      go_wp2_with fail
      refine (HP.out _ T0.b).mono ?_
      rintro e w1 ⟨rfl, hb⟩
      have T1 := T0.next hb
      clear x0 x1 y0 y1 T0 hb
      have x0 := T1.x.c0
      have x1 := T1.x.c1
      have y0 := T1.y.c0
      have y1 := T1.y.c1
      go_wp2_with fail
      refine (HQ.out _ T1.b).mono ?_
      rintro e w2 ⟨rfl, hb⟩
      have T2 := T1.next hb
      clear x0 x1 y0 y1 T1 hb
      have x0 := T2.x.c0
      have x1 := T2.x.c1
      have y0 := T2.y.c0
      have y1 := T2.y.c1
      go_wp2
      go_ret2
      exact ⟨rfl, T2.b⟩
    | true =>
      rw [h2] at HQ
      replace HM := Lib.hid (fun he => HM.out he h1 h2)
      clear h1 h2
      by_cases hz : E = 0
      · subst hz
        replace HM := Lib.hid (HM.out rfl)
        unfold VAns
        simp only [Bool.and_true, Bool.true_and, decide_true, if_true]
        go_enter Tryz.func23, Tryz.ntmps23
        go_wp2_with fail
        refine (HP.out _ T0.b).mono ?_
        rintro e w1 ⟨rfl, hb⟩
        have T1 := T0.next hb
        clear x0 x1 y0 y1 T0 hb
        have x0 := T1.x.c0
        have x1 := T1.x.c1
        have y0 := T1.y.c0
        have y1 := T1.y.c1
        go_wp2_with fail
        refine (HQ.out _ T1.b).mono ?_
        rintro e w2 ⟨rfl, hb⟩
        have T2 := T1.next hb
        clear x0 x1 y0 y1 T1 hb
        have x0 := T2.x.c0
        have x1 := T2.x.c1
        have y0 := T2.y.c0
        have y1 := T2.y.c1
        go_wp2_with fail
        refine (HT.out _ T2.b).mono ?_
        rintro e w3 ⟨rfl, hb⟩
        have T3 := T2.next hb
        clear x0 x1 y0 y1 T2 hb
        have x0 := T3.x.c0
        have x1 := T3.x.c1
        have y0 := T3.y.c0
        have y1 := T3.y.c1
        go_wp2_with fail
        refine (HM.out _ T3.b).mono ?_
        rintro e w4 ⟨A5, c5, K, rfl, hN, hb4⟩
        have HN : Hid (NewV w4 w.heap.size A5 n c5 K f) := ⟨hN.o.mono T3.b.size, hN.v⟩
        have HB := Lib.hid (below_then T3.b hb4)
        clear hN hb4 x0 x1 y0 y1 T3
        go_wp2
        go_ret2
        exact ⟨A5, c5, K, rfl, HN.out, HB.out⟩
      · rw [decide_eq_false hz]
        unfold VAns
        simp only [Bool.and_false, Bool.and_true, Bool.false_eq_true, if_false, if_true]
        have hE2 : ((E : Int) != 0) = true := by simpa using hz
        have hE3 : ((E : Int) == 0) = false := by simpa using hz
        clear hz HM
        go_enter Tryz.func23, Tryz.ntmps23
        go_wp2_with fail
        refine (HP.out _ T0.b).mono ?_
        rintro e w1 ⟨rfl, hb⟩
        have T1 := T0.next hb
        clear x0 x1 y0 y1 T0 hb
        have x0 := T1.x.c0
        have x1 := T1.x.c1
        have y0 := T1.y.c0
        have y1 := T1.y.c1
        go_wp2_with fail
        refine (HQ.out _ T1.b).mono ?_
        rintro e w2 ⟨rfl, hb⟩
        have T2 := T1.next hb
        clear x0 x1 y0 y1 T1 hb
        have x0 := T2.x.c0
        have x1 := T2.x.c1
        have y0 := T2.y.c0
        have y1 := T2.y.c1
        go_wp2_with fail
        refine (HT.out _ T2.b).mono ?_
        rintro e w3 ⟨rfl, hb⟩
        have T3 := T2.next hb
        clear x0 x1 y0 y1 T2 hb
        have x0 := T3.x.c0
        have x1 := T3.x.c1
        have y0 := T3.y.c0
        have y1 := T3.y.c1
        go_wp2
        go_ret2
        exact ⟨rfl, T3.b⟩
end
end Go.Proofs.YtgiokmfdafmaoaaGreat

/- vec's calls of rows that may be. -/
namespace Go.Proofs.YtgiokmfdafmaoaaGreat
open Go.RowKit Go.Shelf
set_option linter.unusedVariables false
set_option linter.unusedSimpArgs false

/-- A call answered the row of f's first n values, in new memory, and no error. -/
def TAns (w : World) (n : Nat) (f : Nat → Int) (e : Ending) (w' : World) : Prop := ∃ (A : Option Addr) (c : Nat) (L : List ZE), e = .returned (.tuple #[.slice A n c, .int .i64 0]) ∧ NewV w' w.heap.size A n c L f ∧ Below w.heap.size w w'
theorem VAns.t {w w' : World} {n : Nat} {f g : Nat → Int} {E : Int} {e : Ending} (h : VAns w true n f E e w') (hfg : ∀ i, i < n → f i = g i) : TAns w n g e w' := by
  unfold VAns at h
  rw [if_pos rfl] at h
  obtain ⟨A, c, L, he, hN, hb⟩ := h
  exact ⟨A, c, L, he, ⟨hN.o, hN.v.congr hfg⟩, hb⟩
theorem isv_two {L M : List ZE} {n : Nat} {f g : Nat → Int} (i : IsV L n f) (j : IsV M n g) (hn : n ≤ 64) : twoVE L M = 0 := two_ok (isv_mayR i hn) (isv_mayR j hn) i.len j.len
theorem isv_keys {L M : List ZE} {n : Nat} {f g : Nat → Int} (i : IsV L n f) (j : IsV M n g) : keys L = keys M ↔ ∀ k, k < n → f k = g k :=
  ⟨fun h k hk => i.keys j h hk, fun h => (i.congr h).same j⟩
theorem isv_noughts {L : List ZE} {n : Nat} {f : Nat → Int} (h : IsV L n f) : noughts L = true ↔ ∀ k, k < n → f k = 0 := by
  constructor
  · intro hN k hk
    unfold noughts at hN
    rw [List.all_eq_true] at hN
    have hk2 : k < L.length := by rw [h.len]; exact hk
    have h1 := hN _ (List.getElem_mem hk2)
    have h2 := h.num k _ (List.getElem?_eq_getElem hk2)
    rw [Bool.and_eq_true] at h1
    have h3 : (L[k]).l = [] := by simpa using h1.2
    rw [h3] at h2
    have h4 := limbs_eq_nil.1 h2.2.symm
    omega
  · intro hf
    refine noughts_yes h.len fun k e hk he => ?_
    have h2 := h.num k e he
    rw [hf k hk] at h2
    exact ⟨by rw [h2.1]; rfl, by rw [h2.2]; exact limbs_zero⟩
section
variable {A A2 B B2 : Option Addr} {n c m d nb cb na ca g1 g2 g3 g4 k : Nat} {L M : List ZE} {w W : World} {z y : Int}
variable {f g : Nat → Int}
theorem numZ1 {B : Option Addr} (h : ZNm w B nb cb z) (lb : nb ≤ 60) : Z1 w B nb cb (limbs z.natAbs) := ⟨h.rd, by omega, h.nc, h.cm⟩
theorem dotR (h : V1 w A n c L) (h2 : V1 w A2 n d M) (i : IsV L n f) (j : IsV M n g) (hn : n ≤ 64) : Calls Tryz.prog 17 #[.slice A n c, .slice A2 n d] w (ZAns w (sumTo (fun i => f i * g i) n) 0) := by
  have hc := dotV_is A A2 n c n d L M w h h2
  rw [isv_two i j hn, if_pos rfl, sumTo_congr (g := fun i => f i * g i) fun k hk => by rw [i.zat hk, j.zat hk]] at hc
  exact hc
theorem addR (h : V1 w A n c L) (h2 : V1 w A2 n d M) (i : IsV L n f) (j : IsV M n g) (hn : n ≤ 64) : Calls Tryz.prog 10 #[.slice A n c, .slice A2 n d] w (TAns w n (fun i => f i + g i)) := by
  have hc := addV_is A A2 n c n d L M w h h2
  rw [isv_two i j hn, show decide ((0 : Int) = 0) = true from rfl] at hc
  exact hc.mono fun e w' ha => ha.t fun k hk => by rw [i.zat hk, j.zat hk]
theorem scaleR (h : V1 w A n c L) (hb : ZNm w B nb cb z) (lb : nb ≤ 60) (i : IsV L n f) (hn : n ≤ 64) : Calls Tryz.prog 20 #[.slice A n c, .agg #[.bool (decide (z < 0)), .slice B nb cb]] w (TAns w n (fun i => f i * z)) := by
  have hc := scaleV_is A B n c nb cb (decide (z < 0)) (limbs z.natAbs) L w h (numZ1 hb lb) lb
  rw [isv_mayR i hn, mayZ_num, Bool.and_true] at hc
  exact hc.mono fun e w' ha => ha.t fun k hk => by rw [i.zat hk, zof_num]
theorem mixR (h : V1 w A n c L) (h2 : V1 w A2 n d M) (hb : ZNm w B nb cb z) (hb2 : ZNm w B2 na ca y) (lb : nb ≤ 60) (lb2 : na ≤ 60) (i : IsV L n f) (j : IsV M n g) (hn : n ≤ 64) : Calls Tryz.prog 22 #[.agg #[.bool (decide (z < 0)), .slice B nb cb], .slice A n c, .agg #[.bool (decide (y < 0)), .slice B2 na ca], .slice A2 n d] w (TAns w n (fun i => z * f i + y * g i)) := by
  have hc := mixV_is A A2 B B2 n c n d nb cb na ca (decide (z < 0)) (decide (y < 0)) (limbs z.natAbs) (limbs y.natAbs) L M w h h2 (numZ1 hb lb) (numZ1 hb2 lb2) lb lb2
  rw [isv_two i j hn, mayZ_num, mayZ_num, Bool.and_true, show decide ((0 : Int) = 0) = true from rfl, Bool.and_true] at hc
  exact hc.mono fun e w' ha => ha.t fun k hk => by rw [i.zat hk, j.zat hk, zof_num, zof_num]
theorem cmpR (h : V1 w A n c L) (h2 : V1 w A2 n d M) (i : IsV L n f) (j : IsV M n g) (hn : n ≤ 64) : Calls Tryz.prog 9 #[.slice A n c, .slice A2 n d] w (IAns w (firstTo (fun i => sgn (f i - g i)) n) 0) := by
  have hc := cmpV_is A A2 n c n d L M w h h2
  rw [isv_two i j hn, if_pos rfl, firstTo_congr (g := fun i => sgn (f i - g i)) fun k hk => by rw [i.zat hk, j.zat hk]] at hc
  exact hc
theorem sameR {p : Prop} [Decidable p] (h : V1 w A n c L) (h2 : V1 w A2 m d M) (hp : keys L = keys M ↔ p) : Calls Tryz.prog 31 #[.slice A n c, .slice A2 m d] w fun e w' => e = .returned (.bool (decide p)) ∧ Below w.heap.size w w' := by
  have hc := sameV_is A A2 n c m d L M w h h2
  rw [decide_eq_decide.2 hp] at hc
  exact hc
theorem rsameR {p : Prop} [Decidable p] (h : V1 w A n c L) (h2 : V1 w A2 m d M) (hp : keys L = keys M ↔ p) : Calls Tryz.prog 12 #[.slice A n c, .slice A2 m d] w fun e w' => e = .returned (.bool (decide p)) ∧ Below w.heap.size w w' := by
  have hc := rSameV_any A A2 n c m d L M w h h2
  rw [decide_eq_decide.2 hp] at hc
  exact hc
theorem rsameT (h : V1 w A n c L) (h2 : V1 w A2 m d M) (hk : keys L = keys M) : Calls Tryz.prog 12 #[.slice A n c, .slice A2 m d] w fun e w' => e = .returned (.bool true) ∧ Below w.heap.size w w' := by
  have hc := rSameV_any A A2 n c m d L M w h h2
  rw [decide_eq_true hk] at hc
  exact hc
theorem zeroR {p : Prop} [Decidable p] (h : V1 w A n c L) (hp : noughts L = true ↔ p) : Calls Tryz.prog 29 #[.slice A n c] w fun e w' => e = .returned (.bool (decide p)) ∧ Below w.heap.size w w' := by
  have hc := zeroV_is A n c L w h
  rw [show noughts L = decide p by rw [Bool.eq_iff_iff, decide_eq_true_iff]; exact hp] at hc
  exact hc
end
end Go.Proofs.YtgiokmfdafmaoaaGreat

/- Numbers and boxes of a law over rows. -/
namespace Go.Proofs.YtgiokmfdafmaoaaGreat
open Go.RowKit Go.Shelf
set_option linter.unusedVariables false
set_option linter.unusedSimpArgs false

structure IN where
  z : Int
  A : Option Addr
  n : Nat
  c : Nat
def HeldN (W : World) (l : List IN) : Prop := ∀ i, i ∈ l → ZNm W i.A i.n i.c i.z ∧ i.n ≤ 60
theorem heldn_nil (W : World) : HeldN W [] := fun i hi => by cases hi
theorem HeldN.next {W W' : World} {l : List IN} (h : HeldN W l) (hb : Below W.heap.size W W') : HeldN W' l := fun i hi => ⟨(h i hi).1.below hb, (h i hi).2⟩
theorem HeldN.cons {W : World} {l : List IN} {A : Option Addr} {n c : Nat} {z : Int} (h : HeldN W l) (hi : ZNm W A n c z) (hn : n ≤ 60) : HeldN W (⟨z, A, n, c⟩ :: l) := fun j hj => by
  rcases List.mem_cons.1 hj with rfl | hj
  · exact ⟨hi, hn⟩
  · exact h j hj
structure IX where
  g : Nat
  p : Bool
  A : Option Addr
  n : Nat
  c : Nat
def HeldX (W : World) (l : List IX) : Prop := ∀ i, i ∈ l → BoxZ W i.g i.p i.A i.n i.c
theorem heldx_nil (W : World) : HeldX W [] := fun i hi => by cases hi
theorem HeldX.next {W W' : World} {l : List IX} (h : HeldX W l) (hb : Below W.heap.size W W') : HeldX W' l := fun i hi => (h i hi).below hb (Array.getElem?_eq_some_iff.1 (h i hi)).1
theorem HeldX.cons {W : World} {l : List IX} {g : Nat} {p : Bool} {A : Option Addr} {n c : Nat} (h : HeldX W l) (hi : BoxZ W g p A n c) : HeldX W (⟨g, p, A, n, c⟩ :: l) := fun j hj => by
  rcases List.mem_cons.1 hj with rfl | hj
  · exact hi
  · exact h j hj
section
variable {A A2 B B2 : Option Addr} {n c m d nb cb na ca g1 g2 g3 g4 k : Nat} {L M : List ZE} {w W : World} {z y : Int}
variable {f g : Nat → Int} {s : Int}
theorem ofK_any {g : Nat} {cs : Array Value} {T : TypeId} (X : List Int) (n : Nat) (hn : X.length = n) (hg : w.heap[g]? = some (.cells cs T)) (hc : cs.toList = X.map (Value.int .i64)) (hX : ∀ x, x ∈ X → -1000 ≤ x ∧ x ≤ 1000) (hl : n ≤ 60) : Calls Tryz.prog 7 #[.slice (some ⟨g, 0, none⟩) n n] w (NAns w n (iat X)) := by
  subst hn
  exact ofL_any X hg hc hX hl
theorem iatK_bd {X : List Int} (n : Nat) (hn : X.length = n) (hX : ∀ x, x ∈ X → -1000 ≤ x ∧ x ≤ 1000) : BdV 1 n (iat X) := by
  subst hn
  exact iat_bd hX
theorem wofS {m k : Int} (W : World) (hm : m = k) (h1 : -1000 ≤ k) (h2 : k ≤ 1000) : Calls Tryz.prog 34 #[.int .i64 k] W (ZOne W m) := by
  subst hm
  exact wOf_any m (by omega) (by omega)
theorem dotS (h : V1 w A n c L) (h2 : V1 w A2 n d M) (i : IsV L n f) (j : IsV M n g) (hn : n ≤ 64) (e : sumTo (fun i => f i * g i) n = s) : Calls Tryz.prog 17 #[.slice A n c, .slice A2 n d] w (ZAns w s 0) := by
  rw [← e]
  exact dotR h h2 i j hn
theorem small_bd {k : Int} (h : s = k) (h1 : -1000 ≤ k) (h2 : k ≤ 1000) : Bd 60 s := by
  subst h
  have h3 : Bd 1 s := by
    unfold Bd
    have h4 : B64 ^ 1 = 18446744073709551616 := by rw [Nat.pow_one, B64_eq]
    omega
  exact h3.mono (by omega)
end
end Go.Proofs.YtgiokmfdafmaoaaGreat

/- Rows that came in, and a law's guards. -/
namespace Go.Proofs.YtgiokmfdafmaoaaGreat
open Go.RowKit Go.Shelf
set_option linter.unusedVariables false
set_option linter.unusedSimpArgs false

/-- A row that came in. -/
structure RV (w : World) (A : Option Addr) (n c : Nat) (L : List ZE) : Prop where
  rd : RdV w A n L
  c1 : n ≤ c
  c2 : c ≤ 9223372036854775807
  nil0 : ∀ e, e ∈ L → e.A = none → e.n = 0 ∧ e.c = 0
theorem RV.below {w w' : World} {A : Option Addr} {n c : Nat} {L : List ZE} (h : RV w A n c L) (hb : Below w.heap.size w w') : RV w' A n c L := ⟨h.rd.below hb, h.c1, h.c2, h.nil0⟩
theorem RV.great {w : World} {A : Option Addr} {n c : Nat} {L : List ZE} (h : RV w A n c L) (many limbs : Nat) : Calls Tryz.prog 15 #[.slice A n c, .int .i64 (many : Int), .int .i64 (limbs : Int)] w fun e w' => e = .returned (.bool (greatV L many limbs)) ∧ Below w.heap.size w w' :=
  greatV_any h.rd (Nat.le_trans h.c1 h.c2) (fun e he => Nat.le_trans (h.rd.ok e he).c1 (h.rd.ok e he).c2)
theorem RV.great20 {w : World} {A : Option Addr} {n c : Nat} {L : List ZE} (h : RV w A n c L) : Calls Tryz.prog 15 #[.slice A n c, .int .i64 20, .int .i64 10] w fun e w' => e = .returned (.bool (greatV L 20 10)) ∧ Below w.heap.size w w' := h.great 20 10
theorem RV.great80 {w : World} {A : Option Addr} {n c : Nat} {L : List ZE} (h : RV w A n c L) : Calls Tryz.prog 15 #[.slice A n c, .int .i64 80, .int .i64 3] w fun e w' => e = .returned (.bool (greatV L 80 3)) ∧ Below w.heap.size w w' := h.great 80 3
theorem RV.v1 {w : World} {A : Option Addr} {n c many limbs : Nat} {L : List ZE} (h : RV w A n c L) (hg : greatV L many limbs = false) (h1 : many ≤ 1000) (h2 : limbs ≤ 60) : V1 w A n c L := by
  obtain ⟨k1, k2⟩ := great_no hg
  rw [h.rd.len] at k1
  exact ⟨h.rd, h.c1, h.c2, by omega, fun e he => Nat.le_trans (k2 e he) h2, h.nil0⟩
/-- A call answered a number, whatever it is, and the error E. -/
def WNum (w : World) (E : Int) (e : Ending) (w' : World) : Prop := ∃ (p : Bool) (A : Option Addr) (n c : Nat), e = .returned (.tuple #[.agg #[.bool p, .slice A n c], .int .i64 E]) ∧ Below w.heap.size w w'
def WRow (w : World) (E : Int) (e : Ending) (w' : World) : Prop := ∃ (A : Option Addr) (n c : Nat), e = .returned (.tuple #[.slice A n c, .int .i64 E]) ∧ Below w.heap.size w w'
theorem VAns.w {w w' : World} {ok : Bool} {n : Nat} {f : Nat → Int} {E F : Int} {e : Ending} (h : VAns w ok n f E e w') (hF : F = if ok then 0 else E) : WRow w F e w' := by
  unfold VAns at h
  cases ok with
  | true =>
    rw [if_pos rfl] at h hF
    subst hF
    obtain ⟨A, c, L, he, hN, hb⟩ := h
    exact ⟨A, n, c, he, hb⟩
  | false =>
    rw [if_neg (by decide)] at h hF
    subst hF
    exact ⟨none, 0, 0, h.1, h.2⟩
section
variable {A A2 B B2 : Option Addr} {n c m d nb cb na ca g1 g2 g3 g4 k : Nat} {L M : List ZE} {w W : World} {z y : Int}
theorem dotW (h : V1 w A n c L) (h2 : V1 w A2 m d M) : Calls Tryz.prog 17 #[.slice A n c, .slice A2 m d] w (WNum w (twoVE L M)) :=
  (dotV_is A A2 n c m d L M w h h2).mono fun e w' ⟨A', k, c', he, _, hb⟩ => ⟨_, A', k, c', he, hb⟩
theorem addW (h : V1 w A n c L) (h2 : V1 w A2 m d M) : Calls Tryz.prog 10 #[.slice A n c, .slice A2 m d] w (WRow w (twoVE L M)) :=
  (addV_is A A2 n c m d L M w h h2).mono fun e w' h => h.w (by by_cases hz : twoVE L M = 0 <;> simp [hz])
theorem cmpW (h : V1 w A n c L) (h2 : V1 w A2 m d M) : Calls Tryz.prog 9 #[.slice A n c, .slice A2 m d] w (IAns w (if twoVE L M = 0 then firstTo (fun i => sgn (zat L i - zat M i)) n else 0) (twoVE L M)) := cmpV_is A A2 n c m d L M w h h2
theorem mixW {p q : Bool} {a b : List Nat} {E : Int} (h : V1 w A n c L) (h2 : V1 w A2 m d M) (ha : Z1 w B na ca a) (hb : Z1 w B2 nb cb b) (la : na ≤ 60) (lb : nb ≤ 60) (hE : E = if mayZ p a && mayZ q b then twoVE L M else 8) : Calls Tryz.prog 22 #[.agg #[.bool p, .slice B na ca], .slice A n c, .agg #[.bool q, .slice B2 nb cb], .slice A2 m d] w (WRow w E) :=
  (mixV_is A A2 B B2 n c m d na ca nb cb p q a b L M w h h2 ha hb la lb).mono fun e w' h => h.w (by
    rw [hE]
    by_cases hm : (mayZ p a && mayZ q b) = true
    · by_cases hz : twoVE L M = 0 <;> simp [hm, hz]
    · simp [hm])
theorem cmpS {f g : Nat → Int} {s : Int} (h : V1 w A n c L) (h2 : V1 w A2 n d M) (i : IsV L n f) (j : IsV M n g) (hn : n ≤ 64) (e : firstTo (fun i => sgn (f i - g i)) n = s) : Calls Tryz.prog 9 #[.slice A n c, .slice A2 n d] w (IAns w s 0) := by
  rw [← e]
  exact cmpR h h2 i j hn
theorem sameB (h : V1 w A n c L) (h2 : V1 w A2 m d M) (t : Bool) (hp : keys L = keys M ↔ t = true) : Calls Tryz.prog 31 #[.slice A n c, .slice A2 m d] w fun e w' => e = .returned (.bool t) ∧ Below w.heap.size w w' := by
  have hc := sameR h h2 hp
  rwa [show decide (t = true) = t by cases t <;> rfl] at hc
theorem zeroB (h : V1 w A n c L) (t : Bool) (hp : noughts L = true ↔ t = true) : Calls Tryz.prog 29 #[.slice A n c] w fun e w' => e = .returned (.bool t) ∧ Below w.heap.size w w' := by
  have hc := zeroR h hp
  rwa [show decide (t = true) = t by cases t <;> rfl] at hc
end
end Go.Proofs.YtgiokmfdafmaoaaGreat

/- vec's Content and Prime of rows that may be. -/
namespace Go.Proofs.YtgiokmfdafmaoaaGreat
open Go.RowKit Go.Shelf
set_option linter.unusedVariables false
set_option linter.unusedSimpArgs false

section
variable {A A2 B B2 : Option Addr} {n c m d nb cb na ca g1 g2 g3 g4 k : Nat} {L M : List ZE} {w W : World} {z y : Int}
variable {f g : Nat → Int}
theorem contentR (h : V1 w A n c L) (i : IsV L n f) (hn : n ≤ 64) : Calls Tryz.prog 6 #[.slice A n c] w (Answers w (limbs (gcdTo f n)) 0) := by
  have hc := contentV_is A n c L w h
  rw [isv_mayR i hn, if_pos rfl, if_pos rfl, gcdTo_congr (g := f) fun k hk => by rw [i.zat hk]] at hc
  exact hc
theorem primeV_congr (hfg : ∀ i, i < n → f i = g i) {k : Nat} (hk : k < n) : primeV f n k = primeV g n k := by
  unfold primeV
  rw [gcdTo_congr (g := g) fun i hi => by rw [hfg i hi], hfg k hk]
theorem primeR (h : V1 w A n c L) (i : IsV L n f) (hn : n ≤ 64) : Calls Tryz.prog 8 #[.slice A n c] w (TAns w n (primeV f n)) := by
  have hc := primeV_is A n c L w h
  rw [isv_mayR i hn] at hc
  exact hc.mono fun e w' ha => ha.t fun k hk => primeV_congr (fun i2 hi => i.zat hi) hk
theorem prime_bd {j : Nat} (h : BdV j n f) : BdV j n (primeV f n) := fun k hk => by
  by_cases h0 : gcdTo f n = 0
  · rw [(prime_none h0 hk).1]; exact h k hk
  · have h1 := prime_back (f := f) hk
    have h2 := h k hk
    unfold Bd at *
    rw [← h1, Int.natAbs_mul] at h2
    have h3 : 1 * (primeV f n k).natAbs ≤ ((gcdTo f n : Nat) : Int).natAbs * (primeV f n k).natAbs := Nat.mul_le_mul_right _ (by omega)
    omega
end
end Go.Proofs.YtgiokmfdafmaoaaGreat

/- What vec's calls and the document's answer alike. -/
namespace Go.Proofs.YtgiokmfdafmaoaaGreat
open Go.RowKit Go.Shelf
set_option linter.unusedVariables false
set_option linter.unusedSimpArgs false

/-- The keys of f's first n values. -/
def keysOf (f : Nat → Int) (n : Nat) : List (Bool × List Nat) := (List.range n).map (numK f)
theorem isv_keysOf {L : List ZE} {n : Nat} {f : Nat → Int} (h : IsV L n f) : keys L = keysOf f n := by
  unfold keys keysOf
  apply List.ext_getElem?
  intro i
  rw [List.getElem?_map, List.getElem?_map]
  by_cases hi : i < n
  · have h1 := List.getElem?_eq_getElem (show i < L.length by rw [h.len]; exact hi)
    rw [h1, List.getElem?_range hi]
    have h2 := h.num i _ h1
    show some (ZE.key _) = some (numK f i)
    unfold ZE.key numK
    rw [h2.1, h2.2]
  · rw [List.getElem?_eq_none (by rw [h.len]; omega), List.getElem?_eq_none (by rw [List.length_range]; omega)]
    rfl
/-- A call answered the row of these keys, and the error E. -/
def RAns (w : World) (K : List (Bool × List Nat)) (E : Int) (e : Ending) (w' : World) : Prop := ∃ (A : Option Addr) (n c : Nat) (L : List ZE), e = .returned (.tuple #[.slice A n c, .int .i64 E]) ∧ V1 w' A n c L ∧ keys L = K ∧ Below w.heap.size w w'
theorem v1_nil (w : World) : V1 w none 0 0 [] := ⟨rdv_nil _ _, Nat.le_refl _, Nat.zero_le _, Nat.zero_le _, (fun e he => by cases he), (fun e he => by cases he)⟩
theorem VAns.k {w w' : World} {ok : Bool} {n j : Nat} {f : Nat → Int} {E : Int} {e : Ending} (h : VAns w ok n f E e w') (hb : ok = true → BdV j n f) (hj : j ≤ 60) (hn : n ≤ 1000) : RAns w (if ok then keysOf f n else []) (if ok then 0 else E) e w' := by
  unfold VAns at h
  cases ok with
  | true =>
    rw [if_pos rfl] at h
    obtain ⟨A, c, L, he, hN, hw⟩ := h
    exact ⟨A, n, c, L, he, hN.v1 (hb rfl) hj hn, isv_keysOf hN.v, hw⟩
  | false =>
    rw [if_neg (by decide)] at h
    exact ⟨none, 0, 0, [], h.1, v1_nil _, rfl, h.2⟩
theorem wrapE2 (E : Int) (h1 : 0 ≤ E) (h2 : E ≤ 1000) : IntKind.i64.wrap E = E := by rw [IntKind.wrap_i64]; omega
theorem two_bd (L M : List ZE) : 0 ≤ twoVE L M ∧ twoVE L M ≤ 1000 := by unfold twoVE; split <;> (try split) <;> omega
theorem V1.own {w w1 : World} {B n c j : Nat} {A A1 : Option Addr} {c1 : Nat} {L K : List ZE} (h : V1 w A1 n c1 L) (o : OwnV w1 B A n c K) (hk : keys K = keys L) : V1 w1 A n c K := by
  refine ⟨o.rd, o.cap.1, o.cap.2, h.few, fun e he => ?_, fun e he => own_none (o.el e he)⟩
  obtain ⟨i, hi⟩ := List.getElem?_of_mem he
  have h1 := keys_get hk i
  rw [hi] at h1
  cases hL : L[i]? with
  | none => rw [hL] at h1; cases h1
  | some x =>
    rw [hL] at h1
    have h2 := (key_iff e x).1 (by simpa using h1)
    have h3 := h.small x (List.mem_of_getElem? hL)
    have h4 := (h.rd.ok x (List.mem_of_getElem? hL)).r.len
    have h5 := (o.el e he).rd.1.len
    rw [← h5, h2.2, h4]
    exact h3
section
variable {A A2 B B2 : Option Addr} {n c m d nb cb na ca g1 g2 g3 g4 k : Nat} {L M : List ZE} {w W : World} {z y : Int}
variable {La Lb : List ZE} {p q : Bool} {a b : List Nat}
/-- vec's calls of a row of the same keys, the document's of the row itself. -/
abbrev Both2 (V R : Nat) (w : World) (A A2 : Option Addr) (n c m d : Nat) (La : List ZE) (P : World → Ending → World → Prop) : Prop :=
  (∀ (W : World) (Ao : Option Addr) (co : Nat) (Lo : List ZE), Below w.heap.size w W → V1 W Ao n co Lo → keys Lo = keys La → Calls Tryz.prog V #[.slice Ao n co, .slice A2 m d] W (P W)) ∧ (∀ W, Below w.heap.size w W → Calls Tryz.prog R #[.slice A n c, .slice A2 m d] W (P W))
abbrev Both1 (V R : Nat) (w : World) (A : Option Addr) (n c : Nat) (La : List ZE) (P : World → Ending → World → Prop) : Prop :=
  (∀ (W : World) (Ao : Option Addr) (co : Nat) (Lo : List ZE), Below w.heap.size w W → V1 W Ao n co Lo → keys Lo = keys La → Calls Tryz.prog V #[.slice Ao n co] W (P W)) ∧ (∀ W, Below w.heap.size w W → Calls Tryz.prog R #[.slice A n c] W (P W))
theorem both_num (ha : V1 w A n c La) (hb : V1 w A2 m d Lb) (sa : ∀ e, e ∈ La → e.n ≤ 3) (sb : ∀ e, e ∈ Lb → e.n ≤ 3) (he : twoVE La Lb = 0) : BdV 3 n (zat La) ∧ BdV 3 n (zat Lb) := by
  obtain ⟨hm1, hm2, hl⟩ := two_may he
  have hnm : m = n := by rw [← hb.rd.len, ← hl, ha.rd.len]
  subst hnm
  exact ⟨ha.bdk hm1 sa, hb.bdk hm2 sb⟩
theorem dotTw (ha : V1 w A n c La) (hb : V1 w A2 m d Lb) (sa : ∀ e, e ∈ La → e.n ≤ 3) (sb : ∀ e, e ∈ Lb → e.n ≤ 3) : ∃ z E, Bd 60 z ∧ IntKind.i64.wrap E = E ∧ Both2 17 18 w A A2 n c m d La (fun W => ZAns W z E) := by
  refine ⟨_, twoVE La Lb, ?_, wrapE2 _ (two_bd _ _).1 (two_bd _ _).2, fun W Ao co Lo hW hv hk => ?_, fun W hW => rDotV_any A A2 n c m d La Lb W (ha.below hW) (hb.below hW)⟩
  · by_cases he : twoVE La Lb = 0
    · rw [if_pos he]
      have h1 := both_num ha hb sa sb he
      exact (sum_Bd ha.few (fun i hi => (h1.1 i hi).mul (h1.2 i hi)) (Nat.le_refl _)).mono (by omega)
    · rw [if_neg he]
      exact Nat.pow_pos B64_pos
  · have h := dotV_is Ao A2 n co m d Lo Lb W hv (hb.below hW)
    rw [keys_two hk, keys_zat hk] at h
    exact h
theorem addTw (ha : V1 w A n c La) (hb : V1 w A2 m d Lb) (sa : ∀ e, e ∈ La → e.n ≤ 3) (sb : ∀ e, e ∈ Lb → e.n ≤ 3) : ∃ K E, IntKind.i64.wrap E = E ∧ Both2 10 19 w A A2 n c m d La (fun W => RAns W K E) := by
  have hB : decide (twoVE La Lb = 0) = true → BdV 4 n (fun i => zat La i + zat Lb i) := fun he i hi => by
    have h1 := both_num ha hb sa sb (of_decide_eq_true he)
    exact (h1.1 i hi).add (h1.2 i hi)
  have h2 := two_bd La Lb
  refine ⟨_, if decide (twoVE La Lb = 0) then 0 else twoVE La Lb, wrapE2 _ (by split <;> omega) (by split <;> omega), fun W Ao co Lo hW hv hk => ?_, fun W hW => (rAddV_any A A2 n c m d La Lb W (ha.below hW) (hb.below hW)).mono fun e w' h => h.k hB (by omega) ha.few⟩
  have h := addV_is Ao A2 n co m d Lo Lb W hv (hb.below hW)
  rw [keys_two hk, keys_zat hk] at h
  exact h.mono fun e w' h => h.k hB (by omega) ha.few
theorem cmpTw (ha : V1 w A n c La) (hb : V1 w A2 m d Lb) : ∃ s E, IntKind.i64.wrap E = E ∧ Both2 9 26 w A A2 n c m d La (fun W => IAns W s E) := by
  refine ⟨_, twoVE La Lb, wrapE2 _ (two_bd _ _).1 (two_bd _ _).2, fun W Ao co Lo hW hv hk => ?_, fun W hW => rCmpV_any A A2 n c m d La Lb W (ha.below hW) (hb.below hW)⟩
  have h := cmpV_is Ao A2 n co m d Lo Lb W hv (hb.below hW)
  rw [keys_two hk, keys_zat hk] at h
  exact h
theorem sameTw (ha : V1 w A n c La) (hb : V1 w A2 m d Lb) : ∃ t : Bool, Both2 31 12 w A A2 n c m d La (fun W e w' => e = .returned (.bool t) ∧ Below W.heap.size W w') := by
  refine ⟨_, fun W Ao co Lo hW hv hk => ?_, fun W hW => rSameV_any A A2 n c m d La Lb W (ha.below hW) (hb.below hW)⟩
  have h := sameV_is Ao A2 n co m d Lo Lb W hv (hb.below hW)
  rw [hk] at h
  exact h
theorem contentTw (ha : V1 w A n c La) (sa : ∀ e, e ∈ La → e.n ≤ 3) : ∃ g E, g < B64 ^ 60 ∧ IntKind.i64.wrap E = E ∧ Both1 6 24 w A n c La (fun W => Answers W (limbs g) E) := by
  have hc : ∀ x : Nat, (if mayR La then limbs x else []) = limbs (if mayR La then x else 0) := fun x => by split <;> simp [limbs_zero]
  refine ⟨if mayR La then gcdTo (zat La) n else 0, if mayR La then 0 else 8, ?_, wrapE2 _ (by split <;> omega) (by split <;> omega), fun W Ao co Lo hW hv hk => ?_, fun W hW => ?_⟩
  · split
    · next hm => exact gcdTo_bd (ha.bd hm) n (Nat.le_refl _)
    · exact Nat.pow_pos B64_pos
  · have h := contentV_is Ao n co Lo W hv
    rw [keys_mayR hk, keys_zat hk, hc] at h
    exact h
  · have h := rContentV_any A n c La W (ha.below hW)
    rw [hc] at h
    exact h
theorem primeTw (ha : V1 w A n c La) (sa : ∀ e, e ∈ La → e.n ≤ 3) : ∃ K E, IntKind.i64.wrap E = E ∧ Both1 8 25 w A n c La (fun W => RAns W K E) := by
  have hB : mayR La = true → BdV 3 n (primeV (zat La) n) := fun hm => prime_bd (ha.bdk hm sa)
  refine ⟨_, if mayR La then 0 else 8, wrapE2 _ (by split <;> omega) (by split <;> omega), fun W Ao co Lo hW hv hk => ?_, fun W hW => (rPrimeV_any A n c La W (ha.below hW)).mono fun e w' h => h.k hB (by omega) ha.few⟩
  have h := primeV_is Ao n co Lo W hv
  rw [keys_mayR hk, keys_zat hk] at h
  exact h.mono fun e w' h => h.k hB (by omega) ha.few
theorem checkTw (ha : V1 w A n c La) : ∃ E, IntKind.i64.wrap E = E ∧ Both1 14 28 w A n c La (fun W e w' => e = .returned (.int .i64 E) ∧ Below W.heap.size W w') := by
  refine ⟨if mayR La then 0 else 8, wrapE2 _ (by split <;> omega) (by split <;> omega), fun W Ao co Lo hW hv hk => ?_, fun W hW => rCheckV_any (ha.below hW)⟩
  have h := checkV_any hv
  rw [keys_mayR hk] at h
  exact h
theorem zeroTw (ha : V1 w A n c La) : ∃ t : Bool, Both1 29 30 w A n c La (fun W e w' => e = .returned (.bool t) ∧ Below W.heap.size W w') := by
  refine ⟨_, fun W Ao co Lo hW hv hk => ?_, fun W hW => rZeroV_any A n c La W (ha.below hW)⟩
  have h := zeroV_is Ao n co Lo W hv
  rw [keys_noughts hk] at h
  exact h
theorem scaleTw (ha : V1 w A n c La) (sa : ∀ e, e ∈ La → e.n ≤ 3) (hz : Z1 w B nb cb b) (l3 : nb ≤ 3) : ∃ K E, IntKind.i64.wrap E = E ∧
    (∀ (W : World) (Ao : Option Addr) (co : Nat) (Lo : List ZE), Below w.heap.size w W → V1 W Ao n co Lo → keys Lo = keys La → Calls Tryz.prog 20 #[.slice Ao n co, .agg #[.bool p, .slice B nb cb]] W (RAns W K E)) ∧
    (∀ W, Below w.heap.size w W → Calls Tryz.prog 21 #[.slice A n c, .agg #[.bool p, .slice B nb cb]] W (RAns W K E)) := by
  have hB : (mayR La && mayZ p b) = true → BdV 6 n (fun i => zat La i * zof p b) := fun hm i hi => by
    rw [Bool.and_eq_true] at hm
    exact (ha.bdk hm.1 sa i hi).mul (Bd.of (z1_num hz hm.2).1 l3)
  refine ⟨_, if (mayR La && mayZ p b) then 0 else 8, wrapE2 _ (by split <;> omega) (by split <;> omega), fun W Ao co Lo hW hv hk => ?_, fun W hW => (rScaleV_any A B n c nb cb p b La W (ha.below hW) ⟨hz.ra.below hW, hz.la, hz.ca1, hz.ca2⟩ (by omega)).mono fun e w' h => h.k hB (by omega) ha.few⟩
  have h := scaleV_is Ao B n co nb cb p b Lo W hv ⟨hz.ra.below hW, hz.la, hz.ca1, hz.ca2⟩ (by omega)
  rw [keys_mayR hk, keys_zat hk] at h
  exact h.mono fun e w' h => h.k hB (by omega) ha.few
theorem mixTw (ha : V1 w A n c La) (hb : V1 w A2 m d Lb) (sa : ∀ e, e ∈ La → e.n ≤ 3) (sb : ∀ e, e ∈ Lb → e.n ≤ 3) (hz : Z1 w B nb cb a) (hy : Z1 w B2 na ca b) (l3 : nb ≤ 3) (l4 : na ≤ 3) : ∃ K E, IntKind.i64.wrap E = E ∧
    (∀ (W : World) (Ao : Option Addr) (co : Nat) (Lo : List ZE), Below w.heap.size w W → V1 W Ao n co Lo → keys Lo = keys La → Calls Tryz.prog 22 #[.agg #[.bool p, .slice B nb cb], .slice Ao n co, .agg #[.bool q, .slice B2 na ca], .slice A2 m d] W (RAns W K E)) ∧
    (∀ W, Below w.heap.size w W → Calls Tryz.prog 23 #[.agg #[.bool p, .slice B nb cb], .slice A n c, .agg #[.bool q, .slice B2 na ca], .slice A2 m d] W (RAns W K E)) := by
  have hB : (mayZ p a && mayZ q b && decide (twoVE La Lb = 0)) = true → BdV 7 n (fun i => zof p a * zat La i + zof q b * zat Lb i) := fun hm i hi => by
    rw [Bool.and_eq_true, Bool.and_eq_true] at hm
    have h1 := both_num ha hb sa sb (of_decide_eq_true hm.2)
    exact ((Bd.of (z1_num hz hm.1.1).1 l3).mul (h1.1 i hi)).add ((Bd.of (z1_num hy hm.1.2).1 l4).mul (h1.2 i hi))
  have h2 := two_bd La Lb
  refine ⟨_, if (mayZ p a && mayZ q b && decide (twoVE La Lb = 0)) then 0 else (if mayZ p a && mayZ q b then twoVE La Lb else 8), wrapE2 _ (by split <;> (try split) <;> omega) (by split <;> (try split) <;> omega), fun W Ao co Lo hW hv hk => ?_, fun W hW => (rMixV_any A A2 B B2 n c m d nb cb na ca p q a b La Lb W (ha.below hW) (hb.below hW) ⟨hz.ra.below hW, hz.la, hz.ca1, hz.ca2⟩ ⟨hy.ra.below hW, hy.la, hy.ca1, hy.ca2⟩ (by omega) (by omega)).mono fun e w' h => h.k hB (by omega) ha.few⟩
  have h := mixV_is Ao A2 B B2 n co m d nb cb na ca p q a b Lo Lb W hv (hb.below hW) ⟨hz.ra.below hW, hz.la, hz.ca1, hz.ca2⟩ ⟨hy.ra.below hW, hy.la, hy.ca1, hy.ca2⟩ (by omega) (by omega)
  rw [keys_two hk, keys_zat hk] at h
  exact h.mono fun e w' h => h.k hB (by omega) ha.few
end
end Go.Proofs.YtgiokmfdafmaoaaGreat

/- The law VecTells. -/
namespace Go.Proofs.YtgiokmfdafmaoaaGreat
open Go.RowKit Go.Shelf
set_option linter.unusedVariables false
set_option linter.unusedSimpArgs false

/-- A row of the call's own, whose numbers' limbs may turn. -/
structure TwR (W : World) (B : Nat) (A : Option Addr) (n c : Nat) (L : List ZE) : Prop where
  row : W.ownsRow B zT 2 (.slice A n c) n (flat L)
  len : L.length = n
  el : ∀ e, e ∈ L → ∃ l, Own W B (.slice e.A e.n e.c) l
section
variable {W : World} {B n c : Nat} {A : Option Addr} {L : List ZE}
theorem OwnV.tw (h : OwnV W B A n c L) : TwR W B A n c L := ⟨h.row, h.len, fun e he => ⟨_, h.el e he⟩⟩
theorem TwR.below {W' : World} (h : TwR W B A n c L) (hb : Below W.heap.size W W') : TwR W' B A n c L := ⟨ownsRow_below h.row hb, h.len, fun e he => by
  obtain ⟨l, hl⟩ := h.el e he
  exact ⟨l, hl.below hb⟩⟩
theorem own_put {g i v : Nat} {x : ZE} {l : List Nat} (h : Own W B (.slice x.A x.n x.c) l) (hv : v < B64) : ∃ l', Own (W.setCell ⟨g, i, none⟩ (u64 v)) B (.slice x.A x.n x.c) l' := by
  have hlen := h.rd.2.1
  rcases h.1.2 with ⟨e, h0⟩ | ⟨b, cap, cur, e, hg, hh, hnc, hc, hs, ht⟩
  · exact ⟨l, ⟨h.1.1, .inl ⟨e, h0⟩⟩, h.2⟩
  · by_cases hbg : b = g
    · subst hbg
      refine ⟨l.set i v, ⟨⟨by simp, .inr ⟨b, cap, cur.setIfInBounds i (u64 v), ?_, hg, ?_, ?_, hc, by simpa using hs, ?_⟩⟩, words_set h.2 hv⟩⟩
      · rw [List.length_set]; exact e
      · simp [World.setCell, Array.getElem?_modify, hh]
      · rw [List.length_set]; exact hnc
      · rw [List.map_set, ← ht]
        simp [List.take_set]
    · exact ⟨l, ⟨h.1.1, .inr ⟨b, cap, cur, e, hg, (Below.heap_setCell _ _ _ b (show b ≠ g from hbg)).trans hh, hnc, hc, hs, ht⟩⟩, h.2⟩
theorem TwR.set (h : TwR W B A n c L) {e : ZE} (he : e ∈ L) {g : Nat} (hg : e.A = some ⟨g, 0, none⟩) (i : Nat) {v : Nat} (hv : v < B64) : TwR (W.setCell ⟨g, i, none⟩ (u64 v)) B A n c L := by
  refine ⟨⟨h.row.1, ?_⟩, h.len, fun x hx => ?_⟩
  · rcases h.row.2 with h2 | ⟨b, cap, cur, e2, hb, hh, r⟩
    · exact .inl h2
    · obtain ⟨l, hl⟩ := h.el e he
      have hbg : b ≠ g := by
        rcases ownv_apart hl h.row with h0 | h0
        · rw [hg] at h0; cases h0
        · rw [hg, e2] at h0
          intro hc
          subst hc
          exact h0 rfl
      exact .inr ⟨b, cap, cur, e2, hb, (Below.heap_setCell _ _ _ b (show b ≠ g from hbg)).trans hh, r⟩
  · obtain ⟨l, hl⟩ := h.el x hx
    exact own_put hl hv
/-- The k-th number of such a row. -/
theorem TwR.at (h : TwR W B A n c L) {k : Nat} (hk : k < n) : ∃ b e, A = some ⟨b, 0, none⟩ ∧ L[k]? = some e ∧ W.cell? ⟨b, k * 2, none⟩ = some (.bool e.p) ∧ W.cell? ⟨b, k * 2 + 1, none⟩ = some (.slice e.A e.n e.c) ∧ ∃ l, Own W B (.slice e.A e.n e.c) l := by
  have hk2 : k < L.length := by rw [h.len]; exact hk
  have he := List.getElem?_eq_getElem hk2
  rcases h.row.2 with ⟨e, h0⟩ | ⟨g, cap, cur, e2, hg, hh, r⟩
  · omega
  · cases e2
    have h2 := flat_get he
    have c0 := h.row.cells (g := g) rfl (k * 2) _ h2.1
    have c1 := h.row.cells (g := g) rfl (k * 2 + 1) _ h2.2
    rw [addr_at] at c0 c1
    exact ⟨g, _, rfl, he, c0, c1, h.el _ (List.getElem_mem hk2)⟩
theorem keysR {A2 : Option Addr} {m d : Nat} {M : List ZE} {K : List (Bool × List Nat)} (h1 : keys L = K) (h2 : keys M = K) : keys L = keys M := h1.trans h2.symm
end
set_option maxRecDepth 100000 in
set_option maxHeartbeats 4000000 in
theorem tells_long (A1 A2 B1 B2 : Option Addr) (n1 c1 n2 c2 m1 d1 m2 d2 : Nat) (La Lb : List ZE) (p q : Bool) (w : World) (ra : RV w A1 n1 c1 La) (rb : RV w A2 n2 c2 Lb) (hm : m1 ≤ 9223372036854775807) (hn : m2 ≤ 9223372036854775807) (hl : ¬ (greatV La 80 3 = false ∧ greatV Lb 80 3 = false ∧ m1 ≤ 3 ∧ m2 ≤ 3)) : Calls Tryz.prog 4 #[.slice A1 n1 c1, .slice A2 n2 c2, .agg #[.bool p, .slice B1 m1 d1], .agg #[.bool q, .slice B2 m2 d2]] w fun e w' => e = .returned (.bool true) ∧ Below w.heap.size w w' := by
  have Ga := Lib.hid (fun W (hW : Below w.heap.size w W) => (ra.below hW).great80)
  have Gb := Lib.hid (fun W (hW : Below w.heap.size w W) => (rb.below hW).great80)
  clear ra rb
  cases ka : greatV La 80 3 with
  | true =>
    have Ka := Lib.hid ka
    clear hl ka
    have KV0 := heldv_nil w
    have KN0 := heldn_nil w
    have KX0 := heldx_nil w
    have D0 := Below.refl w.heap.size w
    have KV1 := KV0.next (bxb _ (zo p B1 m1 d1))
    have KN1 := KN0.next (bxb _ (zo p B1 m1 d1))
    have KX1 := (KX0.next (bxb _ (zo p B1 m1 d1))).cons (show BoxZ _ _ p B1 m1 d1 from World.alloc_heap_new _ _)
    have D1 := below_then D0 (bxb _ (zo p B1 m1 d1))
    have KV2 := KV1.next (bxb _ (zo q B2 m2 d2))
    have KN2 := KN1.next (bxb _ (zo q B2 m2 d2))
    have KX2 := (KX1.next (bxb _ (zo q B2 m2 d2))).cons (show BoxZ _ _ q B2 m2 d2 from World.alloc_heap_new _ _)
    have D2 := below_then D1 (bxb _ (zo q B2 m2 d2))
    try simp only [World.size_alloc] at KV2
    have HV0 := Lib.hid KV2
    try simp only [World.size_alloc] at KN2
    have HN0 := Lib.hid KN2
    try simp only [World.size_alloc] at KX2
    have HX0 := Lib.hid KX2
    have HB0 := Lib.hid D2
    clear KV2 KN2 KX2 D2 KV1 KN1 KX1 D1 KV0 KN0 KX0 D0
    go_enter Tryz.func4, Tryz.ntmps4
    have xm0 := (show BoxZ _ (w.heap.size) p B1 m1 d1 from HX0.out ⟨w.heap.size, p, B1, m1, d1⟩ (.tail _ (.head _))).c0
    have xm1 := (show BoxZ _ (w.heap.size) p B1 m1 d1 from HX0.out ⟨w.heap.size, p, B1, m1, d1⟩ (.tail _ (.head _))).c1
    have xn0 := (show BoxZ _ (w.heap.size + 1) q B2 m2 d2 from HX0.out ⟨w.heap.size + 1, q, B2, m2, d2⟩ (.head _)).c0
    have xn1 := (show BoxZ _ (w.heap.size + 1) q B2 m2 d2 from HX0.out ⟨w.heap.size + 1, q, B2, m2, d2⟩ (.head _)).c1
    go_wp2_with fail
    refine (Ga.out _ HB0.out).mono ?_
    rintro e v1_ ⟨rfl, hb⟩
    rw [Ka.out]
    have HV1 := Lib.hid (HV0.out.next hb)
    have HN1 := Lib.hid (HN0.out.next hb)
    have HX1 := Lib.hid (HX0.out.next hb)
    have HB1 := Lib.hid (below_then HB0.out hb)
    clear HV0 HN0 HX0 HB0
    clear hb
    clear xm0 xm1 xn0 xn1
    have xm0 := (show BoxZ _ (w.heap.size) p B1 m1 d1 from HX1.out ⟨w.heap.size, p, B1, m1, d1⟩ (.tail _ (.head _))).c0
    have xm1 := (show BoxZ _ (w.heap.size) p B1 m1 d1 from HX1.out ⟨w.heap.size, p, B1, m1, d1⟩ (.tail _ (.head _))).c1
    have xn0 := (show BoxZ _ (w.heap.size + 1) q B2 m2 d2 from HX1.out ⟨w.heap.size + 1, q, B2, m2, d2⟩ (.head _)).c0
    have xn1 := (show BoxZ _ (w.heap.size + 1) q B2 m2 d2 from HX1.out ⟨w.heap.size + 1, q, B2, m2, d2⟩ (.head _)).c1
    go_wp2
    go_ret
    exact ⟨rfl, HB1.out⟩
  | false =>
    have Ka := Lib.hid ka
    cases kb : greatV Lb 80 3 with
    | true =>
      have Kb := Lib.hid kb
      clear hl ka kb
      have KV0 := heldv_nil w
      have KN0 := heldn_nil w
      have KX0 := heldx_nil w
      have D0 := Below.refl w.heap.size w
      have KV1 := KV0.next (bxb _ (zo p B1 m1 d1))
      have KN1 := KN0.next (bxb _ (zo p B1 m1 d1))
      have KX1 := (KX0.next (bxb _ (zo p B1 m1 d1))).cons (show BoxZ _ _ p B1 m1 d1 from World.alloc_heap_new _ _)
      have D1 := below_then D0 (bxb _ (zo p B1 m1 d1))
      have KV2 := KV1.next (bxb _ (zo q B2 m2 d2))
      have KN2 := KN1.next (bxb _ (zo q B2 m2 d2))
      have KX2 := (KX1.next (bxb _ (zo q B2 m2 d2))).cons (show BoxZ _ _ q B2 m2 d2 from World.alloc_heap_new _ _)
      have D2 := below_then D1 (bxb _ (zo q B2 m2 d2))
      try simp only [World.size_alloc] at KV2
      have HV0 := Lib.hid KV2
      try simp only [World.size_alloc] at KN2
      have HN0 := Lib.hid KN2
      try simp only [World.size_alloc] at KX2
      have HX0 := Lib.hid KX2
      have HB0 := Lib.hid D2
      clear KV2 KN2 KX2 D2 KV1 KN1 KX1 D1 KV0 KN0 KX0 D0
      go_enter Tryz.func4, Tryz.ntmps4
      have xm0 := (show BoxZ _ (w.heap.size) p B1 m1 d1 from HX0.out ⟨w.heap.size, p, B1, m1, d1⟩ (.tail _ (.head _))).c0
      have xm1 := (show BoxZ _ (w.heap.size) p B1 m1 d1 from HX0.out ⟨w.heap.size, p, B1, m1, d1⟩ (.tail _ (.head _))).c1
      have xn0 := (show BoxZ _ (w.heap.size + 1) q B2 m2 d2 from HX0.out ⟨w.heap.size + 1, q, B2, m2, d2⟩ (.head _)).c0
      have xn1 := (show BoxZ _ (w.heap.size + 1) q B2 m2 d2 from HX0.out ⟨w.heap.size + 1, q, B2, m2, d2⟩ (.head _)).c1
      go_wp2_with fail
      refine (Ga.out _ HB0.out).mono ?_
      rintro e v1_ ⟨rfl, hb⟩
      rw [Ka.out]
      have HV1 := Lib.hid (HV0.out.next hb)
      have HN1 := Lib.hid (HN0.out.next hb)
      have HX1 := Lib.hid (HX0.out.next hb)
      have HB1 := Lib.hid (below_then HB0.out hb)
      clear HV0 HN0 HX0 HB0
      clear hb
      clear xm0 xm1 xn0 xn1
      have xm0 := (show BoxZ _ (w.heap.size) p B1 m1 d1 from HX1.out ⟨w.heap.size, p, B1, m1, d1⟩ (.tail _ (.head _))).c0
      have xm1 := (show BoxZ _ (w.heap.size) p B1 m1 d1 from HX1.out ⟨w.heap.size, p, B1, m1, d1⟩ (.tail _ (.head _))).c1
      have xn0 := (show BoxZ _ (w.heap.size + 1) q B2 m2 d2 from HX1.out ⟨w.heap.size + 1, q, B2, m2, d2⟩ (.head _)).c0
      have xn1 := (show BoxZ _ (w.heap.size + 1) q B2 m2 d2 from HX1.out ⟨w.heap.size + 1, q, B2, m2, d2⟩ (.head _)).c1
      go_wp2_with fail
      refine (Gb.out _ HB1.out).mono ?_
      rintro e v2_ ⟨rfl, hb⟩
      rw [Kb.out]
      have HV2 := Lib.hid (HV1.out.next hb)
      have HN2 := Lib.hid (HN1.out.next hb)
      have HX2 := Lib.hid (HX1.out.next hb)
      have HB2 := Lib.hid (below_then HB1.out hb)
      clear HV1 HN1 HX1 HB1
      clear hb
      clear xm0 xm1 xn0 xn1
      have xm0 := (show BoxZ _ (w.heap.size) p B1 m1 d1 from HX2.out ⟨w.heap.size, p, B1, m1, d1⟩ (.tail _ (.head _))).c0
      have xm1 := (show BoxZ _ (w.heap.size) p B1 m1 d1 from HX2.out ⟨w.heap.size, p, B1, m1, d1⟩ (.tail _ (.head _))).c1
      have xn0 := (show BoxZ _ (w.heap.size + 1) q B2 m2 d2 from HX2.out ⟨w.heap.size + 1, q, B2, m2, d2⟩ (.head _)).c0
      have xn1 := (show BoxZ _ (w.heap.size + 1) q B2 m2 d2 from HX2.out ⟨w.heap.size + 1, q, B2, m2, d2⟩ (.head _)).c1
      go_wp2
      go_ret
      exact ⟨rfl, HB2.out⟩
    | false =>
      have Kb := Lib.hid kb
      by_cases km : m1 ≤ 3
      · have g1 : ¬ (3 : Int) < (m1 : Int) := by omega
        have g2 : (3 : Int) < (m2 : Int) := by
          have h1 : ¬ m2 ≤ 3 := fun h => hl ⟨ka, kb, km, h⟩
          omega
        clear hl ka kb
        have KV0 := heldv_nil w
        have KN0 := heldn_nil w
        have KX0 := heldx_nil w
        have D0 := Below.refl w.heap.size w
        have KV1 := KV0.next (bxb _ (zo p B1 m1 d1))
        have KN1 := KN0.next (bxb _ (zo p B1 m1 d1))
        have KX1 := (KX0.next (bxb _ (zo p B1 m1 d1))).cons (show BoxZ _ _ p B1 m1 d1 from World.alloc_heap_new _ _)
        have D1 := below_then D0 (bxb _ (zo p B1 m1 d1))
        have KV2 := KV1.next (bxb _ (zo q B2 m2 d2))
        have KN2 := KN1.next (bxb _ (zo q B2 m2 d2))
        have KX2 := (KX1.next (bxb _ (zo q B2 m2 d2))).cons (show BoxZ _ _ q B2 m2 d2 from World.alloc_heap_new _ _)
        have D2 := below_then D1 (bxb _ (zo q B2 m2 d2))
        try simp only [World.size_alloc] at KV2
        have HV0 := Lib.hid KV2
        try simp only [World.size_alloc] at KN2
        have HN0 := Lib.hid KN2
        try simp only [World.size_alloc] at KX2
        have HX0 := Lib.hid KX2
        have HB0 := Lib.hid D2
        clear KV2 KN2 KX2 D2 KV1 KN1 KX1 D1 KV0 KN0 KX0 D0
        go_enter Tryz.func4, Tryz.ntmps4
        have xm0 := (show BoxZ _ (w.heap.size) p B1 m1 d1 from HX0.out ⟨w.heap.size, p, B1, m1, d1⟩ (.tail _ (.head _))).c0
        have xm1 := (show BoxZ _ (w.heap.size) p B1 m1 d1 from HX0.out ⟨w.heap.size, p, B1, m1, d1⟩ (.tail _ (.head _))).c1
        have xn0 := (show BoxZ _ (w.heap.size + 1) q B2 m2 d2 from HX0.out ⟨w.heap.size + 1, q, B2, m2, d2⟩ (.head _)).c0
        have xn1 := (show BoxZ _ (w.heap.size + 1) q B2 m2 d2 from HX0.out ⟨w.heap.size + 1, q, B2, m2, d2⟩ (.head _)).c1
        go_wp2_with fail
        refine (Ga.out _ HB0.out).mono ?_
        rintro e v1_ ⟨rfl, hb⟩
        rw [Ka.out]
        have HV1 := Lib.hid (HV0.out.next hb)
        have HN1 := Lib.hid (HN0.out.next hb)
        have HX1 := Lib.hid (HX0.out.next hb)
        have HB1 := Lib.hid (below_then HB0.out hb)
        clear HV0 HN0 HX0 HB0
        clear hb
        clear xm0 xm1 xn0 xn1
        have xm0 := (show BoxZ _ (w.heap.size) p B1 m1 d1 from HX1.out ⟨w.heap.size, p, B1, m1, d1⟩ (.tail _ (.head _))).c0
        have xm1 := (show BoxZ _ (w.heap.size) p B1 m1 d1 from HX1.out ⟨w.heap.size, p, B1, m1, d1⟩ (.tail _ (.head _))).c1
        have xn0 := (show BoxZ _ (w.heap.size + 1) q B2 m2 d2 from HX1.out ⟨w.heap.size + 1, q, B2, m2, d2⟩ (.head _)).c0
        have xn1 := (show BoxZ _ (w.heap.size + 1) q B2 m2 d2 from HX1.out ⟨w.heap.size + 1, q, B2, m2, d2⟩ (.head _)).c1
        go_wp2_with fail
        refine (Gb.out _ HB1.out).mono ?_
        rintro e v2_ ⟨rfl, hb⟩
        rw [Kb.out]
        have HV2 := Lib.hid (HV1.out.next hb)
        have HN2 := Lib.hid (HN1.out.next hb)
        have HX2 := Lib.hid (HX1.out.next hb)
        have HB2 := Lib.hid (below_then HB1.out hb)
        clear HV1 HN1 HX1 HB1
        clear hb
        clear xm0 xm1 xn0 xn1
        have xm0 := (show BoxZ _ (w.heap.size) p B1 m1 d1 from HX2.out ⟨w.heap.size, p, B1, m1, d1⟩ (.tail _ (.head _))).c0
        have xm1 := (show BoxZ _ (w.heap.size) p B1 m1 d1 from HX2.out ⟨w.heap.size, p, B1, m1, d1⟩ (.tail _ (.head _))).c1
        have xn0 := (show BoxZ _ (w.heap.size + 1) q B2 m2 d2 from HX2.out ⟨w.heap.size + 1, q, B2, m2, d2⟩ (.head _)).c0
        have xn1 := (show BoxZ _ (w.heap.size + 1) q B2 m2 d2 from HX2.out ⟨w.heap.size + 1, q, B2, m2, d2⟩ (.head _)).c1
        go_wp2_with fail
        go_ret
        exact ⟨rfl, HB2.out⟩
      · have g1 : (3 : Int) < (m1 : Int) := by omega
        clear hl ka kb
        have KV0 := heldv_nil w
        have KN0 := heldn_nil w
        have KX0 := heldx_nil w
        have D0 := Below.refl w.heap.size w
        have KV1 := KV0.next (bxb _ (zo p B1 m1 d1))
        have KN1 := KN0.next (bxb _ (zo p B1 m1 d1))
        have KX1 := (KX0.next (bxb _ (zo p B1 m1 d1))).cons (show BoxZ _ _ p B1 m1 d1 from World.alloc_heap_new _ _)
        have D1 := below_then D0 (bxb _ (zo p B1 m1 d1))
        have KV2 := KV1.next (bxb _ (zo q B2 m2 d2))
        have KN2 := KN1.next (bxb _ (zo q B2 m2 d2))
        have KX2 := (KX1.next (bxb _ (zo q B2 m2 d2))).cons (show BoxZ _ _ q B2 m2 d2 from World.alloc_heap_new _ _)
        have D2 := below_then D1 (bxb _ (zo q B2 m2 d2))
        try simp only [World.size_alloc] at KV2
        have HV0 := Lib.hid KV2
        try simp only [World.size_alloc] at KN2
        have HN0 := Lib.hid KN2
        try simp only [World.size_alloc] at KX2
        have HX0 := Lib.hid KX2
        have HB0 := Lib.hid D2
        clear KV2 KN2 KX2 D2 KV1 KN1 KX1 D1 KV0 KN0 KX0 D0
        go_enter Tryz.func4, Tryz.ntmps4
        have xm0 := (show BoxZ _ (w.heap.size) p B1 m1 d1 from HX0.out ⟨w.heap.size, p, B1, m1, d1⟩ (.tail _ (.head _))).c0
        have xm1 := (show BoxZ _ (w.heap.size) p B1 m1 d1 from HX0.out ⟨w.heap.size, p, B1, m1, d1⟩ (.tail _ (.head _))).c1
        have xn0 := (show BoxZ _ (w.heap.size + 1) q B2 m2 d2 from HX0.out ⟨w.heap.size + 1, q, B2, m2, d2⟩ (.head _)).c0
        have xn1 := (show BoxZ _ (w.heap.size + 1) q B2 m2 d2 from HX0.out ⟨w.heap.size + 1, q, B2, m2, d2⟩ (.head _)).c1
        go_wp2_with fail
        refine (Ga.out _ HB0.out).mono ?_
        rintro e v1_ ⟨rfl, hb⟩
        rw [Ka.out]
        have HV1 := Lib.hid (HV0.out.next hb)
        have HN1 := Lib.hid (HN0.out.next hb)
        have HX1 := Lib.hid (HX0.out.next hb)
        have HB1 := Lib.hid (below_then HB0.out hb)
        clear HV0 HN0 HX0 HB0
        clear hb
        clear xm0 xm1 xn0 xn1
        have xm0 := (show BoxZ _ (w.heap.size) p B1 m1 d1 from HX1.out ⟨w.heap.size, p, B1, m1, d1⟩ (.tail _ (.head _))).c0
        have xm1 := (show BoxZ _ (w.heap.size) p B1 m1 d1 from HX1.out ⟨w.heap.size, p, B1, m1, d1⟩ (.tail _ (.head _))).c1
        have xn0 := (show BoxZ _ (w.heap.size + 1) q B2 m2 d2 from HX1.out ⟨w.heap.size + 1, q, B2, m2, d2⟩ (.head _)).c0
        have xn1 := (show BoxZ _ (w.heap.size + 1) q B2 m2 d2 from HX1.out ⟨w.heap.size + 1, q, B2, m2, d2⟩ (.head _)).c1
        go_wp2_with fail
        refine (Gb.out _ HB1.out).mono ?_
        rintro e v2_ ⟨rfl, hb⟩
        rw [Kb.out]
        have HV2 := Lib.hid (HV1.out.next hb)
        have HN2 := Lib.hid (HN1.out.next hb)
        have HX2 := Lib.hid (HX1.out.next hb)
        have HB2 := Lib.hid (below_then HB1.out hb)
        clear HV1 HN1 HX1 HB1
        clear hb
        clear xm0 xm1 xn0 xn1
        have xm0 := (show BoxZ _ (w.heap.size) p B1 m1 d1 from HX2.out ⟨w.heap.size, p, B1, m1, d1⟩ (.tail _ (.head _))).c0
        have xm1 := (show BoxZ _ (w.heap.size) p B1 m1 d1 from HX2.out ⟨w.heap.size, p, B1, m1, d1⟩ (.tail _ (.head _))).c1
        have xn0 := (show BoxZ _ (w.heap.size + 1) q B2 m2 d2 from HX2.out ⟨w.heap.size + 1, q, B2, m2, d2⟩ (.head _)).c0
        have xn1 := (show BoxZ _ (w.heap.size + 1) q B2 m2 d2 from HX2.out ⟨w.heap.size + 1, q, B2, m2, d2⟩ (.head _)).c1
        go_wp2_with fail
        go_ret
        exact ⟨rfl, HB2.out⟩
set_option maxRecDepth 100000 in
set_option maxHeartbeats 4000000 in
theorem tells_ok (A1 A2 B1 B2 : Option Addr) (n1 c1 n2 c2 m1 d1 m2 d2 : Nat) (La Lb : List ZE) (p q : Bool) (w : World) (a b : List Nat) (ra : RV w A1 n1 c1 La) (rb : RV w A2 n2 c2 Lb) (va : V1 w A1 n1 c1 La) (vb : V1 w A2 n2 c2 Lb) (za : Z1 w B1 m1 d1 a) (zb : Z1 w B2 m2 d2 b) (la : m1 ≤ 3) (lb : m2 ≤ 3) (Ka : Hid (greatV La 80 3 = false)) (Kb : Hid (greatV Lb 80 3 = false)) (sa : ∀ e, e ∈ La → e.n ≤ 3) (sb : ∀ e, e ∈ Lb → e.n ≤ 3) : Calls Tryz.prog 4 #[.slice A1 n1 c1, .slice A2 n2 c2, .agg #[.bool p, .slice B1 m1 d1], .agg #[.bool q, .slice B2 m2 d2]] w fun e w' => e = .returned (.bool true) ∧ Below w.heap.size w w' := by
  have Ga := Lib.hid (fun W (hW : Below w.heap.size w W) => (ra.below hW).great80)
  have Gb := Lib.hid (fun W (hW : Below w.heap.size w W) => (rb.below hW).great80)
  have g1 : ¬ (3 : Int) < (m1 : Int) := by omega
  have g2 : ¬ (3 : Int) < (m2 : Int) := by omega
  have hf := va.few
  have TW := Lib.hid (fun W (hW : Below w.heap.size w W) => rTwinV_any A1 n1 c1 La W (va.below hW))
  obtain ⟨z, E1, bz, w1, hD⟩ := dotTw va vb sa sb
  obtain ⟨K2, E2, w2, hA⟩ := addTw va vb sa sb
  obtain ⟨K3, E3, w3, hS⟩ := scaleTw (p := q) va sa zb lb
  obtain ⟨K4, E4, w4, hM⟩ := mixTw (p := p) (q := q) va vb sa sb za zb la lb
  obtain ⟨gg, E5, bg, w5, hC⟩ := contentTw va sa
  obtain ⟨K6, E6, w6, hP⟩ := primeTw va sa
  obtain ⟨s7, E7, w7, hX⟩ := cmpTw va vb
  obtain ⟨E8, w8, hK⟩ := checkTw va
  obtain ⟨t9, hZ⟩ := zeroTw va
  obtain ⟨t10, hQ⟩ := sameTw va vb
  have Lz : Hid (Bd 60 z) := bz
  have Lgg : Hid (gg < B64 ^ 60) := bg
  have e9 : (t9 == t9) = true := by simp
  have e10 : (t10 == t10) = true := by simp
  have hD1 := Lib.hid hD.1
  have hD2 := Lib.hid hD.2
  have hA1 := Lib.hid hA.1
  have hA2 := Lib.hid hA.2
  have hS1 := Lib.hid hS.1
  have hS2 := Lib.hid hS.2
  have hM1 := Lib.hid hM.1
  have hM2 := Lib.hid hM.2
  have hC1 := Lib.hid hC.1
  have hC2 := Lib.hid hC.2
  have hP1 := Lib.hid hP.1
  have hP2 := Lib.hid hP.2
  have hX1 := Lib.hid hX.1
  have hX2 := Lib.hid hX.2
  have hK1 := Lib.hid hK.1
  have hK2 := Lib.hid hK.2
  have hZ1 := Lib.hid hZ.1
  have hZ2 := Lib.hid hZ.2
  have hQ1 := Lib.hid hQ.1
  have hQ2 := Lib.hid hQ.2
  have VA := Lib.hid va
  have ha := va
  have hb := vb
  clear ra rb va vb za zb la lb sa sb bz bg hD hA hS hM hC hP hX hK hZ hQ
  have KV0 := heldv_nil w
  have KN0 := heldn_nil w
  have KX0 := heldx_nil w
  have D0 := Below.refl w.heap.size w
  have KV1 := KV0.cons (ha.below D0)
  have KN1 := KN0
  have KX1 := KX0
  have D1 := D0
  have KV2 := KV1.cons (hb.below D1)
  have KN2 := KN1
  have KX2 := KX1
  have D2 := D1
  have KV3 := KV2.next (bxb _ (zo p B1 m1 d1))
  have KN3 := KN2.next (bxb _ (zo p B1 m1 d1))
  have KX3 := (KX2.next (bxb _ (zo p B1 m1 d1))).cons (show BoxZ _ _ p B1 m1 d1 from World.alloc_heap_new _ _)
  have D3 := below_then D2 (bxb _ (zo p B1 m1 d1))
  have KV4 := KV3.next (bxb _ (zo q B2 m2 d2))
  have KN4 := KN3.next (bxb _ (zo q B2 m2 d2))
  have KX4 := (KX3.next (bxb _ (zo q B2 m2 d2))).cons (show BoxZ _ _ q B2 m2 d2 from World.alloc_heap_new _ _)
  have D4 := below_then D3 (bxb _ (zo q B2 m2 d2))
  try simp only [World.size_alloc] at KV4
  have HV0 := Lib.hid KV4
  try simp only [World.size_alloc] at KN4
  have HN0 := Lib.hid KN4
  try simp only [World.size_alloc] at KX4
  have HX0 := Lib.hid KX4
  have HB0 := Lib.hid D4
  clear KV4 KN4 KX4 D4 KV3 KN3 KX3 D3 KV2 KN2 KX2 D2 KV1 KN1 KX1 D1 KV0 KN0 KX0 D0
  clear ha hb
  go_enter Tryz.func4, Tryz.ntmps4
  have xm0 := (show BoxZ _ (w.heap.size) p B1 m1 d1 from HX0.out ⟨w.heap.size, p, B1, m1, d1⟩ (.tail _ (.head _))).c0
  have xm1 := (show BoxZ _ (w.heap.size) p B1 m1 d1 from HX0.out ⟨w.heap.size, p, B1, m1, d1⟩ (.tail _ (.head _))).c1
  have xn0 := (show BoxZ _ (w.heap.size + 1) q B2 m2 d2 from HX0.out ⟨w.heap.size + 1, q, B2, m2, d2⟩ (.head _)).c0
  have xn1 := (show BoxZ _ (w.heap.size + 1) q B2 m2 d2 from HX0.out ⟨w.heap.size + 1, q, B2, m2, d2⟩ (.head _)).c1
  go_wp2_with fail
  refine (Ga.out _ HB0.out).mono ?_
  rintro e v1_ ⟨rfl, hb⟩
  rw [Ka.out]
  have HV1 := Lib.hid (HV0.out.next hb)
  have HN1 := Lib.hid (HN0.out.next hb)
  have HX1 := Lib.hid (HX0.out.next hb)
  have HB1 := Lib.hid (below_then HB0.out hb)
  clear HV0 HN0 HX0 HB0
  clear hb
  clear xm0 xm1 xn0 xn1
  have xm0 := (show BoxZ _ (w.heap.size) p B1 m1 d1 from HX1.out ⟨w.heap.size, p, B1, m1, d1⟩ (.tail _ (.head _))).c0
  have xm1 := (show BoxZ _ (w.heap.size) p B1 m1 d1 from HX1.out ⟨w.heap.size, p, B1, m1, d1⟩ (.tail _ (.head _))).c1
  have xn0 := (show BoxZ _ (w.heap.size + 1) q B2 m2 d2 from HX1.out ⟨w.heap.size + 1, q, B2, m2, d2⟩ (.head _)).c0
  have xn1 := (show BoxZ _ (w.heap.size + 1) q B2 m2 d2 from HX1.out ⟨w.heap.size + 1, q, B2, m2, d2⟩ (.head _)).c1
  go_wp2_with fail
  refine (Gb.out _ HB1.out).mono ?_
  rintro e v2_ ⟨rfl, hb⟩
  rw [Kb.out]
  have HV2 := Lib.hid (HV1.out.next hb)
  have HN2 := Lib.hid (HN1.out.next hb)
  have HX2 := Lib.hid (HX1.out.next hb)
  have HB2 := Lib.hid (below_then HB1.out hb)
  clear HV1 HN1 HX1 HB1
  clear hb
  clear xm0 xm1 xn0 xn1
  have xm0 := (show BoxZ _ (w.heap.size) p B1 m1 d1 from HX2.out ⟨w.heap.size, p, B1, m1, d1⟩ (.tail _ (.head _))).c0
  have xm1 := (show BoxZ _ (w.heap.size) p B1 m1 d1 from HX2.out ⟨w.heap.size, p, B1, m1, d1⟩ (.tail _ (.head _))).c1
  have xn0 := (show BoxZ _ (w.heap.size + 1) q B2 m2 d2 from HX2.out ⟨w.heap.size + 1, q, B2, m2, d2⟩ (.head _)).c0
  have xn1 := (show BoxZ _ (w.heap.size + 1) q B2 m2 d2 from HX2.out ⟨w.heap.size + 1, q, B2, m2, d2⟩ (.head _)).c1
  go_wp2_with fail
  refine (TW.out _ HB2.out).mono ?_
  rintro e v3_ ⟨A3_, c3_, L3_, rfl, o, hk, hb⟩
  have Kown := Lib.hid hk
  have HV3 := Lib.hid ((HV2.out.next hb).cons (VA.out.own (j := 0) o hk))
  have HN3 := Lib.hid (HN2.out.next hb)
  have HX3 := Lib.hid (HX2.out.next hb)
  have HB3 := Lib.hid (below_then HB2.out hb)
  clear o hk hb HV2 HN2 HX2 HB2
  clear xm0 xm1 xn0 xn1
  go_wp2_with fail
  refine (hD1.out _ _ _ _ HB3.out (show V1 _ A3_ n1 c3_ L3_ from HV3.out ⟨A3_, n1, c3_, L3_⟩ (.head _)) Kown.out).mono ?_
  rintro e v4_ ⟨A4_, n4_, c4_, rfl, o, hb⟩
  have hl := Lz.out.len o
  have HV4 := Lib.hid (HV3.out.next (below_then hb (bxb _ (zo (decide (z < 0)) A4_ n4_ c4_))))
  have HN4 := Lib.hid ((HN3.out.next (below_then hb (bxb _ (zo (decide (z < 0)) A4_ n4_ c4_)))).cons (o.nm.below (bxb _ (zo (decide (z < 0)) A4_ n4_ c4_))) (show n4_ ≤ 60 by omega))
  have HX4 := Lib.hid ((HX3.out.next (below_then hb (bxb _ (zo (decide (z < 0)) A4_ n4_ c4_)))).cons (show BoxZ _ _ (decide (z < 0)) A4_ n4_ c4_ from World.alloc_heap_new _ _))
  have HB4 := Lib.hid (below_then HB3.out (below_then hb (bxb _ (zo (decide (z < 0)) A4_ n4_ c4_))))
  clear o hb hl HV3 HN3 HX3 HB3
  try unfold zV
  try unfold zv
  go_wp2_with fail
  refine (hD2.out _ HB4.out).mono ?_
  rintro e v5_ ⟨A5_, n5_, c5_, rfl, o, hb⟩
  have hl := Lz.out.len o
  have HV5 := Lib.hid (HV4.out.next (below_then hb (bxb _ (zo (decide (z < 0)) A5_ n5_ c5_))))
  have HN5 := Lib.hid ((HN4.out.next (below_then hb (bxb _ (zo (decide (z < 0)) A5_ n5_ c5_)))).cons (o.nm.below (bxb _ (zo (decide (z < 0)) A5_ n5_ c5_))) (show n5_ ≤ 60 by omega))
  have HX5 := Lib.hid ((HX4.out.next (below_then hb (bxb _ (zo (decide (z < 0)) A5_ n5_ c5_)))).cons (show BoxZ _ _ (decide (z < 0)) A5_ n5_ c5_ from World.alloc_heap_new _ _))
  have HB5 := Lib.hid (below_then HB4.out (below_then hb (bxb _ (zo (decide (z < 0)) A5_ n5_ c5_))))
  clear o hb hl HV4 HN4 HX4 HB4
  try unfold zV
  try unfold zv
  go_wp2_with fail
  refine (hA1.out _ _ _ _ HB5.out (show V1 _ A3_ n1 c3_ L3_ from HV5.out ⟨A3_, n1, c3_, L3_⟩ (.head _)) Kown.out).mono ?_
  rintro e v6_ ⟨A6_, n6_, c6_, L6_, rfl, hv, hk, hb⟩
  have Kg := Lib.hid hk
  have HV6 := Lib.hid ((HV5.out.next hb).cons hv)
  have HN6 := Lib.hid (HN5.out.next hb)
  have HX6 := Lib.hid (HX5.out.next hb)
  have HB6 := Lib.hid (below_then HB5.out hb)
  clear hv hk hb HV5 HN5 HX5 HB5
  go_wp2_with fail
  refine (hA2.out _ HB6.out).mono ?_
  rintro e v7_ ⟨A7_, n7_, c7_, L7_, rfl, hv, hk, hb⟩
  have Ki := Lib.hid hk
  have HV7 := Lib.hid ((HV6.out.next hb).cons hv)
  have HN7 := Lib.hid (HN6.out.next hb)
  have HX7 := Lib.hid (HX6.out.next hb)
  have HB7 := Lib.hid (below_then HB6.out hb)
  clear hv hk hb HV6 HN6 HX6 HB6
  have xn0 := (show BoxZ _ (w.heap.size + 1) q B2 m2 d2 from HX7.out ⟨w.heap.size + 1, q, B2, m2, d2⟩ (.tail _ (.tail _ (.head _)))).c0
  have xn1 := (show BoxZ _ (w.heap.size + 1) q B2 m2 d2 from HX7.out ⟨w.heap.size + 1, q, B2, m2, d2⟩ (.tail _ (.tail _ (.head _)))).c1
  go_wp2_with fail
  refine (hS1.out _ _ _ _ HB7.out (show V1 _ A3_ n1 c3_ L3_ from HV7.out ⟨A3_, n1, c3_, L3_⟩ (.tail _ (.tail _ (.head _)))) Kown.out).mono ?_
  rintro e v8_ ⟨A8_, n8_, c8_, L8_, rfl, hv, hk, hb⟩
  have Kk := Lib.hid hk
  have HV8 := Lib.hid ((HV7.out.next hb).cons hv)
  have HN8 := Lib.hid (HN7.out.next hb)
  have HX8 := Lib.hid (HX7.out.next hb)
  have HB8 := Lib.hid (below_then HB7.out hb)
  clear hv hk hb HV7 HN7 HX7 HB7
  clear xn0 xn1
  have xn0 := (show BoxZ _ (w.heap.size + 1) q B2 m2 d2 from HX8.out ⟨w.heap.size + 1, q, B2, m2, d2⟩ (.tail _ (.tail _ (.head _)))).c0
  have xn1 := (show BoxZ _ (w.heap.size + 1) q B2 m2 d2 from HX8.out ⟨w.heap.size + 1, q, B2, m2, d2⟩ (.tail _ (.tail _ (.head _)))).c1
  go_wp2_with fail
  refine (hS2.out _ HB8.out).mono ?_
  rintro e v9_ ⟨A9_, n9_, c9_, L9_, rfl, hv, hk, hb⟩
  have Ko := Lib.hid hk
  have HV9 := Lib.hid ((HV8.out.next hb).cons hv)
  have HN9 := Lib.hid (HN8.out.next hb)
  have HX9 := Lib.hid (HX8.out.next hb)
  have HB9 := Lib.hid (below_then HB8.out hb)
  clear hv hk hb HV8 HN8 HX8 HB8
  clear xn0 xn1
  have xm0 := (show BoxZ _ (w.heap.size) p B1 m1 d1 from HX9.out ⟨w.heap.size, p, B1, m1, d1⟩ (.tail _ (.tail _ (.tail _ (.head _))))).c0
  have xm1 := (show BoxZ _ (w.heap.size) p B1 m1 d1 from HX9.out ⟨w.heap.size, p, B1, m1, d1⟩ (.tail _ (.tail _ (.tail _ (.head _))))).c1
  have xn0 := (show BoxZ _ (w.heap.size + 1) q B2 m2 d2 from HX9.out ⟨w.heap.size + 1, q, B2, m2, d2⟩ (.tail _ (.tail _ (.head _)))).c0
  have xn1 := (show BoxZ _ (w.heap.size + 1) q B2 m2 d2 from HX9.out ⟨w.heap.size + 1, q, B2, m2, d2⟩ (.tail _ (.tail _ (.head _)))).c1
  go_wp2_with fail
  refine (hM1.out _ _ _ _ HB9.out (show V1 _ A3_ n1 c3_ L3_ from HV9.out ⟨A3_, n1, c3_, L3_⟩ (.tail _ (.tail _ (.tail _ (.tail _ (.head _)))))) Kown.out).mono ?_
  rintro e v10_ ⟨A10_, n10_, c10_, L10_, rfl, hv, hk, hb⟩
  have Kq := Lib.hid hk
  have HV10 := Lib.hid ((HV9.out.next hb).cons hv)
  have HN10 := Lib.hid (HN9.out.next hb)
  have HX10 := Lib.hid (HX9.out.next hb)
  have HB10 := Lib.hid (below_then HB9.out hb)
  clear hv hk hb HV9 HN9 HX9 HB9
  clear xm0 xm1 xn0 xn1
  have xm0 := (show BoxZ _ (w.heap.size) p B1 m1 d1 from HX10.out ⟨w.heap.size, p, B1, m1, d1⟩ (.tail _ (.tail _ (.tail _ (.head _))))).c0
  have xm1 := (show BoxZ _ (w.heap.size) p B1 m1 d1 from HX10.out ⟨w.heap.size, p, B1, m1, d1⟩ (.tail _ (.tail _ (.tail _ (.head _))))).c1
  have xn0 := (show BoxZ _ (w.heap.size + 1) q B2 m2 d2 from HX10.out ⟨w.heap.size + 1, q, B2, m2, d2⟩ (.tail _ (.tail _ (.head _)))).c0
  have xn1 := (show BoxZ _ (w.heap.size + 1) q B2 m2 d2 from HX10.out ⟨w.heap.size + 1, q, B2, m2, d2⟩ (.tail _ (.tail _ (.head _)))).c1
  go_wp2_with fail
  refine (hM2.out _ HB10.out).mono ?_
  rintro e v11_ ⟨A11_, n11_, c11_, L11_, rfl, hv, hk, hb⟩
  have Ks := Lib.hid hk
  have HV11 := Lib.hid ((HV10.out.next hb).cons hv)
  have HN11 := Lib.hid (HN10.out.next hb)
  have HX11 := Lib.hid (HX10.out.next hb)
  have HB11 := Lib.hid (below_then HB10.out hb)
  clear hv hk hb HV10 HN10 HX10 HB10
  clear xm0 xm1 xn0 xn1
  go_wp2_with fail
  refine (hC1.out _ _ _ _ HB11.out (show V1 _ A3_ n1 c3_ L3_ from HV11.out ⟨A3_, n1, c3_, L3_⟩ (.tail _ (.tail _ (.tail _ (.tail _ (.tail _ (.tail _ (.head _)))))))) Kown.out).mono ?_
  rintro e v12_ ⟨A12_, n12_, c12_, rfl, o, hb⟩
  have hl := o.nm.len Lgg.out
  have HV12 := Lib.hid (HV11.out.next hb)
  have HN12 := Lib.hid ((HN11.out.next hb).cons (nat_nm o.nm) (show n12_ ≤ 60 by omega))
  have HX12 := Lib.hid (HX11.out.next hb)
  have HB12 := Lib.hid (below_then HB11.out hb)
  clear o hb hl HV11 HN11 HX11 HB11
  go_wp2_with fail
  refine (hC2.out _ HB12.out).mono ?_
  rintro e v13_ ⟨A13_, n13_, c13_, rfl, o, hb⟩
  have hl := o.nm.len Lgg.out
  have HV13 := Lib.hid (HV12.out.next hb)
  have HN13 := Lib.hid ((HN12.out.next hb).cons (nat_nm o.nm) (show n13_ ≤ 60 by omega))
  have HX13 := Lib.hid (HX12.out.next hb)
  have HB13 := Lib.hid (below_then HB12.out hb)
  clear o hb hl HV12 HN12 HX12 HB12
  go_wp2_with fail
  refine (hP1.out _ _ _ _ HB13.out (show V1 _ A3_ n1 c3_ L3_ from HV13.out ⟨A3_, n1, c3_, L3_⟩ (.tail _ (.tail _ (.tail _ (.tail _ (.tail _ (.tail _ (.head _)))))))) Kown.out).mono ?_
  rintro e v14_ ⟨A14_, n14_, c14_, L14_, rfl, hv, hk, hb⟩
  have Ky := Lib.hid hk
  have HV14 := Lib.hid ((HV13.out.next hb).cons hv)
  have HN14 := Lib.hid (HN13.out.next hb)
  have HX14 := Lib.hid (HX13.out.next hb)
  have HB14 := Lib.hid (below_then HB13.out hb)
  clear hv hk hb HV13 HN13 HX13 HB13
  go_wp2_with fail
  refine (hP2.out _ HB14.out).mono ?_
  rintro e v15_ ⟨A15_, n15_, c15_, L15_, rfl, hv, hk, hb⟩
  have Kaa := Lib.hid hk
  have HV15 := Lib.hid ((HV14.out.next hb).cons hv)
  have HN15 := Lib.hid (HN14.out.next hb)
  have HX15 := Lib.hid (HX14.out.next hb)
  have HB15 := Lib.hid (below_then HB14.out hb)
  clear hv hk hb HV14 HN14 HX14 HB14
  go_wp2_with fail
  refine (hX1.out _ _ _ _ HB15.out (show V1 _ A3_ n1 c3_ L3_ from HV15.out ⟨A3_, n1, c3_, L3_⟩ (.tail _ (.tail _ (.tail _ (.tail _ (.tail _ (.tail _ (.tail _ (.tail _ (.head _)))))))))) Kown.out).mono ?_
  rintro e v16_ ⟨rfl, hb⟩
  have HV16 := Lib.hid (HV15.out.next hb)
  have HN16 := Lib.hid (HN15.out.next hb)
  have HX16 := Lib.hid (HX15.out.next hb)
  have HB16 := Lib.hid (below_then HB15.out hb)
  clear HV15 HN15 HX15 HB15
  clear hb
  go_wp2_with fail
  refine (hX2.out _ HB16.out).mono ?_
  rintro e v17_ ⟨rfl, hb⟩
  have HV17 := Lib.hid (HV16.out.next hb)
  have HN17 := Lib.hid (HN16.out.next hb)
  have HX17 := Lib.hid (HX16.out.next hb)
  have HB17 := Lib.hid (below_then HB16.out hb)
  clear HV16 HN16 HX16 HB16
  clear hb
  have xc0 := (show BoxZ _ (v4_.heap.size) (decide (z < 0)) A4_ n4_ c4_ from HX17.out ⟨v4_.heap.size, (decide (z < 0)), A4_, n4_, c4_⟩ (.tail _ (.head _))).c0
  have xc1 := (show BoxZ _ (v4_.heap.size) (decide (z < 0)) A4_ n4_ c4_ from HX17.out ⟨v4_.heap.size, (decide (z < 0)), A4_, n4_, c4_⟩ (.tail _ (.head _))).c1
  have xd0 := (show BoxZ _ (v5_.heap.size) (decide (z < 0)) A5_ n5_ c5_ from HX17.out ⟨v5_.heap.size, (decide (z < 0)), A5_, n5_, c5_⟩ (.head _)).c0
  have xd1 := (show BoxZ _ (v5_.heap.size) (decide (z < 0)) A5_ n5_ c5_ from HX17.out ⟨v5_.heap.size, (decide (z < 0)), A5_, n5_, c5_⟩ (.head _)).c1
  go_wp2_with fail
  refine (sameT (show ZNm _ A4_ n4_ c4_ z from (HN17.out ⟨z, A4_, n4_, c4_⟩ (.tail _ (.tail _ (.tail _ (.head _))))).1) (show ZNm _ A5_ n5_ c5_ z from (HN17.out ⟨z, A5_, n5_, c5_⟩ (.tail _ (.tail _ (.head _)))).1) (Nat.le_trans (show n4_ ≤ 60 from (HN17.out ⟨z, A4_, n4_, c4_⟩ (.tail _ (.tail _ (.tail _ (.head _))))).2) (by omega)) (Nat.le_trans (show n5_ ≤ 60 from (HN17.out ⟨z, A5_, n5_, c5_⟩ (.tail _ (.tail _ (.head _)))).2) (by omega)) rfl).mono ?_
  rintro e v18_ ⟨rfl, hb⟩
  have HV18 := Lib.hid (HV17.out.next hb)
  have HN18 := Lib.hid (HN17.out.next hb)
  have HX18 := Lib.hid (HX17.out.next hb)
  have HB18 := Lib.hid (below_then HB17.out hb)
  clear HV17 HN17 HX17 HB17
  clear hb
  clear xc0 xc1 xd0 xd1
  go_wp2_with fail
  refine (rsameT (show V1 _ A6_ n6_ c6_ L6_ from HV18.out ⟨A6_, n6_, c6_, L6_⟩ (.tail _ (.tail _ (.tail _ (.tail _ (.tail _ (.tail _ (.tail _ (.head _))))))))) (show V1 _ A7_ n7_ c7_ L7_ from HV18.out ⟨A7_, n7_, c7_, L7_⟩ (.tail _ (.tail _ (.tail _ (.tail _ (.tail _ (.tail _ (.head _)))))))) (keysR (A2 := none) (m := 0) (d := 0) Kg.out Ki.out)).mono ?_
  rintro e v19_ ⟨rfl, hb⟩
  have HV19 := Lib.hid (HV18.out.next hb)
  have HN19 := Lib.hid (HN18.out.next hb)
  have HX19 := Lib.hid (HX18.out.next hb)
  have HB19 := Lib.hid (below_then HB18.out hb)
  clear HV18 HN18 HX18 HB18
  clear hb
  go_wp2_with fail
  refine (rsameT (show V1 _ A8_ n8_ c8_ L8_ from HV19.out ⟨A8_, n8_, c8_, L8_⟩ (.tail _ (.tail _ (.tail _ (.tail _ (.tail _ (.head _))))))) (show V1 _ A9_ n9_ c9_ L9_ from HV19.out ⟨A9_, n9_, c9_, L9_⟩ (.tail _ (.tail _ (.tail _ (.tail _ (.head _)))))) (keysR (A2 := none) (m := 0) (d := 0) Kk.out Ko.out)).mono ?_
  rintro e v20_ ⟨rfl, hb⟩
  have HV20 := Lib.hid (HV19.out.next hb)
  have HN20 := Lib.hid (HN19.out.next hb)
  have HX20 := Lib.hid (HX19.out.next hb)
  have HB20 := Lib.hid (below_then HB19.out hb)
  clear HV19 HN19 HX19 HB19
  clear hb
  go_wp2_with fail
  refine (rsameT (show V1 _ A10_ n10_ c10_ L10_ from HV20.out ⟨A10_, n10_, c10_, L10_⟩ (.tail _ (.tail _ (.tail _ (.head _))))) (show V1 _ A11_ n11_ c11_ L11_ from HV20.out ⟨A11_, n11_, c11_, L11_⟩ (.tail _ (.tail _ (.head _)))) (keysR (A2 := none) (m := 0) (d := 0) Kq.out Ks.out)).mono ?_
  rintro e v21_ ⟨rfl, hb⟩
  have HV21 := Lib.hid (HV20.out.next hb)
  have HN21 := Lib.hid (HN20.out.next hb)
  have HX21 := Lib.hid (HX20.out.next hb)
  have HB21 := Lib.hid (below_then HB20.out hb)
  clear HV20 HN20 HX20 HB20
  clear hb
  go_wp2_with fail
  have hu : Nm _ _ _ _ ((gg : Int)).natAbs := (show ZNm _ A12_ n12_ c12_ (gg : Int) from (HN21.out ⟨(gg : Int), A12_, n12_, c12_⟩ (.tail _ (.head _))).1)
  have hw : Nm _ _ _ _ ((gg : Int)).natAbs := (show ZNm _ A13_ n13_ c13_ (gg : Int) from (HN21.out ⟨(gg : Int), A13_, n13_, c13_⟩ (.head _)).1)
  refine (same_eq _ _ _ _ _ _ _ _ _ hu hw (Nat.le_trans (show n12_ ≤ 60 from (HN21.out ⟨(gg : Int), A12_, n12_, c12_⟩ (.tail _ (.head _))).2) (by omega)) (Nat.le_trans (show n13_ ≤ 60 from (HN21.out ⟨(gg : Int), A13_, n13_, c13_⟩ (.head _)).2) (by omega)) rfl).mono ?_
  rintro e v22_ ⟨rfl, hb⟩
  have HV22 := Lib.hid (HV21.out.next hb)
  have HN22 := Lib.hid (HN21.out.next hb)
  have HX22 := Lib.hid (HX21.out.next hb)
  have HB22 := Lib.hid (below_then HB21.out hb)
  clear HV21 HN21 HX21 HB21
  clear hb
  clear hu hw
  go_wp2_with fail
  refine (rsameT (show V1 _ A14_ n14_ c14_ L14_ from HV22.out ⟨A14_, n14_, c14_, L14_⟩ (.tail _ (.head _))) (show V1 _ A15_ n15_ c15_ L15_ from HV22.out ⟨A15_, n15_, c15_, L15_⟩ (.head _)) (keysR (A2 := none) (m := 0) (d := 0) Ky.out Kaa.out)).mono ?_
  rintro e v23_ ⟨rfl, hb⟩
  have HV23 := Lib.hid (HV22.out.next hb)
  have HN23 := Lib.hid (HN22.out.next hb)
  have HX23 := Lib.hid (HX22.out.next hb)
  have HB23 := Lib.hid (below_then HB22.out hb)
  clear HV22 HN22 HX22 HB22
  clear hb
  go_wp2_with fail
  refine (hK1.out _ _ _ _ HB23.out (show V1 _ A3_ n1 c3_ L3_ from HV23.out ⟨A3_, n1, c3_, L3_⟩ (.tail _ (.tail _ (.tail _ (.tail _ (.tail _ (.tail _ (.tail _ (.tail _ (.head _)))))))))) Kown.out).mono ?_
  rintro e v24_ ⟨rfl, hb⟩
  have HV24 := Lib.hid (HV23.out.next hb)
  have HN24 := Lib.hid (HN23.out.next hb)
  have HX24 := Lib.hid (HX23.out.next hb)
  have HB24 := Lib.hid (below_then HB23.out hb)
  clear HV23 HN23 HX23 HB23
  clear hb
  go_wp2_with fail
  refine (hK2.out _ HB24.out).mono ?_
  rintro e v25_ ⟨rfl, hb⟩
  have HV25 := Lib.hid (HV24.out.next hb)
  have HN25 := Lib.hid (HN24.out.next hb)
  have HX25 := Lib.hid (HX24.out.next hb)
  have HB25 := Lib.hid (below_then HB24.out hb)
  clear HV24 HN24 HX24 HB24
  clear hb
  go_wp2_with fail
  refine (hZ1.out _ _ _ _ HB25.out (show V1 _ A3_ n1 c3_ L3_ from HV25.out ⟨A3_, n1, c3_, L3_⟩ (.tail _ (.tail _ (.tail _ (.tail _ (.tail _ (.tail _ (.tail _ (.tail _ (.head _)))))))))) Kown.out).mono ?_
  rintro e v26_ ⟨rfl, hb⟩
  have HV26 := Lib.hid (HV25.out.next hb)
  have HN26 := Lib.hid (HN25.out.next hb)
  have HX26 := Lib.hid (HX25.out.next hb)
  have HB26 := Lib.hid (below_then HB25.out hb)
  clear HV25 HN25 HX25 HB25
  clear hb
  go_wp2_with fail
  refine (hZ2.out _ HB26.out).mono ?_
  rintro e v27_ ⟨rfl, hb⟩
  have HV27 := Lib.hid (HV26.out.next hb)
  have HN27 := Lib.hid (HN26.out.next hb)
  have HX27 := Lib.hid (HX26.out.next hb)
  have HB27 := Lib.hid (below_then HB26.out hb)
  clear HV26 HN26 HX26 HB26
  clear hb
  go_wp2_with fail
  refine (hQ1.out _ _ _ _ HB27.out (show V1 _ A3_ n1 c3_ L3_ from HV27.out ⟨A3_, n1, c3_, L3_⟩ (.tail _ (.tail _ (.tail _ (.tail _ (.tail _ (.tail _ (.tail _ (.tail _ (.head _)))))))))) Kown.out).mono ?_
  rintro e v28_ ⟨rfl, hb⟩
  have HV28 := Lib.hid (HV27.out.next hb)
  have HN28 := Lib.hid (HN27.out.next hb)
  have HX28 := Lib.hid (HX27.out.next hb)
  have HB28 := Lib.hid (below_then HB27.out hb)
  clear HV27 HN27 HX27 HB27
  clear hb
  go_wp2_with fail
  refine (hQ2.out _ HB28.out).mono ?_
  rintro e v29_ ⟨rfl, hb⟩
  have HV29 := Lib.hid (HV28.out.next hb)
  have HN29 := Lib.hid (HN28.out.next hb)
  have HX29 := Lib.hid (HX28.out.next hb)
  have HB29 := Lib.hid (below_then HB28.out hb)
  clear HV28 HN28 HX28 HB28
  clear hb
  go_wp2_with fail
  refine (twinV_is _ _ _ _ _ (show V1 _ A3_ n1 c3_ L3_ from HV29.out ⟨A3_, n1, c3_, L3_⟩ (.tail _ (.tail _ (.tail _ (.tail _ (.tail _ (.tail _ (.tail _ (.tail _ (.head _))))))))))).mono ?_
  rintro e v30_ ⟨A30_, c30_, L30_, rfl, o, hk, hb⟩
  have Ktw := Lib.hid (hk.trans Kown.out)
  have HTw := Lib.hid (o.tw)
  have VT := Lib.hid (VA.out.own (j := 0) o (hk.trans Kown.out))
  have HBt := Lib.hid hb
  clear o hk hb
  go_wp2_with fail
  refine (rsameT VT.out ((show V1 _ A1 n1 c1 La from HV29.out ⟨A1, n1, c1, La⟩ (.tail _ (.tail _ (.tail _ (.tail _ (.tail _ (.tail _ (.tail _ (.tail _ (.tail _ (.tail _ (.head _)))))))))))).below HBt.out) Ktw.out).mono ?_
  rintro e v31_ ⟨rfl, hb⟩
  have HTw2 := Lib.hid (HTw.out.below hb)
  have HBt2 := Lib.hid (below_then HBt.out hb)
  clear hb HTw VT HBt
  have hbs := Lib.hid HBt2.out.size
  go_wp2
  go_loopw [43] (fun i wr => ∃ j : Nat, j ≤ n1 ∧ i = .int .i64 (j : Int) ∧ TwR wr v29_.heap.size A30_ n1 c30_ L30_ ∧ Below v29_.heap.size v29_ wr) (fun i _ => n1 - (intOf i).toNat)
  case atStart => exact ⟨0, by omega, rfl, HTw2.out, HBt2.out⟩
  case round =>
    obtain ⟨j, hj, rfl, hTr, hB⟩ := hrel
    by_cases hlt : j < n1
    · obtain ⟨b, e, hA, he, _, _, l0, hl0⟩ := hTr.at hlt
      have hes : e.n ≤ 9223372036854775807 := Nat.le_trans hl0.rd.2.2.1 hl0.rd.2.2.2
      obtain ⟨ep, eA, en, ec, el⟩ := e
      dsimp only at hes
      have HE := Lib.hid he
      have HTt := Lib.hid hTr
      have HBo := Lib.hid hB
      clear hTr hB hl0 he l0
      subst hA
      go_wp2
      go_loopw [44] (fun i W => ∃ t : Nat, t ≤ en ∧ i = .int .i64 (t : Int) ∧ TwR W v29_.heap.size (some ⟨b, 0, none⟩) n1 c30_ L30_ ∧ Below v29_.heap.size v29_ W) (fun i _ => en - (intOf i).toNat)
      case atStart => exact ⟨0, by omega, rfl, HTt.out, HBo.out⟩
      case round =>
        obtain ⟨t, ht, rfl, hT2, hB2⟩ := hrel
        obtain ⟨b2, e2, hA2, he2, x0, x1, l2, hl2⟩ := hT2.at hlt
        rw [HE.out] at he2
        cases he2
        cases hA2
        dsimp only at x0 x1 hl2
        have HT3 := Lib.hid hT2
        have HB3 := Lib.hid hB2
        by_cases hlt2 : t < en
        · obtain ⟨g, hgA, hg, _⟩ := own_at hl2 (by omega)
          have hm := Lib.hid (List.mem_of_getElem? HE.out)
          subst hgA
          have hcell := (own_cell hl2 hlt2).1
          have hfr := (own_cell hl2 hlt2).2
          have HG := Lib.hid hg
          clear hT2 hB2 hl2 hg
          go_wp2
          go_roundw
          case rel =>
            rw [incr_word]
            exact ⟨t + 1, by omega, by go_num, HT3.out.set hm.out rfl t (Nat.mod_lt _ B64_pos), HB3.out.setCell (p := ⟨g, t, none⟩) HG.out _⟩
          case measure => simp [intOf]; omega
        · clear hT2 hB2 hl2
          go_wp2
          go_roundw
          case rel => exact ⟨j + 1, by omega, by go_num, HT3.out, HB3.out⟩
          case measure => simp [intOf]; omega
    · have HVf := Lib.hid (HV29.out.next hB)
      have HBf := Lib.hid (below_then HB29.out hB)
      clear hTr hB
      go_wp2_with fail
      refine (rsameT (show V1 _ A3_ n1 c3_ L3_ from HVf.out ⟨A3_, n1, c3_, L3_⟩ (.tail _ (.tail _ (.tail _ (.tail _ (.tail _ (.tail _ (.tail _ (.tail _ (.head _)))))))))) (show V1 _ A1 n1 c1 La from HVf.out ⟨A1, n1, c1, La⟩ (.tail _ (.tail _ (.tail _ (.tail _ (.tail _ (.tail _ (.tail _ (.tail _ (.tail _ (.tail _ (.head _)))))))))))) Kown.out).mono ?_
      rintro e vl ⟨rfl, hb⟩
      have HBl := Lib.hid (below_then HBf.out hb)
      clear hb
      go_wp2
      go_ret
      exact ⟨rfl, HBl.out⟩
set_option maxRecDepth 100000 in
set_option maxHeartbeats 4000000 in
theorem vtells_any (A1 A2 B1 B2 : Option Addr) (n1 c1 n2 c2 m1 d1 m2 d2 : Nat) (La Lb : List ZE) (p q : Bool) (w : World) (a b : List Nat) (ra : RV w A1 n1 c1 La) (rb : RV w A2 n2 c2 Lb) (za : Rd w B1 m1 a) (zb : Rd w B2 m2 b) (ca : m1 ≤ d1 ∧ d1 ≤ 9223372036854775807) (cb : m2 ≤ d2 ∧ d2 ≤ 9223372036854775807) : Calls Tryz.prog 4 #[.slice A1 n1 c1, .slice A2 n2 c2, .agg #[.bool p, .slice B1 m1 d1], .agg #[.bool q, .slice B2 m2 d2]] w fun e w' => e = .returned (.bool true) ∧ Below w.heap.size w w' := by
  by_cases hl : greatV La 80 3 = false ∧ greatV Lb 80 3 = false ∧ m1 ≤ 3 ∧ m2 ≤ 3
  · obtain ⟨ka, kb, km, kn⟩ := hl
    exact tells_ok A1 A2 B1 B2 n1 c1 n2 c2 m1 d1 m2 d2 La Lb p q w a b ra rb (ra.v1 ka (by omega) (by omega)) (rb.v1 kb (by omega) (by omega)) ⟨za, by omega, ca.1, ca.2⟩ ⟨zb, by omega, cb.1, cb.2⟩ km kn ka kb (great_no ka).2 (great_no kb).2
  · exact tells_long A1 A2 B1 B2 n1 c1 n2 c2 m1 d1 m2 d2 La Lb p q w ra rb (by omega) (by omega) hl
section
end
end Go.Proofs.YtgiokmfdafmaoaaGreat
