/- lex: between, either, among. -/
import Derived.Test.YtedhnnechjnnfaaDoorLBase
import Derived.Test.YtedhnnechjnnfaaDoorLRune
namespace Go.Proofs.YtedhnnechjnnfaaDoor
open Go.RowKit Go.Shelf
set_option linter.unusedVariables false
set_option linter.unusedSimpArgs false

set_option maxRecDepth 100000 in
set_option maxHeartbeats 1000000 in
theorem between_in (lo hi : Nat) (g g2 : Nat) (w : World) (c0 : w.cell? ⟨g, 0, none⟩ = some (.int .i32 (lo : Int))) (c1 : w.cell? ⟨g2, 0, none⟩ = some (.int .i32 (hi : Int))) (x : Nat) :
    Calls Tryd.prog 32 #[.int .i32 (x : Int), .pointer (some ⟨g, 0, none⟩), .pointer (some ⟨g2, 0, none⟩)] w fun e w' => e = .returned (.bool (decide (lo ≤ x ∧ x ≤ hi))) ∧ Below w.heap.size w w' := by
  generalize hD : decide (lo ≤ x ∧ x ≤ hi) = D
  have HD := Lib.hid hD
  clear hD
  by_cases h1 : lo ≤ x
  · by_cases h2 : x ≤ hi
    · have HE := Lib.hid (decide_eq_true (And.intro h1 h2))
      have a1 : (lo : Int) ≤ (x : Int) := by omega
      have a2 : (x : Int) ≤ (hi : Int) := by omega
      clear h1 h2
      go_enter Tryd.func32, Tryd.ntmps32
      go_wp2
      go_ret
      exact ⟨by rw [← HD.out, HE.out]; rfl, Below.refl _ _⟩
    · have HE := Lib.hid (decide_eq_false (show ¬ (lo ≤ x ∧ x ≤ hi) from fun h => h2 h.2))
      have a1 : (lo : Int) ≤ (x : Int) := by omega
      have a2 : ¬ (x : Int) ≤ (hi : Int) := by omega
      clear h1 h2
      go_enter Tryd.func32, Tryd.ntmps32
      go_wp2
      go_ret
      exact ⟨by rw [← HD.out, HE.out]; rfl, Below.refl _ _⟩
  · have HE := Lib.hid (decide_eq_false (show ¬ (lo ≤ x ∧ x ≤ hi) from fun h => h1 h.1))
    have a1 : ¬ (lo : Int) ≤ (x : Int) := by omega
    clear h1
    go_enter Tryd.func32, Tryd.ntmps32
    go_wp2
    go_ret
    exact ⟨by rw [← HD.out, HE.out]; rfl, Below.refl _ _⟩
set_option maxRecDepth 100000 in
set_option maxHeartbeats 1000000 in
theorem between_any (lo hi : Nat) (hhi : hi < 128) (w : World) :
    Calls Tryd.prog 22 #[.int .i32 (lo : Int), .int .i32 (hi : Int)] w fun e w' => ∃ v, e = .returned v ∧ MarkIs w.heap.size w' v (lexIn lo hi) ∧ Below w.heap.size w w' := by
  have hw1 := lx_new w (.cells #[.int .i32 (lo : Int)] 21)
  have hw2 := lx_new (w.alloc (.cells #[.int .i32 (lo : Int)] 21)) (.cells #[.int .i32 (hi : Int)] 21)
  have hmf := enters_of (P := Tryd.prog) Tryd.func32 (by kernel_rfl) rfl
  have HB := Lib.hid (lx_then hw1 hw2)
  have HF := Lib.hid hmf
  clear hw1 hw2 hmf
  go_enter Tryd.func22, Tryd.ntmps22
  go_wp2
  go_ret
  refine ⟨_, rfl, ⟨_, _, rfl, HF.out, fun W x hx hb => ?_⟩, HB.out⟩
  rw [rune_in hhi]
  refine between_in lo hi w.heap.size (w.heap.size + 1) W (kept_cell (w := ((w.alloc (.cells #[.int .i32 (lo : Int)] 21)).alloc (.cells #[.int .i32 (hi : Int)] 21))) ?_ hb (Nat.le_refl _)) (kept_cell (w := ((w.alloc (.cells #[.int .i32 (lo : Int)] 21)).alloc (.cells #[.int .i32 (hi : Int)] 21))) ?_ hb (Nat.le_succ _)) x
  · simp
  · simp
def anyB (L : List (Value × (UInt8 → Bool))) (c : UInt8) : Bool := L.any fun y => y.2 c
theorem rune_any (L : List (Value × (UInt8 → Bool))) (x : Nat) : runeB (anyB L) x = L.any fun y => runeB y.2 x := by
  unfold runeB anyB
  by_cases h : x < 128
  · rw [decide_eq_true h]; simp
  · rw [decide_eq_false h]; simp
set_option maxRecDepth 100000 in
set_option maxHeartbeats 1000000 in
theorem either_in (B g b n cap : Nat) (L : List (Value × (UInt8 → Bool))) (hL : L.length = n) (hn : n ≤ 1000) (w : World) (c0 : w.cell? ⟨g, 0, none⟩ = some (.slice (some ⟨b, 0, none⟩) n cap)) (hg : g < w.heap.size) (hb : b < w.heap.size)
    (hc : ∀ k y, L[k]? = some y → w.cell? ⟨b, k, none⟩ = some y.1) (hm : ∀ y, y ∈ L → MarkIs B w y.1 y.2) (x : Nat) (hx : x ≤ 1114111) :
    Calls Tryd.prog 33 #[.int .i32 (x : Int), .pointer (some ⟨g, 0, none⟩)] w fun e w' => e = .returned (.bool (runeB (anyB L) x)) ∧ Below w.heap.size w w' := by
  rw [rune_any]
  generalize hD : (L.any fun y => runeB y.2 x) = D
  have HD := Lib.hid hD
  clear hD
  go_enter Tryd.func33, Tryd.ntmps33
  go_wp2
  go_loopw [8] (fun i wr => ∃ k : Nat, k ≤ n ∧ i = .int .i64 (k : Int) ∧ Below w.heap.size w wr ∧ ((L.take k).any fun y => runeB y.2 x) = false) (fun i _ => n - (intOf i).toNat)
  case atStart => exact ⟨0, by omega, rfl, Below.refl _ _, rfl⟩
  case round =>
    obtain ⟨k, hk, rfl, hB, hno⟩ := hrel
    by_cases hlt : k < n
    · obtain ⟨y, hy⟩ : ∃ y, L[k]? = some y := ⟨_, List.getElem?_eq_getElem (by omega)⟩
      have hcy := lx_cell (hc k y hy) hB hb
      have hty : L.take (k + 1) = L.take k ++ [y] := by
        rw [List.take_add_one, hy]; rfl
      obtain ⟨v, p⟩ := y
      obtain ⟨F, caps, rfl, hE, hF⟩ := (hm _ (List.mem_of_getElem? hy)).out
      have hF2 := hF wr x hx (kept_below hB)
      have HR := Lib.hid hno
      have HT := Lib.hid hty
      have HBB := Lib.hid hB
      have HY := Lib.hid hy
      clear hm hc hF hno hty hB hy c0 hg hb
      cases hpx : runeB p x with
      | true =>
        rw [hpx] at hF2
        have HP := Lib.hid hpx
        clear hpx
        go_wp2_with (go_at_fn F; refine hF2.mono ?_; rintro e W' ⟨rfl, hb2⟩)
        go_ret
        refine ⟨?_, lx_then HBB.out hb2⟩
        rw [← HD.out]
        have h1 : (L.any fun y => runeB y.2 x) = true := List.any_eq_true.2 ⟨_, List.mem_of_getElem? HY.out, HP.out⟩
        rw [h1]; rfl
      | false =>
        rw [hpx] at hF2
        have HP := Lib.hid hpx
        clear hpx
        go_wp2_with (go_at_fn F; refine hF2.mono ?_; rintro e W' ⟨rfl, hb2⟩)
        go_roundw
        case rel =>
          refine ⟨k + 1, by omega, by go_num, lx_then HBB.out hb2, ?_⟩
          rw [HT.out, List.any_append, HR.out]
          simp [HP.out]
        case measure => simp [intOf]; omega
    · have hkn : k = L.length := by omega
      rw [hkn, List.take_length] at hno
      have HR := Lib.hid hno
      have HBB := Lib.hid hB
      clear hm hc hno hB c0 hg hb
      go_wp2
      go_ret
      exact ⟨by rw [← HD.out, HR.out]; rfl, HBB.out⟩
/-- What strings.ContainsRune tells of such a text, of every rune. -/
def Tells (s : ByteArray) (p : UInt8 → Bool) : Prop := ∀ (x : Nat) (w : World), x ≤ 1114111 → Calls Tryd.prog 35 #[.string s, .int .i32 (x : Int)] w fun e w' => e = .returned (.bool (runeB p x)) ∧ Below w.heap.size w w'
theorem tells_blank : Tells ⟨#[32, 9, 10, 13]⟩ lexB := by
  intro x w hx
  by_cases h : x < 128
  · have h1 := contains_of ⟨#[32, 9, 10, 13]⟩ x _ (Lib.indexByte_ge _ _) (index_low _ x h) w
    have h2 : ∀ c : UInt8, c.toNat < 128 → decide (0 ≤ Lib.indexByte (⟨#[32, 9, 10, 13]⟩ : ByteArray).data.toList c) = lexB c := by
      intro c hc
      show decide (0 ≤ Lib.indexByte [32, 9, 10, 13] c) = decide (c.toNat = 32 ∨ c.toNat = 9 ∨ c.toNat = 10 ∨ c.toNat = 13)
      have e : ∀ d : UInt8, (d == c) = decide (c.toNat = d.toNat) := fun d => by
        by_cases he : d = c
        · subst he; simp
        · rw [beq_eq_false_iff_ne.2 he, decide_eq_false fun h => he (UInt8.toNat_inj.1 h.symm)]
      simp only [Lib.indexByte, e]
      by_cases h1 : c.toNat = 32
      · simp [h1]
      · by_cases h2 : c.toNat = 9
        · simp [h2]
        · by_cases h3 : c.toNat = 10
          · simp [h3]
          · by_cases h4 : c.toNat = 13
            · simp [h4]
            · simp [h1, h2, h3, h4]
    have h3 : (UInt8.ofNat x).toNat = x := by rw [UInt8.toNat_ofNat']; omega
    have h4 := h2 (UInt8.ofNat x) (by rw [h3]; exact h)
    rw [h4] at h1
    unfold runeB
    rw [decide_eq_true h, Bool.true_and]
    exact h1
  · have h1 := contains_of ⟨#[32, 9, 10, 13]⟩ x _ (by omega) (index_blank x (by omega) hx) w
    rw [runeB_high (by omega)]
    exact h1
def lexBar (c : UInt8) : Bool := decide (c.toNat = 95)
theorem tells_bar : Tells ⟨#[95]⟩ lexBar := by
  intro x w hx
  by_cases h : x < 128
  · have h1 := contains_of ⟨#[95]⟩ x _ (Lib.indexByte_ge _ _) (index_low _ x h) w
    have h2 : ∀ c : UInt8, decide (0 ≤ Lib.indexByte (⟨#[95]⟩ : ByteArray).data.toList c) = lexBar c := by
      intro c
      show decide (0 ≤ Lib.indexByte [95] c) = decide (c.toNat = 95)
      by_cases he : 95 = c
      · subst he; rfl
      · have h5 : ¬ c.toNat = 95 := fun h => he (UInt8.toNat_inj.1 (by rw [h]; rfl))
        simp [Lib.indexByte, he, h5]
    rw [h2] at h1
    unfold runeB
    rw [decide_eq_true h, Bool.true_and]
    exact h1
  · have h1 := contains_of ⟨#[95]⟩ x _ (by omega) (index_bar x (by omega) hx) w
    rw [runeB_high (by omega)]
    exact h1
set_option maxRecDepth 100000 in
set_option maxHeartbeats 1000000 in
theorem among_in (s : ByteArray) (p : UInt8 → Bool) (hT : Tells s p) (g : Nat) (w : World) (c0 : w.cell? ⟨g, 0, none⟩ = some (.string s)) (x : Nat) (hx : x ≤ 1114111) :
    Calls Tryd.prog 34 #[.int .i32 (x : Int), .pointer (some ⟨g, 0, none⟩)] w fun e w' => e = .returned (.bool (runeB p x)) ∧ Below w.heap.size w w' := by
  generalize hR : runeB p x = R
  have HR := Lib.hid hR
  clear hR
  go_enter Tryd.func34, Tryd.ntmps34
  go_wp2_with (go_at_call 35; refine (hT x _ hx).mono ?_; (rw [HR.out]); rintro e w4 ⟨rfl, hb⟩)
  go_ret
  exact ⟨rfl, hb⟩
set_option maxRecDepth 100000 in
set_option maxHeartbeats 1000000 in
theorem among_any (s : ByteArray) (p : UInt8 → Bool) (hT : Tells s p) (w : World) :
    Calls Tryd.prog 24 #[.string s] w fun e w' => ∃ v, e = .returned v ∧ MarkIs w.heap.size w' v p ∧ Below w.heap.size w w' := by
  have hw1 := lx_new w (.cells #[.string s] 9)
  have HB := Lib.hid hw1
  have HF := Lib.hid (enters_of (P := Tryd.prog) Tryd.func34 (by kernel_rfl) rfl)
  clear hw1
  go_enter Tryd.func24, Tryd.ntmps24
  go_wp2
  go_ret
  refine ⟨_, rfl, ⟨_, _, rfl, HF.out, fun W x hx hb => ?_⟩, HB.out⟩
  exact among_in s p hT w.heap.size W (kept_cell (w := w.alloc (.cells #[.string s] 9)) (by simp) hb (Nat.le_refl _)) x hx
set_option maxRecDepth 100000 in
set_option maxHeartbeats 1000000 in
theorem either_any (B b n cap : Nat) (L : List (Value × (UInt8 → Bool))) (hL : L.length = n) (hn : n ≤ 1000) (w : World) (hb : b < w.heap.size) (hBb : B ≤ b)
    (hc : ∀ k y, L[k]? = some y → w.cell? ⟨b, k, none⟩ = some y.1) (hm : ∀ y, y ∈ L → MarkIs B w y.1 y.2) :
    Calls Tryd.prog 23 #[.slice (some ⟨b, 0, none⟩) n cap] w fun e w' => ∃ v, e = .returned v ∧ MarkIs B w' v (anyB L) ∧ Below w.heap.size w w' := by
  have hw1 := lx_new w (.cells #[.slice (some ⟨b, 0, none⟩) n cap] 50)
  have HB := Lib.hid hw1
  have HF := Lib.hid (enters_of (P := Tryd.prog) Tryd.func33 (by kernel_rfl) rfl)
  have HC := Lib.hid hc
  have HM := Lib.hid hm
  clear hw1 hc hm
  go_enter Tryd.func23, Tryd.ntmps23
  go_wp2
  go_ret
  refine ⟨_, rfl, ⟨_, _, rfl, HF.out, fun W x hx hb' => ?_⟩, HB.out⟩
  have h1 : w.heap.size < (w.alloc (.cells #[.slice (some ⟨b, 0, none⟩) n cap] 50)).heap.size := by rw [World.size_alloc]; omega
  have hbb : KeptFrom B w W := (kept_below HB.out).trans hb'
  exact either_in B w.heap.size b n cap L hL hn W (kept_cell (w := w.alloc (.cells #[.slice (some ⟨b, 0, none⟩) n cap] 50)) (by simp) hb' (by omega)) (Nat.lt_of_lt_of_le h1 hb'.1) (Nat.lt_of_lt_of_le hb hbb.1)
    (fun k y hy => kept_cell (HC.out k y hy) hbb hBb) (fun y hy => (HM.out y hy).kept hbb) x hx
end Go.Proofs.YtedhnnechjnnfaaDoor
