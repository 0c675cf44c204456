import Derived.Test.YtgiokmfdafmaoaaGreatKNum
import Derived.WalkKit
import Derived.Lib.Hide
import Derived.Laws.Bits64b
import Derived.Test.YtgiokmfdafmaoaaGreatKUp
import Derived.Test.YtgiokmfdafmaoaaGreatKLong
import Derived.BigRegion
import Derived.Below
import Derived.Deep.Draws
/- Dv DvA. -/
/- bits.Div64: two words by one. -/
namespace Go.Proofs.YtgiokmfdafmaoaaGreat
set_option linter.unusedVariables false
set_option linter.unusedSimpArgs false
/-- One digit's guess, counted down. -/
structure Gs (u y yn1 yn0 d b q r : Nat) : Prop where
  sum : q * yn1 + r = u
  ge : (u * b + d) / y ≤ q
  le : q ≤ b + 1
  lt : r < b
theorem gs_start {u y yn1 yn0 d b : Nat} (hy : yn1 * b + yn0 = y) (hn : b ≤ 2 * yn1) (h0 : yn0 < b) (hu : u < y) (hd : d < b) (h1 : yn1 < b) : Gs u y yn1 yn0 d b (u / yn1) (u % yn1) := by
  have hb : 0 < yn1 := by omega
  have hyp : 0 < y := by omega
  refine ⟨by rw [Nat.mul_comm]; exact Nat.div_add_mod u yn1, ?_, ?_, Nat.lt_trans (Nat.mod_lt _ hb) h1⟩
  · rw [Nat.le_div_iff_mul_le hb]
    have e := Nat.div_mul_le_self (u * b + d) y
    generalize (u * b + d) / y = q at *
    -- q * yn1 * b ≤ q * y ≤ u * b + d < (u + 1) * b
    have e2 : q * yn1 * b ≤ q * y := by
      rw [← hy, Nat.mul_add, Nat.mul_assoc]; omega
    have e3 : q * yn1 * b < (u + 1) * b := by rw [Nat.add_mul]; omega
    have := Nat.lt_of_mul_lt_mul_right e3
    omega
  · have e : u / yn1 < b + 2 := by
      rw [Nat.div_lt_iff_lt_mul hb, Nat.add_mul, Nat.mul_comm b yn1]; omega
    omega
theorem gs_done {u y yn1 yn0 d b q r : Nat} (hy : yn1 * b + yn0 = y) (hyp : 0 < y) (h : Gs u y yn1 yn0 d b q r) (h2 : q * yn0 ≤ b * r + d) : q = (u * b + d) / y := by
  have e : q ≤ (u * b + d) / y := by
    rw [Nat.le_div_iff_mul_le hyp, ← hy, ← h.sum, Nat.mul_add, Nat.add_mul, Nat.mul_assoc, Nat.mul_comm r b]
    omega
  have := h.ge
  omega
theorem gs_more {u y yn1 yn0 d b q r : Nat} (hy : yn1 * b + yn0 = y) (hyp : 0 < y) (hu : u < y) (hd : d < b) (h : Gs u y yn1 yn0 d b q r) (h2 : b ≤ q ∨ b * r + d < q * yn0) : (u * b + d) / y < q := by
  rw [Nat.div_lt_iff_lt_mul hyp]
  rcases h2 with h2 | h2
  · have e1 : b * y ≤ q * y := Nat.mul_le_mul_right _ h2
    have e2 : (u + 1) * b ≤ y * b := Nat.mul_le_mul_right _ hu
    rw [Nat.add_mul, Nat.mul_comm y b] at e2
    omega
  · rw [← hy, ← h.sum, Nat.mul_add, Nat.add_mul, Nat.mul_assoc, Nat.mul_comm r b]
    omega
theorem gs_next {u y yn1 yn0 d b q r : Nat} (h : Gs u y yn1 yn0 d b q r) (h2 : (u * b + d) / y < q) (h3 : r + yn1 < b) : Gs u y yn1 yn0 d b (q - 1) (r + yn1) := by
  obtain ⟨k, rfl⟩ : ∃ k, q = k + 1 := Nat.exists_eq_succ_of_ne_zero (by rintro rfl; exact Nat.not_lt_zero _ h2)
  have e := h.sum
  rw [Nat.add_mul] at e
  have hl := h.le
  have hle := Nat.le_of_lt_succ h2
  clear h h2
  refine ⟨?_, hle, ?_, h3⟩
  · simp only [Nat.add_sub_cancel]
    omega
  · simp only [Nat.add_sub_cancel]
    omega
theorem gs_break {u y yn1 yn0 d b q r : Nat} (hy : yn1 * b + yn0 = y) (hyp : 0 < y) (h0 : yn0 < b) (h : Gs u y yn1 yn0 d b q r) (h2 : (u * b + d) / y < q) (h3 : b ≤ r + yn1) : q - 1 = (u * b + d) / y := by
  obtain ⟨k, rfl⟩ : ∃ k, q = k + 1 := Nat.exists_eq_succ_of_ne_zero (by rintro rfl; exact Nat.not_lt_zero _ h2)
  have e := h.sum
  rw [Nat.add_mul] at e
  simp only [Nat.add_sub_cancel]
  have hk : k ≤ b := by have := h.le; clear h2; omega
  have e2 : k ≤ (u * b + d) / y := by
    have e3 : k * yn0 ≤ b * (r + yn1) := Nat.mul_le_mul hk (Nat.le_trans (Nat.le_of_lt h0) h3)
    rw [Nat.le_div_iff_mul_le hyp, ← hy, ← e, Nat.mul_add, Nat.add_mul, Nat.add_mul, Nat.mul_assoc]
    rw [Nat.mul_add] at e3
    have e4 : 1 * yn1 * b = b * yn1 := by rw [Nat.one_mul, Nat.mul_comm]
    have e5 : r * b = b * r := Nat.mul_comm _ _
    omega
  exact Nat.le_antisymm e2 (Nat.le_of_lt_succ h2)
/-- Two digits, one behind the other. -/
theorem two_digits {u y d1 d0 b : Nat} (hyp : 0 < y) : ((u * b + d1) / y) * b + (((u * b + d1) % y) * b + d0) / y = ((u * b + d1) * b + d0) / y ∧ (((u * b + d1) % y) * b + d0) % y = ((u * b + d1) * b + d0) % y := by
  have e := Nat.div_add_mod (u * b + d1) y
  generalize u * b + d1 = n at *
  have e2 : n * b + d0 = (n % y * b + d0) + y * (n / y * b) := by
    conv => lhs; rw [← e, Nat.add_mul, Nat.mul_assoc]
    omega
  rw [e2, Nat.add_mul_div_left _ _ hyp, Nat.add_mul_mod_self_left]
  exact ⟨by omega, rfl⟩
/-- What is divided and what it is divided by, raised alike. -/
theorem raised {n y p : Nat} (hp : 0 < p) : (n * p) / (y * p) = n / y ∧ (n * p) % (y * p) / p = n % y :=
  ⟨Nat.mul_div_mul_right _ _ hp, by rw [Nat.mul_mod_mul_right, Nat.mul_div_cancel _ hp]⟩
end Go.Proofs.YtgiokmfdafmaoaaGreat

/- bits.Div64: the walk. -/
namespace Go.Proofs.YtgiokmfdafmaoaaGreat
open Go.RowKit
set_option linter.unusedVariables false
set_option linter.unusedSimpArgs false

set_option maxRecDepth 100000 in
set_option maxHeartbeats 1000000 in
theorem div64_low (lo y : Nat) (hl : lo < B64) (hy : y < B64) (h0 : 0 < y) (w : World) :
    Calls Tryz.prog 131 #[.int .u64 0, .int .u64 (lo : Int), .int .u64 (y : Int)] w fun e w' => e = .returned (.tuple #[.int .u64 ((lo / y : Nat) : Int), .int .u64 ((lo % y : Nat) : Int)]) ∧ ∃ k, w' = w.drewN k := by
  have hy0 : ((y : Int) == 0) = false := by simp; omega
  have hle : ¬ ((y : Int) ≤ 0) := by omega
  have hq : IntKind.u64.wrap ((lo : Int) / (y : Int)) = ((lo / y : Nat) : Int) := by
    have h1 := Nat.div_le_self lo y
    rw [B64_eq] at hl
    rw [show (lo : Int) / (y : Int) = ((lo / y : Nat) : Int) by simp, IntKind.wrap_u64]
    generalize lo / y = q at *
    omega
  have HQ := Lib.hid hq
  rw [B64_eq] at hl hy
  clear hq
  go_enter Tryz.func131, Tryz.ntmps131
  go_wp2
  go_region
  go_wp2
  go_ret2
  refine ⟨?_, 1, rfl⟩
  rw [← HQ.out, ← Int.natCast_emod lo y]
  rfl

/-- What a round reckons. -/
theorem dv_words {q yn0 r d : Nat} (hq : q ≤ 4294967296 + 1) (h0 : yn0 < 4294967296) (hr : r < 4294967296) (hd : d < 4294967296) :
    IntKind.u64.wrap ((q : Int) * (yn0 : Int)) = ((q * yn0 : Nat) : Int) ∧ IntKind.u64.wrap (4294967296 * (r : Int)) = ((4294967296 * r : Nat) : Int) ∧ IntKind.u64.wrap (((4294967296 * r : Nat) : Int) + (d : Int)) = ((4294967296 * r + d : Nat) : Int) := by
  have h : q * yn0 ≤ (4294967296 + 1) * 4294967295 := Nat.mul_le_mul hq (by omega)
  refine ⟨?_, ?_, ?_⟩
  · rw [← Int.natCast_mul, IntKind.wrap_u64]
    generalize q * yn0 = A at *
    omega
  · rw [IntKind.wrap_u64]; omega
  · rw [IntKind.wrap_u64]; omega
theorem dv_start {u yn1 : Nat} (hu : u < B64) (h : 0 < yn1) : IntKind.u64.wrap ((u : Int) / (yn1 : Int)) = ((u / yn1 : Nat) : Int) ∧ IntKind.u64.wrap ((u : Int) - IntKind.u64.wrap (((u / yn1 : Nat) : Int) * (yn1 : Int))) = ((u % yn1 : Nat) : Int) := by
  have h1 := Nat.div_le_self u yn1
  have h2 := Nat.div_add_mod u yn1
  have h3 := Nat.mod_lt u h
  rw [B64_eq] at hu
  rw [← Int.natCast_ediv, ← Int.natCast_mul, Nat.mul_comm (u / yn1)]
  generalize yn1 * (u / yn1) = p at *
  generalize u / yn1 = q at *
  generalize u % yn1 = m at *
  rw [IntKind.wrap_u64, IntKind.wrap_u64, IntKind.wrap_u64]
  omega
theorem dv_rest {n d q y : Nat} (hy : 0 < y) (hy2 : y < B64) (hq : q = (n * 4294967296 + d) / y) : IntKind.u64.wrap (IntKind.u64.wrap (IntKind.u64.wrap ((n : Int) * 4294967296) + (d : Int)) - IntKind.u64.wrap ((q : Int) * (y : Int))) = (((n * 4294967296 + d) % y : Nat) : Int) := by
  generalize hb : 4294967296 = b at *
  have e : ((4294967296 : Int)) = (b : Int) := by rw [← hb]; rfl
  rw [e]
  have h2 := Nat.div_add_mod (n * b + d) y
  have h3 := Nat.mod_lt (n * b + d) hy
  rw [← hq] at h2
  rw [B64_eq] at hy2
  rw [← Int.natCast_mul, ← Int.natCast_mul, Nat.mul_comm q]
  generalize y * q = p at *
  generalize (n * b + d) % y = m at *
  generalize n * b = k at *
  simp only [IntKind.wrap_u64]
  omega

theorem dv_small {u Y d : Nat} (hu : u < Y) (hd : d < 4294967296) : (u * 4294967296 + d) / Y < 4294967296 := by
  rw [Nat.div_lt_iff_lt_mul (by omega)]
  have := Nat.mul_le_mul_right 4294967296 (show u + 1 ≤ Y from hu)
  omega
theorem int_le_true {a b : Nat} (h : a ≤ b) : decide ((a : Int) ≤ (b : Int)) = true := by simp; omega
theorem dv_dec {q : Nat} (h : 4294967296 ≤ q) : decide ((4294967296 : Int) ≤ (q : Int)) = true := by simp; omega
theorem dv_decn {q : Nat} (h : q < 4294967296) : decide ((4294967296 : Int) ≤ (q : Int)) = false := by simp; omega
theorem dv_less {a b : Nat} (h : a < b) : decide ((a : Int) < (b : Int)) = true := by simp; omega
theorem dv_lessn {a b : Nat} (h : b ≤ a) : decide ((a : Int) < (b : Int)) = false := by simp; omega
theorem dv_dec1 {q : Nat} (h : q < B64) (h0 : 0 < q) : IntKind.u64.wrap ((q : Int) - 1) = ((q - 1 : Nat) : Int) := by rw [IntKind.wrap_u64]; rw [B64_eq] at h; omega
theorem dv_add {x y : Nat} (h : x + y < B64) : IntKind.u64.wrap ((x : Int) + (y : Int)) = ((x + y : Nat) : Int) := by rw [IntKind.wrap_u64]; rw [B64_eq] at h; omega

set_option maxRecDepth 100000 in
set_option maxHeartbeats 1000000 in
theorem div64_high (hi lo y s Y yn1 yn0 u L d1 d0 : Nat) (hl : lo < B64) (hy : y < B64) (hh : hi < y) (h0 : 0 < hi) (hs : s ≤ 63) 
   (hY : IntKind.u64.wrap ((y : Int) * 2 ^ s) = (Y : Int)) (h1 : (Y : Int) / 4294967296 = (yn1 : Int)) (h2 : bits .and .u64 (Y : Int) 4294967295 = (yn0 : Int))
   (hU : bits .or .u64 (IntKind.u64.wrap ((hi : Int) * 2 ^ s)) ((lo : Int) / 2 ^ (64 - s)) = (u : Int)) (hL : IntKind.u64.wrap ((lo : Int) * 2 ^ s) = (L : Int)) (h3 : (L : Int) / 4294967296 = (d1 : Int)) (h4 : bits .and .u64 (L : Int) 4294967295 = (d0 : Int))
   (hYn : yn1 * 4294967296 + yn0 = Y) (hb1 : 4294967296 ≤ 2 * yn1) (hyn0 : yn0 < 4294967296) (hyn1 : yn1 < 4294967296) (hu : u < Y) (hd1 : d1 < 4294967296) (hd0 : d0 < 4294967296)
   (RQ RR : Nat) (hRQ : Hid (RQ = ((u * 4294967296 + d1) / Y) * 4294967296 + (((u * 4294967296 + d1) % Y) * 4294967296 + d0) / Y)) (hRR : Hid (RR = (((u * 4294967296 + d1) % Y) * 4294967296 + d0) % Y / 2 ^ s))
   (w : World)
   (hlz : Calls Tryz.prog 124 #[.int .u64 (y : Int)] w fun e w' => e = .returned (.int .i64 (s : Int)) ∧ w' = w) :
    Calls Tryz.prog 131 #[.int .u64 (hi : Int), .int .u64 (lo : Int), .int .u64 (y : Int)] w fun e w' => e = .returned (.tuple #[.int .u64 (RQ : Int), .int .u64 (RR : Int)]) ∧ ∃ k, w' = w.drewN k := by
  have hy0 : ((y : Int) == 0) = false := by simp; omega
  have hh0 : ((hi : Int) == 0) = false := by simp; omega
  have hle : ¬ ((y : Int) ≤ (hi : Int)) := by omega
  have hn0 : ¬ ((yn1 : Int) = 0) := by omega
  have hYB : Y < B64 := by rw [B64_eq]; omega
  obtain ⟨e1, e2⟩ := dv_start (u := u) (yn1 := yn1) (by omega) (by omega)
  have hg := gs_start hYn hb1 hyn0 hu hd1 hyn1
  generalize u / yn1 = q0 at *
  generalize u % yn1 = r0 at *
  have HG := Lib.hid hg
  have HYN := Lib.hid hYn
  have HB1 := Lib.hid hb1
  rw [B64_eq] at hl hy
  clear hg hYn hb1
  go_enter Tryz.func131, Tryz.ntmps131
  go_wp2_with fail
  refine hlz.mono ?_
  rintro e w' ⟨rfl, rfl⟩
  go_wp2
  clear e1 e2 hY h1 h2 hU hL h3 h4 hy0 hh0 hle hl hy hh h0
  go_loop [15, 16] (fun vq vr => ∃ q r : Nat, vq = .int .u64 (q : Int) ∧ vr = .int .u64 (r : Int) ∧ Gs u Y yn1 yn0 d1 4294967296 q r) (fun vq _ => (intOf vq).toNat)
  case atStart => exact ⟨q0, r0, rfl, rfl, HG.out⟩
  case round =>
    obtain ⟨q, r, rfl, rfl, hg⟩ := hrel
    obtain ⟨w1, w2, w3⟩ := dv_words hg.le hyn0 hg.lt hd1
    have hqr : q ≤ 4294967297 ∧ r < 4294967296 := ⟨hg.le, hg.lt⟩
    have t3 := dv_add (x := r) (y := yn1) (by rw [B64_eq]; omega)
    by_cases hbq : 4294967296 ≤ q
    · have t1 := dv_dec hbq
      have hm := gs_more HYN.out (by omega) hu hd1 hg (.inl hbq)
      have hq0 : 0 < q := Nat.lt_of_le_of_lt (Nat.zero_le _) hm
      have t2 := dv_dec1 (q := q) (by rw [B64_eq]; omega) hq0
      by_cases hbr : 4294967296 ≤ r + yn1
      · have hx := gs_break HYN.out (by omega) hyn0 hg hm hbr
        have t4 := dv_dec hbr
        generalize hk : q - 1 = k at *
        generalize hr2 : r + yn1 = r2 at *
        have HX := Lib.hid hx
        clear hx hm hg hk hr2 hqr hbr hbq hq0 w1 w2 w3
        have e3 := dv_rest (n := u) (d := d1) (by omega) hYB HX.out
        have hU1 : (u * 4294967296 + d1) % Y < Y := Nat.mod_lt _ (by omega)
        have hQ1 : k < 4294967296 := by rw [HX.out]; exact dv_small hu hd1
        have hq := hRQ.out
        have hr := hRR.out
        rw [← HX.out] at hq
        obtain ⟨e1, e2⟩ := dv_start (u := (u * 4294967296 + d1) % Y) (yn1 := yn1) (by omega) (by omega)
        have hg2 := gs_start HYN.out HB1.out hyn0 hU1 hd0 hyn1
        obtain ⟨U1, hu1⟩ : ∃ x, (u * 4294967296 + d1) % Y = x := ⟨_, rfl⟩
        rw [hu1] at e1 e2 e3 hg2 hq hr hU1
        obtain ⟨q1, hq1⟩ : ∃ x, U1 / yn1 = x := ⟨_, rfl⟩
        obtain ⟨r1, hr1⟩ : ∃ x, U1 % yn1 = x := ⟨_, rfl⟩
        rw [hq1] at e1 e2 hg2
        rw [hr1] at e2 hg2
        clear hu1 hq1 hr1
        have HG2 := Lib.hid hg2
        have HRQ := Lib.hid hq
        have HRR := Lib.hid hr
        clear hg2 HX hq hr hRQ hRR
        generalize k = Q1 at *
        have HU1L := Lib.hid hU1
        have HQ1 := Lib.hid hQ1
        clear hQ1 hU1
        go_wp2
        clear e1 e2 e3
        go_loop [18, 16] (fun vq vr => ∃ q r : Nat, vq = .int .u64 (q : Int) ∧ vr = .int .u64 (r : Int) ∧ Gs U1 Y yn1 yn0 d0 4294967296 q r) (fun vq _ => (intOf vq).toNat)
        case atStart => exact ⟨q1, r1, rfl, rfl, HG2.out⟩
        case round =>
          have hU1 := HU1L.out
          obtain ⟨q, r, rfl, rfl, hg⟩ := hrel
          obtain ⟨w1, w2, w3⟩ := dv_words hg.le hyn0 hg.lt hd0
          have hqr : q ≤ 4294967297 ∧ r < 4294967296 := ⟨hg.le, hg.lt⟩
          have t3 := dv_add (x := r) (y := yn1) (by rw [B64_eq]; omega)
          by_cases hbq : 4294967296 ≤ q
          · have t1 := dv_dec hbq
            have hm := gs_more HYN.out (by omega) hU1 hd0 hg (.inl hbq)
            have hq0 : 0 < q := Nat.lt_of_le_of_lt (Nat.zero_le _) hm
            have t2 := dv_dec1 (q := q) (by rw [B64_eq]; omega) hq0
            by_cases hbr : 4294967296 ≤ r + yn1
            · have hx := gs_break HYN.out (by omega) hyn0 hg hm hbr
              have t4 := dv_dec hbr
              generalize hk : q - 1 = k at *
              generalize hr2 : r + yn1 = r2 at *
              have HX := Lib.hid hx
              clear hx hm hg hk hr2 hqr hbr hbq hq0 w1 w2 w3
              have hx0 : k < 4294967296 := by rw [HX.out]; exact dv_small HU1L.out hd0
              have e5 := dv_rest (n := U1) (d := d0) (by omega) hYB HX.out
              have e6 : RQ = Q1 * 4294967296 + k := by rw [HRQ.out, HX.out]
              have e7 := HRR.out
              have e8 : IntKind.u64.wrap (IntKind.u64.wrap ((Q1 : Int) * 4294967296) + (k : Int)) = (RQ : Int) := by rw [e6, IntKind.wrap_u64, IntKind.wrap_u64]; have := HQ1.out; omega
              obtain ⟨R0, hR0⟩ : ∃ x, (U1 * 4294967296 + d0) % Y = x := ⟨_, rfl⟩
              rw [hR0] at e5 e7
              have e9 : (R0 : Int) / 2 ^ s = (RR : Int) := by rw [e7]; simp
              clear e6 e7 HX HRQ HRR hR0 hx0
              go_wp2
              go_ret2
              exact ⟨rfl, 0, rfl⟩
            · have hx := gs_next hg hm (by omega)
              have t4 := dv_decn (q := r + yn1) (by omega)
              have hgt : q - 1 < q := by omega
              generalize hk : q - 1 = k at *
              generalize hr2 : r + yn1 = r2 at *
              have HX := Lib.hid hx
              clear hx hm hg hk hr2 hqr hbr hbq hq0 w1 w2 w3
              go_wp2
              go_round
              case rel => exact ⟨k, r2, rfl, rfl, HX.out⟩
              case measure => simp [intOf]; omega
          · have t1 := dv_decn (q := q) (by omega)
            by_cases hpr : 4294967296 * r + d0 < q * yn0
            · have t5 := dv_less hpr
              generalize hA : 4294967296 * r = A at *
              generalize hB : A + d0 = B at *
              generalize hC : q * yn0 = C at *
              have hm := gs_more HYN.out (by omega) hU1 hd0 hg (.inr (by rw [hA, hB, hC]; exact hpr))
              have hq0 : 0 < q := Nat.lt_of_le_of_lt (Nat.zero_le _) hm
              have t2 := dv_dec1 (q := q) (by rw [B64_eq]; omega) hq0
              by_cases hbr : 4294967296 ≤ r + yn1
              · have hx := gs_break HYN.out (by omega) hyn0 hg hm hbr
                have t4 := dv_dec hbr
                generalize hk : q - 1 = k at *
                generalize hr2 : r + yn1 = r2 at *
                have HX := Lib.hid hx
                clear hx hm hg hk hr2 hqr hbr hbq hq0 hA hB hC
                have hx0 : k < 4294967296 := by rw [HX.out]; exact dv_small HU1L.out hd0
                have e5 := dv_rest (n := U1) (d := d0) (by omega) hYB HX.out
                have e6 : RQ = Q1 * 4294967296 + k := by rw [HRQ.out, HX.out]
                have e7 := HRR.out
                have e8 : IntKind.u64.wrap (IntKind.u64.wrap ((Q1 : Int) * 4294967296) + (k : Int)) = (RQ : Int) := by rw [e6, IntKind.wrap_u64, IntKind.wrap_u64]; have := HQ1.out; omega
                obtain ⟨R0, hR0⟩ : ∃ x, (U1 * 4294967296 + d0) % Y = x := ⟨_, rfl⟩
                rw [hR0] at e5 e7
                have e9 : (R0 : Int) / 2 ^ s = (RR : Int) := by rw [e7]; simp
                clear e6 e7 HX HRQ HRR hR0 hx0
                go_wp2
                go_ret2
                exact ⟨rfl, 0, rfl⟩
              · have hx := gs_next hg hm (by omega)
                have t4 := dv_decn (q := r + yn1) (by omega)
                have hgt : q - 1 < q := by omega
                generalize hk : q - 1 = k at *
                generalize hr2 : r + yn1 = r2 at *
                have HX := Lib.hid hx
                clear hx hm hg hk hr2 hqr hbr hbq hq0 hA hB hC
                go_wp2
                go_round
                case rel => exact ⟨k, r2, rfl, rfl, HX.out⟩
                case measure => simp [intOf]; omega
            · have t5 := dv_lessn (a := 4294967296 * r + d0) (b := q * yn0) (by omega)
              have hx := gs_done HYN.out (by omega) hg (by omega)
              generalize hA : 4294967296 * r = A at *
              generalize hB : A + d0 = B at *
              generalize hC : q * yn0 = C at *
              have HX := Lib.hid hx
              clear hx hA hB hC hg hqr hbq t3
              have hx0 : q < 4294967296 := by rw [HX.out]; exact dv_small HU1L.out hd0
              have e5 := dv_rest (n := U1) (d := d0) (by omega) hYB HX.out
              have e6 : RQ = Q1 * 4294967296 + q := by rw [HRQ.out, HX.out]
              have e7 := HRR.out
              have e8 : IntKind.u64.wrap (IntKind.u64.wrap ((Q1 : Int) * 4294967296) + (q : Int)) = (RQ : Int) := by rw [e6, IntKind.wrap_u64, IntKind.wrap_u64]; have := HQ1.out; omega
              obtain ⟨R0, hR0⟩ : ∃ x, (U1 * 4294967296 + d0) % Y = x := ⟨_, rfl⟩
              rw [hR0] at e5 e7
              have e9 : (R0 : Int) / 2 ^ s = (RR : Int) := by rw [e7]; simp
              clear e6 e7 HX HRQ HRR hR0 hx0
              go_wp2
              go_ret2
              exact ⟨rfl, 0, rfl⟩
      · have hx := gs_next hg hm (by omega)
        have t4 := dv_decn (q := r + yn1) (by omega)
        have hgt : q - 1 < q := by omega
        generalize hk : q - 1 = k at *
        generalize hr2 : r + yn1 = r2 at *
        have HX := Lib.hid hx
        clear hx hm hg hk hr2 hqr hbr hbq hq0 w1 w2 w3
        go_wp2
        go_round
        case rel => exact ⟨k, r2, rfl, rfl, HX.out⟩
        case measure => simp [intOf]; omega
    · have t1 := dv_decn (q := q) (by omega)
      by_cases hpr : 4294967296 * r + d1 < q * yn0
      · have t5 := dv_less hpr
        generalize hA : 4294967296 * r = A at *
        generalize hB : A + d1 = B at *
        generalize hC : q * yn0 = C at *
        have hm := gs_more HYN.out (by omega) hu hd1 hg (.inr (by rw [hA, hB, hC]; exact hpr))
        have hq0 : 0 < q := Nat.lt_of_le_of_lt (Nat.zero_le _) hm
        have t2 := dv_dec1 (q := q) (by rw [B64_eq]; omega) hq0
        by_cases hbr : 4294967296 ≤ r + yn1
        · have hx := gs_break HYN.out (by omega) hyn0 hg hm hbr
          have t4 := dv_dec hbr
          generalize hk : q - 1 = k at *
          generalize hr2 : r + yn1 = r2 at *
          have HX := Lib.hid hx
          clear hx hm hg hk hr2 hqr hbr hbq hq0 hA hB hC
          have e3 := dv_rest (n := u) (d := d1) (by omega) hYB HX.out
          have hU1 : (u * 4294967296 + d1) % Y < Y := Nat.mod_lt _ (by omega)
          have hQ1 : k < 4294967296 := by rw [HX.out]; exact dv_small hu hd1
          have hq := hRQ.out
          have hr := hRR.out
          rw [← HX.out] at hq
          obtain ⟨e1, e2⟩ := dv_start (u := (u * 4294967296 + d1) % Y) (yn1 := yn1) (by omega) (by omega)
          have hg2 := gs_start HYN.out HB1.out hyn0 hU1 hd0 hyn1
          obtain ⟨U1, hu1⟩ : ∃ x, (u * 4294967296 + d1) % Y = x := ⟨_, rfl⟩
          rw [hu1] at e1 e2 e3 hg2 hq hr hU1
          obtain ⟨q1, hq1⟩ : ∃ x, U1 / yn1 = x := ⟨_, rfl⟩
          obtain ⟨r1, hr1⟩ : ∃ x, U1 % yn1 = x := ⟨_, rfl⟩
          rw [hq1] at e1 e2 hg2
          rw [hr1] at e2 hg2
          clear hu1 hq1 hr1
          have HG2 := Lib.hid hg2
          have HRQ := Lib.hid hq
          have HRR := Lib.hid hr
          clear hg2 HX hq hr hRQ hRR
          generalize k = Q1 at *
          have HU1L := Lib.hid hU1
          have HQ1 := Lib.hid hQ1
          clear hQ1 hU1
          go_wp2
          clear e1 e2 e3
          go_loop [18, 16] (fun vq vr => ∃ q r : Nat, vq = .int .u64 (q : Int) ∧ vr = .int .u64 (r : Int) ∧ Gs U1 Y yn1 yn0 d0 4294967296 q r) (fun vq _ => (intOf vq).toNat)
          case atStart => exact ⟨q1, r1, rfl, rfl, HG2.out⟩
          case round =>
            have hU1 := HU1L.out
            obtain ⟨q, r, rfl, rfl, hg⟩ := hrel
            obtain ⟨w1, w2, w3⟩ := dv_words hg.le hyn0 hg.lt hd0
            have hqr : q ≤ 4294967297 ∧ r < 4294967296 := ⟨hg.le, hg.lt⟩
            have t3 := dv_add (x := r) (y := yn1) (by rw [B64_eq]; omega)
            by_cases hbq : 4294967296 ≤ q
            · have t1 := dv_dec hbq
              have hm := gs_more HYN.out (by omega) hU1 hd0 hg (.inl hbq)
              have hq0 : 0 < q := Nat.lt_of_le_of_lt (Nat.zero_le _) hm
              have t2 := dv_dec1 (q := q) (by rw [B64_eq]; omega) hq0
              by_cases hbr : 4294967296 ≤ r + yn1
              · have hx := gs_break HYN.out (by omega) hyn0 hg hm hbr
                have t4 := dv_dec hbr
                generalize hk : q - 1 = k at *
                generalize hr2 : r + yn1 = r2 at *
                have HX := Lib.hid hx
                clear hx hm hg hk hr2 hqr hbr hbq hq0 w1 w2 w3
                have hx0 : k < 4294967296 := by rw [HX.out]; exact dv_small HU1L.out hd0
                have e5 := dv_rest (n := U1) (d := d0) (by omega) hYB HX.out
                have e6 : RQ = Q1 * 4294967296 + k := by rw [HRQ.out, HX.out]
                have e7 := HRR.out
                have e8 : IntKind.u64.wrap (IntKind.u64.wrap ((Q1 : Int) * 4294967296) + (k : Int)) = (RQ : Int) := by rw [e6, IntKind.wrap_u64, IntKind.wrap_u64]; have := HQ1.out; omega
                obtain ⟨R0, hR0⟩ : ∃ x, (U1 * 4294967296 + d0) % Y = x := ⟨_, rfl⟩
                rw [hR0] at e5 e7
                have e9 : (R0 : Int) / 2 ^ s = (RR : Int) := by rw [e7]; simp
                clear e6 e7 HX HRQ HRR hR0 hx0
                go_wp2
                go_ret2
                exact ⟨rfl, 0, rfl⟩
              · have hx := gs_next hg hm (by omega)
                have t4 := dv_decn (q := r + yn1) (by omega)
                have hgt : q - 1 < q := by omega
                generalize hk : q - 1 = k at *
                generalize hr2 : r + yn1 = r2 at *
                have HX := Lib.hid hx
                clear hx hm hg hk hr2 hqr hbr hbq hq0 w1 w2 w3
                go_wp2
                go_round
                case rel => exact ⟨k, r2, rfl, rfl, HX.out⟩
                case measure => simp [intOf]; omega
            · have t1 := dv_decn (q := q) (by omega)
              by_cases hpr : 4294967296 * r + d0 < q * yn0
              · have t5 := dv_less hpr
                generalize hA : 4294967296 * r = A at *
                generalize hB : A + d0 = B at *
                generalize hC : q * yn0 = C at *
                have hm := gs_more HYN.out (by omega) hU1 hd0 hg (.inr (by rw [hA, hB, hC]; exact hpr))
                have hq0 : 0 < q := Nat.lt_of_le_of_lt (Nat.zero_le _) hm
                have t2 := dv_dec1 (q := q) (by rw [B64_eq]; omega) hq0
                by_cases hbr : 4294967296 ≤ r + yn1
                · have hx := gs_break HYN.out (by omega) hyn0 hg hm hbr
                  have t4 := dv_dec hbr
                  generalize hk : q - 1 = k at *
                  generalize hr2 : r + yn1 = r2 at *
                  have HX := Lib.hid hx
                  clear hx hm hg hk hr2 hqr hbr hbq hq0 hA hB hC
                  have hx0 : k < 4294967296 := by rw [HX.out]; exact dv_small HU1L.out hd0
                  have e5 := dv_rest (n := U1) (d := d0) (by omega) hYB HX.out
                  have e6 : RQ = Q1 * 4294967296 + k := by rw [HRQ.out, HX.out]
                  have e7 := HRR.out
                  have e8 : IntKind.u64.wrap (IntKind.u64.wrap ((Q1 : Int) * 4294967296) + (k : Int)) = (RQ : Int) := by rw [e6, IntKind.wrap_u64, IntKind.wrap_u64]; have := HQ1.out; omega
                  obtain ⟨R0, hR0⟩ : ∃ x, (U1 * 4294967296 + d0) % Y = x := ⟨_, rfl⟩
                  rw [hR0] at e5 e7
                  have e9 : (R0 : Int) / 2 ^ s = (RR : Int) := by rw [e7]; simp
                  clear e6 e7 HX HRQ HRR hR0 hx0
                  go_wp2
                  go_ret2
                  exact ⟨rfl, 0, rfl⟩
                · have hx := gs_next hg hm (by omega)
                  have t4 := dv_decn (q := r + yn1) (by omega)
                  have hgt : q - 1 < q := by omega
                  generalize hk : q - 1 = k at *
                  generalize hr2 : r + yn1 = r2 at *
                  have HX := Lib.hid hx
                  clear hx hm hg hk hr2 hqr hbr hbq hq0 hA hB hC
                  go_wp2
                  go_round
                  case rel => exact ⟨k, r2, rfl, rfl, HX.out⟩
                  case measure => simp [intOf]; omega
              · have t5 := dv_lessn (a := 4294967296 * r + d0) (b := q * yn0) (by omega)
                have hx := gs_done HYN.out (by omega) hg (by omega)
                generalize hA : 4294967296 * r = A at *
                generalize hB : A + d0 = B at *
                generalize hC : q * yn0 = C at *
                have HX := Lib.hid hx
                clear hx hA hB hC hg hqr hbq t3
                have hx0 : q < 4294967296 := by rw [HX.out]; exact dv_small HU1L.out hd0
                have e5 := dv_rest (n := U1) (d := d0) (by omega) hYB HX.out
                have e6 : RQ = Q1 * 4294967296 + q := by rw [HRQ.out, HX.out]
                have e7 := HRR.out
                have e8 : IntKind.u64.wrap (IntKind.u64.wrap ((Q1 : Int) * 4294967296) + (q : Int)) = (RQ : Int) := by rw [e6, IntKind.wrap_u64, IntKind.wrap_u64]; have := HQ1.out; omega
                obtain ⟨R0, hR0⟩ : ∃ x, (U1 * 4294967296 + d0) % Y = x := ⟨_, rfl⟩
                rw [hR0] at e5 e7
                have e9 : (R0 : Int) / 2 ^ s = (RR : Int) := by rw [e7]; simp
                clear e6 e7 HX HRQ HRR hR0 hx0
                go_wp2
                go_ret2
                exact ⟨rfl, 0, rfl⟩
        · have hx := gs_next hg hm (by omega)
          have t4 := dv_decn (q := r + yn1) (by omega)
          have hgt : q - 1 < q := by omega
          generalize hk : q - 1 = k at *
          generalize hr2 : r + yn1 = r2 at *
          have HX := Lib.hid hx
          clear hx hm hg hk hr2 hqr hbr hbq hq0 hA hB hC
          go_wp2
          go_round
          case rel => exact ⟨k, r2, rfl, rfl, HX.out⟩
          case measure => simp [intOf]; omega
      · have t5 := dv_lessn (a := 4294967296 * r + d1) (b := q * yn0) (by omega)
        have hx := gs_done HYN.out (by omega) hg (by omega)
        generalize hA : 4294967296 * r = A at *
        generalize hB : A + d1 = B at *
        generalize hC : q * yn0 = C at *
        have HX := Lib.hid hx
        clear hx hA hB hC hg hqr hbq t3
        have e3 := dv_rest (n := u) (d := d1) (by omega) hYB HX.out
        have hU1 : (u * 4294967296 + d1) % Y < Y := Nat.mod_lt _ (by omega)
        have hQ1 : q < 4294967296 := by rw [HX.out]; exact dv_small hu hd1
        have hq := hRQ.out
        have hr := hRR.out
        rw [← HX.out] at hq
        obtain ⟨e1, e2⟩ := dv_start (u := (u * 4294967296 + d1) % Y) (yn1 := yn1) (by omega) (by omega)
        have hg2 := gs_start HYN.out HB1.out hyn0 hU1 hd0 hyn1
        obtain ⟨U1, hu1⟩ : ∃ x, (u * 4294967296 + d1) % Y = x := ⟨_, rfl⟩
        rw [hu1] at e1 e2 e3 hg2 hq hr hU1
        obtain ⟨q1, hq1⟩ : ∃ x, U1 / yn1 = x := ⟨_, rfl⟩
        obtain ⟨r1, hr1⟩ : ∃ x, U1 % yn1 = x := ⟨_, rfl⟩
        rw [hq1] at e1 e2 hg2
        rw [hr1] at e2 hg2
        clear hu1 hq1 hr1
        have HG2 := Lib.hid hg2
        have HRQ := Lib.hid hq
        have HRR := Lib.hid hr
        clear hg2 HX hq hr hRQ hRR
        generalize q = Q1 at *
        have HU1L := Lib.hid hU1
        have HQ1 := Lib.hid hQ1
        clear hQ1 hU1
        go_wp2
        clear e1 e2 e3
        go_loop [18, 16] (fun vq vr => ∃ q r : Nat, vq = .int .u64 (q : Int) ∧ vr = .int .u64 (r : Int) ∧ Gs U1 Y yn1 yn0 d0 4294967296 q r) (fun vq _ => (intOf vq).toNat)
        case atStart => exact ⟨q1, r1, rfl, rfl, HG2.out⟩
        case round =>
          have hU1 := HU1L.out
          obtain ⟨q, r, rfl, rfl, hg⟩ := hrel
          obtain ⟨w1, w2, w3⟩ := dv_words hg.le hyn0 hg.lt hd0
          have hqr : q ≤ 4294967297 ∧ r < 4294967296 := ⟨hg.le, hg.lt⟩
          have t3 := dv_add (x := r) (y := yn1) (by rw [B64_eq]; omega)
          by_cases hbq : 4294967296 ≤ q
          · have t1 := dv_dec hbq
            have hm := gs_more HYN.out (by omega) hU1 hd0 hg (.inl hbq)
            have hq0 : 0 < q := Nat.lt_of_le_of_lt (Nat.zero_le _) hm
            have t2 := dv_dec1 (q := q) (by rw [B64_eq]; omega) hq0
            by_cases hbr : 4294967296 ≤ r + yn1
            · have hx := gs_break HYN.out (by omega) hyn0 hg hm hbr
              have t4 := dv_dec hbr
              generalize hk : q - 1 = k at *
              generalize hr2 : r + yn1 = r2 at *
              have HX := Lib.hid hx
              clear hx hm hg hk hr2 hqr hbr hbq hq0 w1 w2 w3
              have hx0 : k < 4294967296 := by rw [HX.out]; exact dv_small HU1L.out hd0
              have e5 := dv_rest (n := U1) (d := d0) (by omega) hYB HX.out
              have e6 : RQ = Q1 * 4294967296 + k := by rw [HRQ.out, HX.out]
              have e7 := HRR.out
              have e8 : IntKind.u64.wrap (IntKind.u64.wrap ((Q1 : Int) * 4294967296) + (k : Int)) = (RQ : Int) := by rw [e6, IntKind.wrap_u64, IntKind.wrap_u64]; have := HQ1.out; omega
              obtain ⟨R0, hR0⟩ : ∃ x, (U1 * 4294967296 + d0) % Y = x := ⟨_, rfl⟩
              rw [hR0] at e5 e7
              have e9 : (R0 : Int) / 2 ^ s = (RR : Int) := by rw [e7]; simp
              clear e6 e7 HX HRQ HRR hR0 hx0
              go_wp2
              go_ret2
              exact ⟨rfl, 0, rfl⟩
            · have hx := gs_next hg hm (by omega)
              have t4 := dv_decn (q := r + yn1) (by omega)
              have hgt : q - 1 < q := by omega
              generalize hk : q - 1 = k at *
              generalize hr2 : r + yn1 = r2 at *
              have HX := Lib.hid hx
              clear hx hm hg hk hr2 hqr hbr hbq hq0 w1 w2 w3
              go_wp2
              go_round
              case rel => exact ⟨k, r2, rfl, rfl, HX.out⟩
              case measure => simp [intOf]; omega
          · have t1 := dv_decn (q := q) (by omega)
            by_cases hpr : 4294967296 * r + d0 < q * yn0
            · have t5 := dv_less hpr
              generalize hA : 4294967296 * r = A at *
              generalize hB : A + d0 = B at *
              generalize hC : q * yn0 = C at *
              have hm := gs_more HYN.out (by omega) hU1 hd0 hg (.inr (by rw [hA, hB, hC]; exact hpr))
              have hq0 : 0 < q := Nat.lt_of_le_of_lt (Nat.zero_le _) hm
              have t2 := dv_dec1 (q := q) (by rw [B64_eq]; omega) hq0
              by_cases hbr : 4294967296 ≤ r + yn1
              · have hx := gs_break HYN.out (by omega) hyn0 hg hm hbr
                have t4 := dv_dec hbr
                generalize hk : q - 1 = k at *
                generalize hr2 : r + yn1 = r2 at *
                have HX := Lib.hid hx
                clear hx hm hg hk hr2 hqr hbr hbq hq0 hA hB hC
                have hx0 : k < 4294967296 := by rw [HX.out]; exact dv_small HU1L.out hd0
                have e5 := dv_rest (n := U1) (d := d0) (by omega) hYB HX.out
                have e6 : RQ = Q1 * 4294967296 + k := by rw [HRQ.out, HX.out]
                have e7 := HRR.out
                have e8 : IntKind.u64.wrap (IntKind.u64.wrap ((Q1 : Int) * 4294967296) + (k : Int)) = (RQ : Int) := by rw [e6, IntKind.wrap_u64, IntKind.wrap_u64]; have := HQ1.out; omega
                obtain ⟨R0, hR0⟩ : ∃ x, (U1 * 4294967296 + d0) % Y = x := ⟨_, rfl⟩
                rw [hR0] at e5 e7
                have e9 : (R0 : Int) / 2 ^ s = (RR : Int) := by rw [e7]; simp
                clear e6 e7 HX HRQ HRR hR0 hx0
                go_wp2
                go_ret2
                exact ⟨rfl, 0, rfl⟩
              · have hx := gs_next hg hm (by omega)
                have t4 := dv_decn (q := r + yn1) (by omega)
                have hgt : q - 1 < q := by omega
                generalize hk : q - 1 = k at *
                generalize hr2 : r + yn1 = r2 at *
                have HX := Lib.hid hx
                clear hx hm hg hk hr2 hqr hbr hbq hq0 hA hB hC
                go_wp2
                go_round
                case rel => exact ⟨k, r2, rfl, rfl, HX.out⟩
                case measure => simp [intOf]; omega
            · have t5 := dv_lessn (a := 4294967296 * r + d0) (b := q * yn0) (by omega)
              have hx := gs_done HYN.out (by omega) hg (by omega)
              generalize hA : 4294967296 * r = A at *
              generalize hB : A + d0 = B at *
              generalize hC : q * yn0 = C at *
              have HX := Lib.hid hx
              clear hx hA hB hC hg hqr hbq t3
              have hx0 : q < 4294967296 := by rw [HX.out]; exact dv_small HU1L.out hd0
              have e5 := dv_rest (n := U1) (d := d0) (by omega) hYB HX.out
              have e6 : RQ = Q1 * 4294967296 + q := by rw [HRQ.out, HX.out]
              have e7 := HRR.out
              have e8 : IntKind.u64.wrap (IntKind.u64.wrap ((Q1 : Int) * 4294967296) + (q : Int)) = (RQ : Int) := by rw [e6, IntKind.wrap_u64, IntKind.wrap_u64]; have := HQ1.out; omega
              obtain ⟨R0, hR0⟩ : ∃ x, (U1 * 4294967296 + d0) % Y = x := ⟨_, rfl⟩
              rw [hR0] at e5 e7
              have e9 : (R0 : Int) / 2 ^ s = (RR : Int) := by rw [e7]; simp
              clear e6 e7 HX HRQ HRR hR0 hx0
              go_wp2
              go_ret2
              exact ⟨rfl, 0, rfl⟩

/-! ### Both together -/
theorem lead_any (y : Nat) (hy : y < B64) (w : World) :
    Calls Tryz.prog 124 #[.int .u64 (y : Int)] w fun e w' => e = .returned (.int .i64 ((64 - Lib.bitLen y : Nat) : Int)) ∧ w' = w := by
  have hb : Lib.bitLen y ≤ 64 := Lib.bitLen_le _ 64 (Nat.le_refl _) hy
  have hw : IntKind.i64.wrap (64 - ((Lib.bitLen y : Nat) : Int)) = ((64 - Lib.bitLen y : Nat) : Int) := by
    rw [IntKind.wrap_i64]
    omega
  have hl := len64_any y w (by omega) (by rw [B64_eq] at hy; omega)
  rw [Int.toNat_natCast] at hl
  rw [B64_eq] at hy
  generalize Lib.bitLen y = n at *
  go_enter Tryz.func124, Tryz.ntmps124
  go_wp2_with fail
  refine hl.mono ?_
  rintro e w' ⟨rfl, rfl⟩
  go_wp2
  go_ret
  exact ⟨by rw [← hw]; rfl, rfl⟩

theorem halves32 {Y : Nat} (h : 9223372036854775808 ≤ Y) (h2 : Y < 18446744073709551616) : Y / 4294967296 * 4294967296 + Y % 4294967296 = Y ∧ 4294967296 ≤ 2 * (Y / 4294967296) ∧ Y % 4294967296 < 4294967296 ∧ Y / 4294967296 < 4294967296 := by omega
theorem halves32' {Y : Nat} (h2 : Y < 18446744073709551616) : Y / 4294967296 < 4294967296 ∧ Y % 4294967296 < 4294967296 := by omega
theorem mask32 (a : Nat) (ha : a < B64) : bits .and .u64 (a : Int) 4294967295 = ((a % 4294967296 : Nat) : Int) := by
  have h := bits_and_u64_nat a 4294967295 ha (by omega)
  have e : a &&& 4294967295 = a % 4294967296 := Nat.and_two_pow_sub_one_eq_mod a 32
  rw [e] at h
  exact h
theorem half32 (a : Nat) : (a : Int) / 4294967296 = ((a / 4294967296 : Nat) : Int) := by omega
theorem wrap_fits {a : Nat} (ha : a < B64) : IntKind.u64.wrap (a : Int) = (a : Int) := by rw [IntKind.wrap_u64]; rw [B64_eq] at ha; omega

/-- math/bits.Div64. -/
theorem div64_any (hi lo y : Nat) (hl : lo < B64) (hy : y < B64) (hh : hi < y) (w : World) :
    Calls Tryz.prog 131 #[.int .u64 (hi : Int), .int .u64 (lo : Int), .int .u64 (y : Int)] w fun e w' => e = .returned (.tuple #[.int .u64 (((hi * B64 + lo) / y : Nat) : Int), .int .u64 (((hi * B64 + lo) % y : Nat) : Int)]) ∧ ∃ k, w' = w.drewN k := by
  by_cases h0 : hi = 0
  · subst h0
    rw [Nat.zero_mul, Nat.zero_add]
    exact div64_low lo y hl hy hh w
  · have hy0 : y ≠ 0 := by omega
    obtain ⟨k1, k2, k3⟩ := Lib.bitLenAux_bounds 64 y hy hy0
    have hz := lead_any y hy w
    have hb : Lib.bitLen y ≤ 64 := Lib.bitLen_le _ 64 (Nat.le_refl _) hy
    obtain ⟨s, hs⟩ : ∃ s, 64 - Lib.bitLen y = s := ⟨_, rfl⟩
    have e1 : Lib.bitLenAux 64 y = 64 - s := by
      show Lib.bitLen y = _
      omega
    rw [hs] at hz
    rw [e1] at k1 k2 k3
    have hs63 : s ≤ 63 := by omega
    have hBs := B64_split (r := s) (by omega)
    have hp := Nat.two_pow_pos s
    have hYlt : y * 2 ^ s < B64 := by rw [hBs]; exact Nat.mul_lt_mul_of_pos_right k3 hp
    have hYge : 9223372036854775808 ≤ y * 2 ^ s := by
      have e : 2 ^ (64 - s - 1) * 2 ^ s = 9223372036854775808 := by
        rw [← Nat.pow_add, show 64 - s - 1 + s = 63 by omega]
      rw [← e]
      exact Nat.mul_le_mul_right _ k2
    have hHi : hi * 2 ^ s < y * 2 ^ s := Nat.mul_lt_mul_of_pos_right hh hp
    have hlo : lo / 2 ^ (64 - s) < 2 ^ s := by
      rw [Nat.div_lt_iff_lt_mul (Nat.two_pow_pos _), Nat.mul_comm, ← hBs]
      exact hl
    have hor := or_shl (x := hi) (r := s) (y := lo / 2 ^ (64 - s)) (by omega) hlo
    rw [Nat.mod_eq_of_lt (by omega : hi * 2 ^ s < B64)] at hor
    have hsp := shl_split (x := lo) (r := s) (by omega)
    have hL : lo * 2 ^ s % B64 < B64 := Nat.mod_lt _ B64_pos
    obtain ⟨Y, hY⟩ : ∃ Y, y * 2 ^ s = Y := ⟨_, rfl⟩
    obtain ⟨u, hu⟩ : ∃ u, lo / 2 ^ (64 - s) + hi * 2 ^ s = u := ⟨_, rfl⟩
    obtain ⟨L, hLe⟩ : ∃ L, lo * 2 ^ s % B64 = L := ⟨_, rfl⟩
    rw [hLe] at hsp hL
    have hN : u * B64 + L = (hi * B64 + lo) * 2 ^ s := by
      rw [← hu, Nat.add_mul, Nat.add_mul, ← hsp, Nat.mul_right_comm hi B64 (2 ^ s), Nat.mul_comm (lo / 2 ^ (64 - s)) B64]
      omega
    have huY : u < Y := by
      have a1 : hi * B64 + lo < y * B64 := by
        have := Nat.mul_le_mul_right B64 (show hi + 1 ≤ y from hh)
        rw [Nat.add_mul] at this
        omega
      have a2 := Nat.mul_lt_mul_of_pos_right a1 hp
      rw [← hN, Nat.mul_right_comm, hY] at a2
      exact Nat.lt_of_mul_lt_mul_right (Nat.lt_of_le_of_lt (Nat.le_add_right _ _) a2)
    rw [hY] at hYlt hYge hHi
    have hdd : (u * 4294967296 + L / 4294967296) * 4294967296 + L % 4294967296 = (hi * B64 + lo) * 2 ^ s := by
      rw [← hN, B64_eq]
      omega
    obtain ⟨t1, t2⟩ := two_digits (u := u) (y := Y) (d1 := L / 4294967296) (d0 := L % 4294967296) (b := 4294967296) (by omega)
    obtain ⟨r1, r2⟩ := raised (n := hi * B64 + lo) (y := y) hp
    rw [hdd] at t1 t2
    rw [hY] at r1 r2
    rw [B64_eq] at hL hYlt
    obtain ⟨f1, f2, f3, f4⟩ := halves32 hYge hYlt
    obtain ⟨f5, f6⟩ := halves32' hL
    have f7 := mask32 Y (by rw [B64_eq]; exact hYlt)
    have f8 := mask32 L (by rw [B64_eq]; exact hL)
    have f9 := half32 Y
    have f10 := half32 L
    have f11 : (hi * B64 + lo) / y = (u * 4294967296 + L / 4294967296) / Y * 4294967296 + ((u * 4294967296 + L / 4294967296) % Y * 4294967296 + L % 4294967296) / Y := (t1.trans r1).symm
    have f12 : (hi * B64 + lo) % y = ((u * 4294967296 + L / 4294967296) % Y * 4294967296 + L % 4294967296) % Y / 2 ^ s := by rw [t2, r2]
    clear t1 t2 r1 r2 hdd hN
    generalize (hi * B64 + lo) / y = RQ at *
    generalize (hi * B64 + lo) % y = RR at *
    generalize Y / 4294967296 = yn1 at *
    generalize Y % 4294967296 = yn0 at *
    generalize L / 4294967296 = d1 at *
    generalize L % 4294967296 = d0 at *
    refine (div64_high hi lo y s Y yn1 yn0 u L d1 d0 hl hy hh (by omega) hs63 ?_ f9 f7 ?_ ?_ f10 f8 f1 f2 f3 f4 huY f5 f6 RQ RR f11 f12 w hz)
    · rw [← hY, ← wrap_fits (a := y * 2 ^ s) (by rw [hY, B64_eq]; exact hYlt)]
      simp
    · have e2 : IntKind.u64.wrap ((hi : Int) * 2 ^ s) = ((hi * 2 ^ s : Nat) : Int) := by
        rw [← wrap_fits (a := hi * 2 ^ s) (by rw [B64_eq]; omega)]
        simp
      have e3 : (lo : Int) / 2 ^ (64 - s) = ((lo / 2 ^ (64 - s) : Nat) : Int) := by simp
      rw [e2, e3, bits_or_u64_nat _ _ (by omega) (by have := Nat.div_le_self lo (2 ^ (64 - s)); rw [B64_eq] at hl; omega), Nat.or_comm, hor, hu]
    · rw [← hLe]
      have e4 : (lo : Int) * 2 ^ s = ((lo * 2 ^ s : Nat) : Int) := by simp
      rw [e4, u64_wrap_nat]
end Go.Proofs.YtgiokmfdafmaoaaGreat
