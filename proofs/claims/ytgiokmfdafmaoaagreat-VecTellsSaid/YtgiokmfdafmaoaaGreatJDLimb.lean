import Derived.Test.YtgiokmfdafmaoaaGreatJNum
import Derived.WalkKit
import Derived.Lib.Hide
import Derived.Laws.Bits64b
import Derived.Test.YtgiokmfdafmaoaaGreatJUp
import Derived.Test.YtgiokmfdafmaoaaGreatJLong
import Derived.BigRegion
import Derived.Below
import Derived.Deep.Draws
import Derived.Test.YtgiokmfdafmaoaaGreatJRowL
import Derived.Test.YtgiokmfdafmaoaaGreatJPairs
import Derived.Test.YtgiokmfdafmaoaaGreatJProd
import Derived.Test.YtgiokmfdafmaoaaGreatJMTrim
import Derived.Test.YtgiokmfdafmaoaaGreatJAddRow
import Derived.Test.YtgiokmfdafmaoaaGreatJCopy
import Derived.Scope
import Derived.Test.YtgiokmfdafmaoaaGreatJSame
/- Dv DvA Back DLow DLimb. -/
/- bits.Div64: two words by one. -/
namespace Go.Proofs.YtgiokmfdafmaoaaGreat
set_option linter.unusedVariables false
set_option linter.unusedSimpArgs false
/-- One digit's guess, counted down. -/
structure Gs (u y yn1 yn0 d b q r : Nat) : Prop where
  sum : q * yn1 + r = u
  ge : (u * b + d) / y ≤ q
  le : q ≤ b + 1
  lt : r < b
theorem gs_start {u y yn1 yn0 d b : Nat} (hy : yn1 * b + yn0 = y) (hn : b ≤ 2 * yn1) (h0 : yn0 < b) (hu : u < y) (hd : d < b) (h1 : yn1 < b) : Gs u y yn1 yn0 d b (u / yn1) (u % yn1) := by
  have hb : 0 < yn1 := by omega
  have hyp : 0 < y := by omega
  refine ⟨by rw [Nat.mul_comm]; exact Nat.div_add_mod u yn1, ?_, ?_, Nat.lt_trans (Nat.mod_lt _ hb) h1⟩
  · rw [Nat.le_div_iff_mul_le hb]
    have e := Nat.div_mul_le_self (u * b + d) y
    generalize (u * b + d) / y = q at *
    -- q * yn1 * b ≤ q * y ≤ u * b + d < (u + 1) * b
    have e2 : q * yn1 * b ≤ q * y := by
      rw [← hy, Nat.mul_add, Nat.mul_assoc]; omega
    have e3 : q * yn1 * b < (u + 1) * b := by rw [Nat.add_mul]; omega
    have := Nat.lt_of_mul_lt_mul_right e3
    omega
  · have e : u / yn1 < b + 2 := by
      rw [Nat.div_lt_iff_lt_mul hb, Nat.add_mul, Nat.mul_comm b yn1]; omega
    omega
theorem gs_done {u y yn1 yn0 d b q r : Nat} (hy : yn1 * b + yn0 = y) (hyp : 0 < y) (h : Gs u y yn1 yn0 d b q r) (h2 : q * yn0 ≤ b * r + d) : q = (u * b + d) / y := by
  have e : q ≤ (u * b + d) / y := by
    rw [Nat.le_div_iff_mul_le hyp, ← hy, ← h.sum, Nat.mul_add, Nat.add_mul, Nat.mul_assoc, Nat.mul_comm r b]
    omega
  have := h.ge
  omega
theorem gs_more {u y yn1 yn0 d b q r : Nat} (hy : yn1 * b + yn0 = y) (hyp : 0 < y) (hu : u < y) (hd : d < b) (h : Gs u y yn1 yn0 d b q r) (h2 : b ≤ q ∨ b * r + d < q * yn0) : (u * b + d) / y < q := by
  rw [Nat.div_lt_iff_lt_mul hyp]
  rcases h2 with h2 | h2
  · have e1 : b * y ≤ q * y := Nat.mul_le_mul_right _ h2
    have e2 : (u + 1) * b ≤ y * b := Nat.mul_le_mul_right _ hu
    rw [Nat.add_mul, Nat.mul_comm y b] at e2
    omega
  · rw [← hy, ← h.sum, Nat.mul_add, Nat.add_mul, Nat.mul_assoc, Nat.mul_comm r b]
    omega
theorem gs_next {u y yn1 yn0 d b q r : Nat} (h : Gs u y yn1 yn0 d b q r) (h2 : (u * b + d) / y < q) (h3 : r + yn1 < b) : Gs u y yn1 yn0 d b (q - 1) (r + yn1) := by
  obtain ⟨k, rfl⟩ : ∃ k, q = k + 1 := Nat.exists_eq_succ_of_ne_zero (by rintro rfl; exact Nat.not_lt_zero _ h2)
  have e := h.sum
  rw [Nat.add_mul] at e
  have hl := h.le
  have hle := Nat.le_of_lt_succ h2
  clear h h2
  refine ⟨?_, hle, ?_, h3⟩
  · simp only [Nat.add_sub_cancel]
    omega
  · simp only [Nat.add_sub_cancel]
    omega
theorem gs_break {u y yn1 yn0 d b q r : Nat} (hy : yn1 * b + yn0 = y) (hyp : 0 < y) (h0 : yn0 < b) (h : Gs u y yn1 yn0 d b q r) (h2 : (u * b + d) / y < q) (h3 : b ≤ r + yn1) : q - 1 = (u * b + d) / y := by
  obtain ⟨k, rfl⟩ : ∃ k, q = k + 1 := Nat.exists_eq_succ_of_ne_zero (by rintro rfl; exact Nat.not_lt_zero _ h2)
  have e := h.sum
  rw [Nat.add_mul] at e
  simp only [Nat.add_sub_cancel]
  have hk : k ≤ b := by have := h.le; clear h2; omega
  have e2 : k ≤ (u * b + d) / y := by
    have e3 : k * yn0 ≤ b * (r + yn1) := Nat.mul_le_mul hk (Nat.le_trans (Nat.le_of_lt h0) h3)
    rw [Nat.le_div_iff_mul_le hyp, ← hy, ← e, Nat.mul_add, Nat.add_mul, Nat.add_mul, Nat.mul_assoc]
    rw [Nat.mul_add] at e3
    have e4 : 1 * yn1 * b = b * yn1 := by rw [Nat.one_mul, Nat.mul_comm]
    have e5 : r * b = b * r := Nat.mul_comm _ _
    omega
  exact Nat.le_antisymm e2 (Nat.le_of_lt_succ h2)
/-- Two digits, one behind the other. -/
theorem two_digits {u y d1 d0 b : Nat} (hyp : 0 < y) : ((u * b + d1) / y) * b + (((u * b + d1) % y) * b + d0) / y = ((u * b + d1) * b + d0) / y ∧ (((u * b + d1) % y) * b + d0) % y = ((u * b + d1) * b + d0) % y := by
  have e := Nat.div_add_mod (u * b + d1) y
  generalize u * b + d1 = n at *
  have e2 : n * b + d0 = (n % y * b + d0) + y * (n / y * b) := by
    conv => lhs; rw [← e, Nat.add_mul, Nat.mul_assoc]
    omega
  rw [e2, Nat.add_mul_div_left _ _ hyp, Nat.add_mul_mod_self_left]
  exact ⟨by omega, rfl⟩
/-- What is divided and what it is divided by, raised alike. -/
theorem raised {n y p : Nat} (hp : 0 < p) : (n * p) / (y * p) = n / y ∧ (n * p) % (y * p) / p = n % y :=
  ⟨Nat.mul_div_mul_right _ _ hp, by rw [Nat.mul_mod_mul_right, Nat.mul_div_cancel _ hp]⟩
end Go.Proofs.YtgiokmfdafmaoaaGreat

/- bits.Div64: the walk. -/
namespace Go.Proofs.YtgiokmfdafmaoaaGreat
open Go.RowKit
set_option linter.unusedVariables false
set_option linter.unusedSimpArgs false

set_option maxRecDepth 100000 in
set_option maxHeartbeats 1000000 in
theorem div64_low (lo y : Nat) (hl : lo < B64) (hy : y < B64) (h0 : 0 < y) (w : World) :
    Calls Tryz.prog 131 #[.int .u64 0, .int .u64 (lo : Int), .int .u64 (y : Int)] w fun e w' => e = .returned (.tuple #[.int .u64 ((lo / y : Nat) : Int), .int .u64 ((lo % y : Nat) : Int)]) ∧ ∃ k, w' = w.drewN k := by
  have hy0 : ((y : Int) == 0) = false := by simp; omega
  have hle : ¬ ((y : Int) ≤ 0) := by omega
  have hq : IntKind.u64.wrap ((lo : Int) / (y : Int)) = ((lo / y : Nat) : Int) := by
    have h1 := Nat.div_le_self lo y
    rw [B64_eq] at hl
    rw [show (lo : Int) / (y : Int) = ((lo / y : Nat) : Int) by simp, IntKind.wrap_u64]
    generalize lo / y = q at *
    omega
  have HQ := Lib.hid hq
  rw [B64_eq] at hl hy
  clear hq
  go_enter Tryz.func131, Tryz.ntmps131
  go_wp2
  go_region
  go_wp2
  go_ret2
  refine ⟨?_, 1, rfl⟩
  rw [← HQ.out, ← Int.natCast_emod lo y]
  rfl

/-- What a round reckons. -/
theorem dv_words {q yn0 r d : Nat} (hq : q ≤ 4294967296 + 1) (h0 : yn0 < 4294967296) (hr : r < 4294967296) (hd : d < 4294967296) :
    IntKind.u64.wrap ((q : Int) * (yn0 : Int)) = ((q * yn0 : Nat) : Int) ∧ IntKind.u64.wrap (4294967296 * (r : Int)) = ((4294967296 * r : Nat) : Int) ∧ IntKind.u64.wrap (((4294967296 * r : Nat) : Int) + (d : Int)) = ((4294967296 * r + d : Nat) : Int) := by
  have h : q * yn0 ≤ (4294967296 + 1) * 4294967295 := Nat.mul_le_mul hq (by omega)
  refine ⟨?_, ?_, ?_⟩
  · rw [← Int.natCast_mul, IntKind.wrap_u64]
    generalize q * yn0 = A at *
    omega
  · rw [IntKind.wrap_u64]; omega
  · rw [IntKind.wrap_u64]; omega
theorem dv_start {u yn1 : Nat} (hu : u < B64) (h : 0 < yn1) : IntKind.u64.wrap ((u : Int) / (yn1 : Int)) = ((u / yn1 : Nat) : Int) ∧ IntKind.u64.wrap ((u : Int) - IntKind.u64.wrap (((u / yn1 : Nat) : Int) * (yn1 : Int))) = ((u % yn1 : Nat) : Int) := by
  have h1 := Nat.div_le_self u yn1
  have h2 := Nat.div_add_mod u yn1
  have h3 := Nat.mod_lt u h
  rw [B64_eq] at hu
  rw [← Int.natCast_ediv, ← Int.natCast_mul, Nat.mul_comm (u / yn1)]
  generalize yn1 * (u / yn1) = p at *
  generalize u / yn1 = q at *
  generalize u % yn1 = m at *
  rw [IntKind.wrap_u64, IntKind.wrap_u64, IntKind.wrap_u64]
  omega
theorem dv_rest {n d q y : Nat} (hy : 0 < y) (hy2 : y < B64) (hq : q = (n * 4294967296 + d) / y) : IntKind.u64.wrap (IntKind.u64.wrap (IntKind.u64.wrap ((n : Int) * 4294967296) + (d : Int)) - IntKind.u64.wrap ((q : Int) * (y : Int))) = (((n * 4294967296 + d) % y : Nat) : Int) := by
  generalize hb : 4294967296 = b at *
  have e : ((4294967296 : Int)) = (b : Int) := by rw [← hb]; rfl
  rw [e]
  have h2 := Nat.div_add_mod (n * b + d) y
  have h3 := Nat.mod_lt (n * b + d) hy
  rw [← hq] at h2
  rw [B64_eq] at hy2
  rw [← Int.natCast_mul, ← Int.natCast_mul, Nat.mul_comm q]
  generalize y * q = p at *
  generalize (n * b + d) % y = m at *
  generalize n * b = k at *
  simp only [IntKind.wrap_u64]
  omega

theorem dv_small {u Y d : Nat} (hu : u < Y) (hd : d < 4294967296) : (u * 4294967296 + d) / Y < 4294967296 := by
  rw [Nat.div_lt_iff_lt_mul (by omega)]
  have := Nat.mul_le_mul_right 4294967296 (show u + 1 ≤ Y from hu)
  omega
theorem int_le_true {a b : Nat} (h : a ≤ b) : decide ((a : Int) ≤ (b : Int)) = true := by simp; omega
theorem dv_dec {q : Nat} (h : 4294967296 ≤ q) : decide ((4294967296 : Int) ≤ (q : Int)) = true := by simp; omega
theorem dv_decn {q : Nat} (h : q < 4294967296) : decide ((4294967296 : Int) ≤ (q : Int)) = false := by simp; omega
theorem dv_less {a b : Nat} (h : a < b) : decide ((a : Int) < (b : Int)) = true := by simp; omega
theorem dv_lessn {a b : Nat} (h : b ≤ a) : decide ((a : Int) < (b : Int)) = false := by simp; omega
theorem dv_dec1 {q : Nat} (h : q < B64) (h0 : 0 < q) : IntKind.u64.wrap ((q : Int) - 1) = ((q - 1 : Nat) : Int) := by rw [IntKind.wrap_u64]; rw [B64_eq] at h; omega
theorem dv_add {x y : Nat} (h : x + y < B64) : IntKind.u64.wrap ((x : Int) + (y : Int)) = ((x + y : Nat) : Int) := by rw [IntKind.wrap_u64]; rw [B64_eq] at h; omega

set_option maxRecDepth 100000 in
set_option maxHeartbeats 1000000 in
theorem div64_high (hi lo y s Y yn1 yn0 u L d1 d0 : Nat) (hl : lo < B64) (hy : y < B64) (hh : hi < y) (h0 : 0 < hi) (hs : s ≤ 63) 
   (hY : IntKind.u64.wrap ((y : Int) * 2 ^ s) = (Y : Int)) (h1 : (Y : Int) / 4294967296 = (yn1 : Int)) (h2 : bits .and .u64 (Y : Int) 4294967295 = (yn0 : Int))
   (hU : bits .or .u64 (IntKind.u64.wrap ((hi : Int) * 2 ^ s)) ((lo : Int) / 2 ^ (64 - s)) = (u : Int)) (hL : IntKind.u64.wrap ((lo : Int) * 2 ^ s) = (L : Int)) (h3 : (L : Int) / 4294967296 = (d1 : Int)) (h4 : bits .and .u64 (L : Int) 4294967295 = (d0 : Int))
   (hYn : yn1 * 4294967296 + yn0 = Y) (hb1 : 4294967296 ≤ 2 * yn1) (hyn0 : yn0 < 4294967296) (hyn1 : yn1 < 4294967296) (hu : u < Y) (hd1 : d1 < 4294967296) (hd0 : d0 < 4294967296)
   (RQ RR : Nat) (hRQ : Hid (RQ = ((u * 4294967296 + d1) / Y) * 4294967296 + (((u * 4294967296 + d1) % Y) * 4294967296 + d0) / Y)) (hRR : Hid (RR = (((u * 4294967296 + d1) % Y) * 4294967296 + d0) % Y / 2 ^ s))
   (w : World)
   (hlz : Calls Tryz.prog 124 #[.int .u64 (y : Int)] w fun e w' => e = .returned (.int .i64 (s : Int)) ∧ w' = w) :
    Calls Tryz.prog 131 #[.int .u64 (hi : Int), .int .u64 (lo : Int), .int .u64 (y : Int)] w fun e w' => e = .returned (.tuple #[.int .u64 (RQ : Int), .int .u64 (RR : Int)]) ∧ ∃ k, w' = w.drewN k := by
  have hy0 : ((y : Int) == 0) = false := by simp; omega
  have hh0 : ((hi : Int) == 0) = false := by simp; omega
  have hle : ¬ ((y : Int) ≤ (hi : Int)) := by omega
  have hn0 : ¬ ((yn1 : Int) = 0) := by omega
  have hYB : Y < B64 := by rw [B64_eq]; omega
  obtain ⟨e1, e2⟩ := dv_start (u := u) (yn1 := yn1) (by omega) (by omega)
  have hg := gs_start hYn hb1 hyn0 hu hd1 hyn1
  generalize u / yn1 = q0 at *
  generalize u % yn1 = r0 at *
  have HG := Lib.hid hg
  have HYN := Lib.hid hYn
  have HB1 := Lib.hid hb1
  rw [B64_eq] at hl hy
  clear hg hYn hb1
  go_enter Tryz.func131, Tryz.ntmps131
  go_wp2_with fail
  refine hlz.mono ?_
  rintro e w' ⟨rfl, rfl⟩
  go_wp2
  clear e1 e2 hY h1 h2 hU hL h3 h4 hy0 hh0 hle hl hy hh h0
  go_loop [15, 16] (fun vq vr => ∃ q r : Nat, vq = .int .u64 (q : Int) ∧ vr = .int .u64 (r : Int) ∧ Gs u Y yn1 yn0 d1 4294967296 q r) (fun vq _ => (intOf vq).toNat)
  case atStart => exact ⟨q0, r0, rfl, rfl, HG.out⟩
  case round =>
    obtain ⟨q, r, rfl, rfl, hg⟩ := hrel
    obtain ⟨w1, w2, w3⟩ := dv_words hg.le hyn0 hg.lt hd1
    have hqr : q ≤ 4294967297 ∧ r < 4294967296 := ⟨hg.le, hg.lt⟩
    have t3 := dv_add (x := r) (y := yn1) (by rw [B64_eq]; omega)
    by_cases hbq : 4294967296 ≤ q
    · have t1 := dv_dec hbq
      have hm := gs_more HYN.out (by omega) hu hd1 hg (.inl hbq)
      have hq0 : 0 < q := Nat.lt_of_le_of_lt (Nat.zero_le _) hm
      have t2 := dv_dec1 (q := q) (by rw [B64_eq]; omega) hq0
      by_cases hbr : 4294967296 ≤ r + yn1
      · have hx := gs_break HYN.out (by omega) hyn0 hg hm hbr
        have t4 := dv_dec hbr
        generalize hk : q - 1 = k at *
        generalize hr2 : r + yn1 = r2 at *
        have HX := Lib.hid hx
        clear hx hm hg hk hr2 hqr hbr hbq hq0 w1 w2 w3
        have e3 := dv_rest (n := u) (d := d1) (by omega) hYB HX.out
        have hU1 : (u * 4294967296 + d1) % Y < Y := Nat.mod_lt _ (by omega)
        have hQ1 : k < 4294967296 := by rw [HX.out]; exact dv_small hu hd1
        have hq := hRQ.out
        have hr := hRR.out
        rw [← HX.out] at hq
        obtain ⟨e1, e2⟩ := dv_start (u := (u * 4294967296 + d1) % Y) (yn1 := yn1) (by omega) (by omega)
        have hg2 := gs_start HYN.out HB1.out hyn0 hU1 hd0 hyn1
        obtain ⟨U1, hu1⟩ : ∃ x, (u * 4294967296 + d1) % Y = x := ⟨_, rfl⟩
        rw [hu1] at e1 e2 e3 hg2 hq hr hU1
        obtain ⟨q1, hq1⟩ : ∃ x, U1 / yn1 = x := ⟨_, rfl⟩
        obtain ⟨r1, hr1⟩ : ∃ x, U1 % yn1 = x := ⟨_, rfl⟩
        rw [hq1] at e1 e2 hg2
        rw [hr1] at e2 hg2
        clear hu1 hq1 hr1
        have HG2 := Lib.hid hg2
        have HRQ := Lib.hid hq
        have HRR := Lib.hid hr
        clear hg2 HX hq hr hRQ hRR
        generalize k = Q1 at *
        have HU1L := Lib.hid hU1
        have HQ1 := Lib.hid hQ1
        clear hQ1 hU1
        go_wp2
        clear e1 e2 e3
        go_loop [18, 16] (fun vq vr => ∃ q r : Nat, vq = .int .u64 (q : Int) ∧ vr = .int .u64 (r : Int) ∧ Gs U1 Y yn1 yn0 d0 4294967296 q r) (fun vq _ => (intOf vq).toNat)
        case atStart => exact ⟨q1, r1, rfl, rfl, HG2.out⟩
        case round =>
          have hU1 := HU1L.out
          obtain ⟨q, r, rfl, rfl, hg⟩ := hrel
          obtain ⟨w1, w2, w3⟩ := dv_words hg.le hyn0 hg.lt hd0
          have hqr : q ≤ 4294967297 ∧ r < 4294967296 := ⟨hg.le, hg.lt⟩
          have t3 := dv_add (x := r) (y := yn1) (by rw [B64_eq]; omega)
          by_cases hbq : 4294967296 ≤ q
          · have t1 := dv_dec hbq
            have hm := gs_more HYN.out (by omega) hU1 hd0 hg (.inl hbq)
            have hq0 : 0 < q := Nat.lt_of_le_of_lt (Nat.zero_le _) hm
            have t2 := dv_dec1 (q := q) (by rw [B64_eq]; omega) hq0
            by_cases hbr : 4294967296 ≤ r + yn1
            · have hx := gs_break HYN.out (by omega) hyn0 hg hm hbr
              have t4 := dv_dec hbr
              generalize hk : q - 1 = k at *
              generalize hr2 : r + yn1 = r2 at *
              have HX := Lib.hid hx
              clear hx hm hg hk hr2 hqr hbr hbq hq0 w1 w2 w3
              have hx0 : k < 4294967296 := by rw [HX.out]; exact dv_small HU1L.out hd0
              have e5 := dv_rest (n := U1) (d := d0) (by omega) hYB HX.out
              have e6 : RQ = Q1 * 4294967296 + k := by rw [HRQ.out, HX.out]
              have e7 := HRR.out
              have e8 : IntKind.u64.wrap (IntKind.u64.wrap ((Q1 : Int) * 4294967296) + (k : Int)) = (RQ : Int) := by rw [e6, IntKind.wrap_u64, IntKind.wrap_u64]; have := HQ1.out; omega
              obtain ⟨R0, hR0⟩ : ∃ x, (U1 * 4294967296 + d0) % Y = x := ⟨_, rfl⟩
              rw [hR0] at e5 e7
              have e9 : (R0 : Int) / 2 ^ s = (RR : Int) := by rw [e7]; simp
              clear e6 e7 HX HRQ HRR hR0 hx0
              go_wp2
              go_ret2
              exact ⟨rfl, 0, rfl⟩
            · have hx := gs_next hg hm (by omega)
              have t4 := dv_decn (q := r + yn1) (by omega)
              have hgt : q - 1 < q := by omega
              generalize hk : q - 1 = k at *
              generalize hr2 : r + yn1 = r2 at *
              have HX := Lib.hid hx
              clear hx hm hg hk hr2 hqr hbr hbq hq0 w1 w2 w3
              go_wp2
              go_round
              case rel => exact ⟨k, r2, rfl, rfl, HX.out⟩
              case measure => simp [intOf]; omega
          · have t1 := dv_decn (q := q) (by omega)
            by_cases hpr : 4294967296 * r + d0 < q * yn0
            · have t5 := dv_less hpr
              generalize hA : 4294967296 * r = A at *
              generalize hB : A + d0 = B at *
              generalize hC : q * yn0 = C at *
              have hm := gs_more HYN.out (by omega) hU1 hd0 hg (.inr (by rw [hA, hB, hC]; exact hpr))
              have hq0 : 0 < q := Nat.lt_of_le_of_lt (Nat.zero_le _) hm
              have t2 := dv_dec1 (q := q) (by rw [B64_eq]; omega) hq0
              by_cases hbr : 4294967296 ≤ r + yn1
              · have hx := gs_break HYN.out (by omega) hyn0 hg hm hbr
                have t4 := dv_dec hbr
                generalize hk : q - 1 = k at *
                generalize hr2 : r + yn1 = r2 at *
                have HX := Lib.hid hx
                clear hx hm hg hk hr2 hqr hbr hbq hq0 hA hB hC
                have hx0 : k < 4294967296 := by rw [HX.out]; exact dv_small HU1L.out hd0
                have e5 := dv_rest (n := U1) (d := d0) (by omega) hYB HX.out
                have e6 : RQ = Q1 * 4294967296 + k := by rw [HRQ.out, HX.out]
                have e7 := HRR.out
                have e8 : IntKind.u64.wrap (IntKind.u64.wrap ((Q1 : Int) * 4294967296) + (k : Int)) = (RQ : Int) := by rw [e6, IntKind.wrap_u64, IntKind.wrap_u64]; have := HQ1.out; omega
                obtain ⟨R0, hR0⟩ : ∃ x, (U1 * 4294967296 + d0) % Y = x := ⟨_, rfl⟩
                rw [hR0] at e5 e7
                have e9 : (R0 : Int) / 2 ^ s = (RR : Int) := by rw [e7]; simp
                clear e6 e7 HX HRQ HRR hR0 hx0
                go_wp2
                go_ret2
                exact ⟨rfl, 0, rfl⟩
              · have hx := gs_next hg hm (by omega)
                have t4 := dv_decn (q := r + yn1) (by omega)
                have hgt : q - 1 < q := by omega
                generalize hk : q - 1 = k at *
                generalize hr2 : r + yn1 = r2 at *
                have HX := Lib.hid hx
                clear hx hm hg hk hr2 hqr hbr hbq hq0 hA hB hC
                go_wp2
                go_round
                case rel => exact ⟨k, r2, rfl, rfl, HX.out⟩
                case measure => simp [intOf]; omega
            · have t5 := dv_lessn (a := 4294967296 * r + d0) (b := q * yn0) (by omega)
              have hx := gs_done HYN.out (by omega) hg (by omega)
              generalize hA : 4294967296 * r = A at *
              generalize hB : A + d0 = B at *
              generalize hC : q * yn0 = C at *
              have HX := Lib.hid hx
              clear hx hA hB hC hg hqr hbq t3
              have hx0 : q < 4294967296 := by rw [HX.out]; exact dv_small HU1L.out hd0
              have e5 := dv_rest (n := U1) (d := d0) (by omega) hYB HX.out
              have e6 : RQ = Q1 * 4294967296 + q := by rw [HRQ.out, HX.out]
              have e7 := HRR.out
              have e8 : IntKind.u64.wrap (IntKind.u64.wrap ((Q1 : Int) * 4294967296) + (q : Int)) = (RQ : Int) := by rw [e6, IntKind.wrap_u64, IntKind.wrap_u64]; have := HQ1.out; omega
              obtain ⟨R0, hR0⟩ : ∃ x, (U1 * 4294967296 + d0) % Y = x := ⟨_, rfl⟩
              rw [hR0] at e5 e7
              have e9 : (R0 : Int) / 2 ^ s = (RR : Int) := by rw [e7]; simp
              clear e6 e7 HX HRQ HRR hR0 hx0
              go_wp2
              go_ret2
              exact ⟨rfl, 0, rfl⟩
      · have hx := gs_next hg hm (by omega)
        have t4 := dv_decn (q := r + yn1) (by omega)
        have hgt : q - 1 < q := by omega
        generalize hk : q - 1 = k at *
        generalize hr2 : r + yn1 = r2 at *
        have HX := Lib.hid hx
        clear hx hm hg hk hr2 hqr hbr hbq hq0 w1 w2 w3
        go_wp2
        go_round
        case rel => exact ⟨k, r2, rfl, rfl, HX.out⟩
        case measure => simp [intOf]; omega
    · have t1 := dv_decn (q := q) (by omega)
      by_cases hpr : 4294967296 * r + d1 < q * yn0
      · have t5 := dv_less hpr
        generalize hA : 4294967296 * r = A at *
        generalize hB : A + d1 = B at *
        generalize hC : q * yn0 = C at *
        have hm := gs_more HYN.out (by omega) hu hd1 hg (.inr (by rw [hA, hB, hC]; exact hpr))
        have hq0 : 0 < q := Nat.lt_of_le_of_lt (Nat.zero_le _) hm
        have t2 := dv_dec1 (q := q) (by rw [B64_eq]; omega) hq0
        by_cases hbr : 4294967296 ≤ r + yn1
        · have hx := gs_break HYN.out (by omega) hyn0 hg hm hbr
          have t4 := dv_dec hbr
          generalize hk : q - 1 = k at *
          generalize hr2 : r + yn1 = r2 at *
          have HX := Lib.hid hx
          clear hx hm hg hk hr2 hqr hbr hbq hq0 hA hB hC
          have e3 := dv_rest (n := u) (d := d1) (by omega) hYB HX.out
          have hU1 : (u * 4294967296 + d1) % Y < Y := Nat.mod_lt _ (by omega)
          have hQ1 : k < 4294967296 := by rw [HX.out]; exact dv_small hu hd1
          have hq := hRQ.out
          have hr := hRR.out
          rw [← HX.out] at hq
          obtain ⟨e1, e2⟩ := dv_start (u := (u * 4294967296 + d1) % Y) (yn1 := yn1) (by omega) (by omega)
          have hg2 := gs_start HYN.out HB1.out hyn0 hU1 hd0 hyn1
          obtain ⟨U1, hu1⟩ : ∃ x, (u * 4294967296 + d1) % Y = x := ⟨_, rfl⟩
          rw [hu1] at e1 e2 e3 hg2 hq hr hU1
          obtain ⟨q1, hq1⟩ : ∃ x, U1 / yn1 = x := ⟨_, rfl⟩
          obtain ⟨r1, hr1⟩ : ∃ x, U1 % yn1 = x := ⟨_, rfl⟩
          rw [hq1] at e1 e2 hg2
          rw [hr1] at e2 hg2
          clear hu1 hq1 hr1
          have HG2 := Lib.hid hg2
          have HRQ := Lib.hid hq
          have HRR := Lib.hid hr
          clear hg2 HX hq hr hRQ hRR
          generalize k = Q1 at *
          have HU1L := Lib.hid hU1
          have HQ1 := Lib.hid hQ1
          clear hQ1 hU1
          go_wp2
          clear e1 e2 e3
          go_loop [18, 16] (fun vq vr => ∃ q r : Nat, vq = .int .u64 (q : Int) ∧ vr = .int .u64 (r : Int) ∧ Gs U1 Y yn1 yn0 d0 4294967296 q r) (fun vq _ => (intOf vq).toNat)
          case atStart => exact ⟨q1, r1, rfl, rfl, HG2.out⟩
          case round =>
            have hU1 := HU1L.out
            obtain ⟨q, r, rfl, rfl, hg⟩ := hrel
            obtain ⟨w1, w2, w3⟩ := dv_words hg.le hyn0 hg.lt hd0
            have hqr : q ≤ 4294967297 ∧ r < 4294967296 := ⟨hg.le, hg.lt⟩
            have t3 := dv_add (x := r) (y := yn1) (by rw [B64_eq]; omega)
            by_cases hbq : 4294967296 ≤ q
            · have t1 := dv_dec hbq
              have hm := gs_more HYN.out (by omega) hU1 hd0 hg (.inl hbq)
              have hq0 : 0 < q := Nat.lt_of_le_of_lt (Nat.zero_le _) hm
              have t2 := dv_dec1 (q := q) (by rw [B64_eq]; omega) hq0
              by_cases hbr : 4294967296 ≤ r + yn1
              · have hx := gs_break HYN.out (by omega) hyn0 hg hm hbr
                have t4 := dv_dec hbr
                generalize hk : q - 1 = k at *
                generalize hr2 : r + yn1 = r2 at *
                have HX := Lib.hid hx
                clear hx hm hg hk hr2 hqr hbr hbq hq0 w1 w2 w3
                have hx0 : k < 4294967296 := by rw [HX.out]; exact dv_small HU1L.out hd0
                have e5 := dv_rest (n := U1) (d := d0) (by omega) hYB HX.out
                have e6 : RQ = Q1 * 4294967296 + k := by rw [HRQ.out, HX.out]
                have e7 := HRR.out
                have e8 : IntKind.u64.wrap (IntKind.u64.wrap ((Q1 : Int) * 4294967296) + (k : Int)) = (RQ : Int) := by rw [e6, IntKind.wrap_u64, IntKind.wrap_u64]; have := HQ1.out; omega
                obtain ⟨R0, hR0⟩ : ∃ x, (U1 * 4294967296 + d0) % Y = x := ⟨_, rfl⟩
                rw [hR0] at e5 e7
                have e9 : (R0 : Int) / 2 ^ s = (RR : Int) := by rw [e7]; simp
                clear e6 e7 HX HRQ HRR hR0 hx0
                go_wp2
                go_ret2
                exact ⟨rfl, 0, rfl⟩
              · have hx := gs_next hg hm (by omega)
                have t4 := dv_decn (q := r + yn1) (by omega)
                have hgt : q - 1 < q := by omega
                generalize hk : q - 1 = k at *
                generalize hr2 : r + yn1 = r2 at *
                have HX := Lib.hid hx
                clear hx hm hg hk hr2 hqr hbr hbq hq0 w1 w2 w3
                go_wp2
                go_round
                case rel => exact ⟨k, r2, rfl, rfl, HX.out⟩
                case measure => simp [intOf]; omega
            · have t1 := dv_decn (q := q) (by omega)
              by_cases hpr : 4294967296 * r + d0 < q * yn0
              · have t5 := dv_less hpr
                generalize hA : 4294967296 * r = A at *
                generalize hB : A + d0 = B at *
                generalize hC : q * yn0 = C at *
                have hm := gs_more HYN.out (by omega) hU1 hd0 hg (.inr (by rw [hA, hB, hC]; exact hpr))
                have hq0 : 0 < q := Nat.lt_of_le_of_lt (Nat.zero_le _) hm
                have t2 := dv_dec1 (q := q) (by rw [B64_eq]; omega) hq0
                by_cases hbr : 4294967296 ≤ r + yn1
                · have hx := gs_break HYN.out (by omega) hyn0 hg hm hbr
                  have t4 := dv_dec hbr
                  generalize hk : q - 1 = k at *
                  generalize hr2 : r + yn1 = r2 at *
                  have HX := Lib.hid hx
                  clear hx hm hg hk hr2 hqr hbr hbq hq0 hA hB hC
                  have hx0 : k < 4294967296 := by rw [HX.out]; exact dv_small HU1L.out hd0
                  have e5 := dv_rest (n := U1) (d := d0) (by omega) hYB HX.out
                  have e6 : RQ = Q1 * 4294967296 + k := by rw [HRQ.out, HX.out]
                  have e7 := HRR.out
                  have e8 : IntKind.u64.wrap (IntKind.u64.wrap ((Q1 : Int) * 4294967296) + (k : Int)) = (RQ : Int) := by rw [e6, IntKind.wrap_u64, IntKind.wrap_u64]; have := HQ1.out; omega
                  obtain ⟨R0, hR0⟩ : ∃ x, (U1 * 4294967296 + d0) % Y = x := ⟨_, rfl⟩
                  rw [hR0] at e5 e7
                  have e9 : (R0 : Int) / 2 ^ s = (RR : Int) := by rw [e7]; simp
                  clear e6 e7 HX HRQ HRR hR0 hx0
                  go_wp2
                  go_ret2
                  exact ⟨rfl, 0, rfl⟩
                · have hx := gs_next hg hm (by omega)
                  have t4 := dv_decn (q := r + yn1) (by omega)
                  have hgt : q - 1 < q := by omega
                  generalize hk : q - 1 = k at *
                  generalize hr2 : r + yn1 = r2 at *
                  have HX := Lib.hid hx
                  clear hx hm hg hk hr2 hqr hbr hbq hq0 hA hB hC
                  go_wp2
                  go_round
                  case rel => exact ⟨k, r2, rfl, rfl, HX.out⟩
                  case measure => simp [intOf]; omega
              · have t5 := dv_lessn (a := 4294967296 * r + d0) (b := q * yn0) (by omega)
                have hx := gs_done HYN.out (by omega) hg (by omega)
                generalize hA : 4294967296 * r = A at *
                generalize hB : A + d0 = B at *
                generalize hC : q * yn0 = C at *
                have HX := Lib.hid hx
                clear hx hA hB hC hg hqr hbq t3
                have hx0 : q < 4294967296 := by rw [HX.out]; exact dv_small HU1L.out hd0
                have e5 := dv_rest (n := U1) (d := d0) (by omega) hYB HX.out
                have e6 : RQ = Q1 * 4294967296 + q := by rw [HRQ.out, HX.out]
                have e7 := HRR.out
                have e8 : IntKind.u64.wrap (IntKind.u64.wrap ((Q1 : Int) * 4294967296) + (q : Int)) = (RQ : Int) := by rw [e6, IntKind.wrap_u64, IntKind.wrap_u64]; have := HQ1.out; omega
                obtain ⟨R0, hR0⟩ : ∃ x, (U1 * 4294967296 + d0) % Y = x := ⟨_, rfl⟩
                rw [hR0] at e5 e7
                have e9 : (R0 : Int) / 2 ^ s = (RR : Int) := by rw [e7]; simp
                clear e6 e7 HX HRQ HRR hR0 hx0
                go_wp2
                go_ret2
                exact ⟨rfl, 0, rfl⟩
        · have hx := gs_next hg hm (by omega)
          have t4 := dv_decn (q := r + yn1) (by omega)
          have hgt : q - 1 < q := by omega
          generalize hk : q - 1 = k at *
          generalize hr2 : r + yn1 = r2 at *
          have HX := Lib.hid hx
          clear hx hm hg hk hr2 hqr hbr hbq hq0 hA hB hC
          go_wp2
          go_round
          case rel => exact ⟨k, r2, rfl, rfl, HX.out⟩
          case measure => simp [intOf]; omega
      · have t5 := dv_lessn (a := 4294967296 * r + d1) (b := q * yn0) (by omega)
        have hx := gs_done HYN.out (by omega) hg (by omega)
        generalize hA : 4294967296 * r = A at *
        generalize hB : A + d1 = B at *
        generalize hC : q * yn0 = C at *
        have HX := Lib.hid hx
        clear hx hA hB hC hg hqr hbq t3
        have e3 := dv_rest (n := u) (d := d1) (by omega) hYB HX.out
        have hU1 : (u * 4294967296 + d1) % Y < Y := Nat.mod_lt _ (by omega)
        have hQ1 : q < 4294967296 := by rw [HX.out]; exact dv_small hu hd1
        have hq := hRQ.out
        have hr := hRR.out
        rw [← HX.out] at hq
        obtain ⟨e1, e2⟩ := dv_start (u := (u * 4294967296 + d1) % Y) (yn1 := yn1) (by omega) (by omega)
        have hg2 := gs_start HYN.out HB1.out hyn0 hU1 hd0 hyn1
        obtain ⟨U1, hu1⟩ : ∃ x, (u * 4294967296 + d1) % Y = x := ⟨_, rfl⟩
        rw [hu1] at e1 e2 e3 hg2 hq hr hU1
        obtain ⟨q1, hq1⟩ : ∃ x, U1 / yn1 = x := ⟨_, rfl⟩
        obtain ⟨r1, hr1⟩ : ∃ x, U1 % yn1 = x := ⟨_, rfl⟩
        rw [hq1] at e1 e2 hg2
        rw [hr1] at e2 hg2
        clear hu1 hq1 hr1
        have HG2 := Lib.hid hg2
        have HRQ := Lib.hid hq
        have HRR := Lib.hid hr
        clear hg2 HX hq hr hRQ hRR
        generalize q = Q1 at *
        have HU1L := Lib.hid hU1
        have HQ1 := Lib.hid hQ1
        clear hQ1 hU1
        go_wp2
        clear e1 e2 e3
        go_loop [18, 16] (fun vq vr => ∃ q r : Nat, vq = .int .u64 (q : Int) ∧ vr = .int .u64 (r : Int) ∧ Gs U1 Y yn1 yn0 d0 4294967296 q r) (fun vq _ => (intOf vq).toNat)
        case atStart => exact ⟨q1, r1, rfl, rfl, HG2.out⟩
        case round =>
          have hU1 := HU1L.out
          obtain ⟨q, r, rfl, rfl, hg⟩ := hrel
          obtain ⟨w1, w2, w3⟩ := dv_words hg.le hyn0 hg.lt hd0
          have hqr : q ≤ 4294967297 ∧ r < 4294967296 := ⟨hg.le, hg.lt⟩
          have t3 := dv_add (x := r) (y := yn1) (by rw [B64_eq]; omega)
          by_cases hbq : 4294967296 ≤ q
          · have t1 := dv_dec hbq
            have hm := gs_more HYN.out (by omega) hU1 hd0 hg (.inl hbq)
            have hq0 : 0 < q := Nat.lt_of_le_of_lt (Nat.zero_le _) hm
            have t2 := dv_dec1 (q := q) (by rw [B64_eq]; omega) hq0
            by_cases hbr : 4294967296 ≤ r + yn1
            · have hx := gs_break HYN.out (by omega) hyn0 hg hm hbr
              have t4 := dv_dec hbr
              generalize hk : q - 1 = k at *
              generalize hr2 : r + yn1 = r2 at *
              have HX := Lib.hid hx
              clear hx hm hg hk hr2 hqr hbr hbq hq0 w1 w2 w3
              have hx0 : k < 4294967296 := by rw [HX.out]; exact dv_small HU1L.out hd0
              have e5 := dv_rest (n := U1) (d := d0) (by omega) hYB HX.out
              have e6 : RQ = Q1 * 4294967296 + k := by rw [HRQ.out, HX.out]
              have e7 := HRR.out
              have e8 : IntKind.u64.wrap (IntKind.u64.wrap ((Q1 : Int) * 4294967296) + (k : Int)) = (RQ : Int) := by rw [e6, IntKind.wrap_u64, IntKind.wrap_u64]; have := HQ1.out; omega
              obtain ⟨R0, hR0⟩ : ∃ x, (U1 * 4294967296 + d0) % Y = x := ⟨_, rfl⟩
              rw [hR0] at e5 e7
              have e9 : (R0 : Int) / 2 ^ s = (RR : Int) := by rw [e7]; simp
              clear e6 e7 HX HRQ HRR hR0 hx0
              go_wp2
              go_ret2
              exact ⟨rfl, 0, rfl⟩
            · have hx := gs_next hg hm (by omega)
              have t4 := dv_decn (q := r + yn1) (by omega)
              have hgt : q - 1 < q := by omega
              generalize hk : q - 1 = k at *
              generalize hr2 : r + yn1 = r2 at *
              have HX := Lib.hid hx
              clear hx hm hg hk hr2 hqr hbr hbq hq0 w1 w2 w3
              go_wp2
              go_round
              case rel => exact ⟨k, r2, rfl, rfl, HX.out⟩
              case measure => simp [intOf]; omega
          · have t1 := dv_decn (q := q) (by omega)
            by_cases hpr : 4294967296 * r + d0 < q * yn0
            · have t5 := dv_less hpr
              generalize hA : 4294967296 * r = A at *
              generalize hB : A + d0 = B at *
              generalize hC : q * yn0 = C at *
              have hm := gs_more HYN.out (by omega) hU1 hd0 hg (.inr (by rw [hA, hB, hC]; exact hpr))
              have hq0 : 0 < q := Nat.lt_of_le_of_lt (Nat.zero_le _) hm
              have t2 := dv_dec1 (q := q) (by rw [B64_eq]; omega) hq0
              by_cases hbr : 4294967296 ≤ r + yn1
              · have hx := gs_break HYN.out (by omega) hyn0 hg hm hbr
                have t4 := dv_dec hbr
                generalize hk : q - 1 = k at *
                generalize hr2 : r + yn1 = r2 at *
                have HX := Lib.hid hx
                clear hx hm hg hk hr2 hqr hbr hbq hq0 hA hB hC
                have hx0 : k < 4294967296 := by rw [HX.out]; exact dv_small HU1L.out hd0
                have e5 := dv_rest (n := U1) (d := d0) (by omega) hYB HX.out
                have e6 : RQ = Q1 * 4294967296 + k := by rw [HRQ.out, HX.out]
                have e7 := HRR.out
                have e8 : IntKind.u64.wrap (IntKind.u64.wrap ((Q1 : Int) * 4294967296) + (k : Int)) = (RQ : Int) := by rw [e6, IntKind.wrap_u64, IntKind.wrap_u64]; have := HQ1.out; omega
                obtain ⟨R0, hR0⟩ : ∃ x, (U1 * 4294967296 + d0) % Y = x := ⟨_, rfl⟩
                rw [hR0] at e5 e7
                have e9 : (R0 : Int) / 2 ^ s = (RR : Int) := by rw [e7]; simp
                clear e6 e7 HX HRQ HRR hR0 hx0
                go_wp2
                go_ret2
                exact ⟨rfl, 0, rfl⟩
              · have hx := gs_next hg hm (by omega)
                have t4 := dv_decn (q := r + yn1) (by omega)
                have hgt : q - 1 < q := by omega
                generalize hk : q - 1 = k at *
                generalize hr2 : r + yn1 = r2 at *
                have HX := Lib.hid hx
                clear hx hm hg hk hr2 hqr hbr hbq hq0 hA hB hC
                go_wp2
                go_round
                case rel => exact ⟨k, r2, rfl, rfl, HX.out⟩
                case measure => simp [intOf]; omega
            · have t5 := dv_lessn (a := 4294967296 * r + d0) (b := q * yn0) (by omega)
              have hx := gs_done HYN.out (by omega) hg (by omega)
              generalize hA : 4294967296 * r = A at *
              generalize hB : A + d0 = B at *
              generalize hC : q * yn0 = C at *
              have HX := Lib.hid hx
              clear hx hA hB hC hg hqr hbq t3
              have hx0 : q < 4294967296 := by rw [HX.out]; exact dv_small HU1L.out hd0
              have e5 := dv_rest (n := U1) (d := d0) (by omega) hYB HX.out
              have e6 : RQ = Q1 * 4294967296 + q := by rw [HRQ.out, HX.out]
              have e7 := HRR.out
              have e8 : IntKind.u64.wrap (IntKind.u64.wrap ((Q1 : Int) * 4294967296) + (q : Int)) = (RQ : Int) := by rw [e6, IntKind.wrap_u64, IntKind.wrap_u64]; have := HQ1.out; omega
              obtain ⟨R0, hR0⟩ : ∃ x, (U1 * 4294967296 + d0) % Y = x := ⟨_, rfl⟩
              rw [hR0] at e5 e7
              have e9 : (R0 : Int) / 2 ^ s = (RR : Int) := by rw [e7]; simp
              clear e6 e7 HX HRQ HRR hR0 hx0
              go_wp2
              go_ret2
              exact ⟨rfl, 0, rfl⟩

/-! ### Both together -/
theorem lead_any (y : Nat) (hy : y < B64) (w : World) :
    Calls Tryz.prog 124 #[.int .u64 (y : Int)] w fun e w' => e = .returned (.int .i64 ((64 - Lib.bitLen y : Nat) : Int)) ∧ w' = w := by
  have hb : Lib.bitLen y ≤ 64 := Lib.bitLen_le _ 64 (Nat.le_refl _) hy
  have hw : IntKind.i64.wrap (64 - ((Lib.bitLen y : Nat) : Int)) = ((64 - Lib.bitLen y : Nat) : Int) := by
    rw [IntKind.wrap_i64]
    omega
  have hl := len64_any y w (by omega) (by rw [B64_eq] at hy; omega)
  rw [Int.toNat_natCast] at hl
  rw [B64_eq] at hy
  generalize Lib.bitLen y = n at *
  go_enter Tryz.func124, Tryz.ntmps124
  go_wp2_with fail
  refine hl.mono ?_
  rintro e w' ⟨rfl, rfl⟩
  go_wp2
  go_ret
  exact ⟨by rw [← hw]; rfl, rfl⟩

theorem halves32 {Y : Nat} (h : 9223372036854775808 ≤ Y) (h2 : Y < 18446744073709551616) : Y / 4294967296 * 4294967296 + Y % 4294967296 = Y ∧ 4294967296 ≤ 2 * (Y / 4294967296) ∧ Y % 4294967296 < 4294967296 ∧ Y / 4294967296 < 4294967296 := by omega
theorem halves32' {Y : Nat} (h2 : Y < 18446744073709551616) : Y / 4294967296 < 4294967296 ∧ Y % 4294967296 < 4294967296 := by omega
theorem mask32 (a : Nat) (ha : a < B64) : bits .and .u64 (a : Int) 4294967295 = ((a % 4294967296 : Nat) : Int) := by
  have h := bits_and_u64_nat a 4294967295 ha (by omega)
  have e : a &&& 4294967295 = a % 4294967296 := Nat.and_two_pow_sub_one_eq_mod a 32
  rw [e] at h
  exact h
theorem half32 (a : Nat) : (a : Int) / 4294967296 = ((a / 4294967296 : Nat) : Int) := by omega
theorem wrap_fits {a : Nat} (ha : a < B64) : IntKind.u64.wrap (a : Int) = (a : Int) := by rw [IntKind.wrap_u64]; rw [B64_eq] at ha; omega

/-- math/bits.Div64. -/
theorem div64_any (hi lo y : Nat) (hl : lo < B64) (hy : y < B64) (hh : hi < y) (w : World) :
    Calls Tryz.prog 131 #[.int .u64 (hi : Int), .int .u64 (lo : Int), .int .u64 (y : Int)] w fun e w' => e = .returned (.tuple #[.int .u64 (((hi * B64 + lo) / y : Nat) : Int), .int .u64 (((hi * B64 + lo) % y : Nat) : Int)]) ∧ ∃ k, w' = w.drewN k := by
  by_cases h0 : hi = 0
  · subst h0
    rw [Nat.zero_mul, Nat.zero_add]
    exact div64_low lo y hl hy hh w
  · have hy0 : y ≠ 0 := by omega
    obtain ⟨k1, k2, k3⟩ := Lib.bitLenAux_bounds 64 y hy hy0
    have hz := lead_any y hy w
    have hb : Lib.bitLen y ≤ 64 := Lib.bitLen_le _ 64 (Nat.le_refl _) hy
    obtain ⟨s, hs⟩ : ∃ s, 64 - Lib.bitLen y = s := ⟨_, rfl⟩
    have e1 : Lib.bitLenAux 64 y = 64 - s := by
      show Lib.bitLen y = _
      omega
    rw [hs] at hz
    rw [e1] at k1 k2 k3
    have hs63 : s ≤ 63 := by omega
    have hBs := B64_split (r := s) (by omega)
    have hp := Nat.two_pow_pos s
    have hYlt : y * 2 ^ s < B64 := by rw [hBs]; exact Nat.mul_lt_mul_of_pos_right k3 hp
    have hYge : 9223372036854775808 ≤ y * 2 ^ s := by
      have e : 2 ^ (64 - s - 1) * 2 ^ s = 9223372036854775808 := by
        rw [← Nat.pow_add, show 64 - s - 1 + s = 63 by omega]
      rw [← e]
      exact Nat.mul_le_mul_right _ k2
    have hHi : hi * 2 ^ s < y * 2 ^ s := Nat.mul_lt_mul_of_pos_right hh hp
    have hlo : lo / 2 ^ (64 - s) < 2 ^ s := by
      rw [Nat.div_lt_iff_lt_mul (Nat.two_pow_pos _), Nat.mul_comm, ← hBs]
      exact hl
    have hor := or_shl (x := hi) (r := s) (y := lo / 2 ^ (64 - s)) (by omega) hlo
    rw [Nat.mod_eq_of_lt (by omega : hi * 2 ^ s < B64)] at hor
    have hsp := shl_split (x := lo) (r := s) (by omega)
    have hL : lo * 2 ^ s % B64 < B64 := Nat.mod_lt _ B64_pos
    obtain ⟨Y, hY⟩ : ∃ Y, y * 2 ^ s = Y := ⟨_, rfl⟩
    obtain ⟨u, hu⟩ : ∃ u, lo / 2 ^ (64 - s) + hi * 2 ^ s = u := ⟨_, rfl⟩
    obtain ⟨L, hLe⟩ : ∃ L, lo * 2 ^ s % B64 = L := ⟨_, rfl⟩
    rw [hLe] at hsp hL
    have hN : u * B64 + L = (hi * B64 + lo) * 2 ^ s := by
      rw [← hu, Nat.add_mul, Nat.add_mul, ← hsp, Nat.mul_right_comm hi B64 (2 ^ s), Nat.mul_comm (lo / 2 ^ (64 - s)) B64]
      omega
    have huY : u < Y := by
      have a1 : hi * B64 + lo < y * B64 := by
        have := Nat.mul_le_mul_right B64 (show hi + 1 ≤ y from hh)
        rw [Nat.add_mul] at this
        omega
      have a2 := Nat.mul_lt_mul_of_pos_right a1 hp
      rw [← hN, Nat.mul_right_comm, hY] at a2
      exact Nat.lt_of_mul_lt_mul_right (Nat.lt_of_le_of_lt (Nat.le_add_right _ _) a2)
    rw [hY] at hYlt hYge hHi
    have hdd : (u * 4294967296 + L / 4294967296) * 4294967296 + L % 4294967296 = (hi * B64 + lo) * 2 ^ s := by
      rw [← hN, B64_eq]
      omega
    obtain ⟨t1, t2⟩ := two_digits (u := u) (y := Y) (d1 := L / 4294967296) (d0 := L % 4294967296) (b := 4294967296) (by omega)
    obtain ⟨r1, r2⟩ := raised (n := hi * B64 + lo) (y := y) hp
    rw [hdd] at t1 t2
    rw [hY] at r1 r2
    rw [B64_eq] at hL hYlt
    obtain ⟨f1, f2, f3, f4⟩ := halves32 hYge hYlt
    obtain ⟨f5, f6⟩ := halves32' hL
    have f7 := mask32 Y (by rw [B64_eq]; exact hYlt)
    have f8 := mask32 L (by rw [B64_eq]; exact hL)
    have f9 := half32 Y
    have f10 := half32 L
    have f11 : (hi * B64 + lo) / y = (u * 4294967296 + L / 4294967296) / Y * 4294967296 + ((u * 4294967296 + L / 4294967296) % Y * 4294967296 + L % 4294967296) / Y := (t1.trans r1).symm
    have f12 : (hi * B64 + lo) % y = ((u * 4294967296 + L / 4294967296) % Y * 4294967296 + L % 4294967296) % Y / 2 ^ s := by rw [t2, r2]
    clear t1 t2 r1 r2 hdd hN
    generalize (hi * B64 + lo) / y = RQ at *
    generalize (hi * B64 + lo) % y = RR at *
    generalize Y / 4294967296 = yn1 at *
    generalize Y % 4294967296 = yn0 at *
    generalize L / 4294967296 = d1 at *
    generalize L % 4294967296 = d0 at *
    refine (div64_high hi lo y s Y yn1 yn0 u L d1 d0 hl hy hh (by omega) hs63 ?_ f9 f7 ?_ ?_ f10 f8 f1 f2 f3 f4 huY f5 f6 RQ RR f11 f12 w hz)
    · rw [← hY, ← wrap_fits (a := y * 2 ^ s) (by rw [hY, B64_eq]; exact hYlt)]
      simp
    · have e2 : IntKind.u64.wrap ((hi : Int) * 2 ^ s) = ((hi * 2 ^ s : Nat) : Int) := by
        rw [← wrap_fits (a := hi * 2 ^ s) (by rw [B64_eq]; omega)]
        simp
      have e3 : (lo : Int) / 2 ^ (64 - s) = ((lo / 2 ^ (64 - s) : Nat) : Int) := by simp
      rw [e2, e3, bits_or_u64_nat _ _ (by omega) (by have := Nat.div_le_self lo (2 ^ (64 - s)); rw [B64_eq] at hl; omega), Nat.or_comm, hor, hu]
    · rw [← hLe]
      have e4 : (lo : Int) * 2 ^ s = ((lo * 2 ^ s : Nat) : Int) := by simp
      rw [e4, u64_wrap_nat]
end Go.Proofs.YtgiokmfdafmaoaaGreat

/- slices.Backward: what it hands back goes through a slice from its end, whatever a round does that keeps the blocks of S, and what the cells may be. -/
namespace Go.Proofs.YtgiokmfdafmaoaaGreat
open Go.RowKit Go.Shelf
attribute [local go_sem] Oper.semAt_some
set_option linter.unusedVariables false
set_option linter.unusedSimpArgs false

/-- A place of a slice, and what lies there. -/
abbrev BkI (m : Nat) (V : Nat → Nat → Prop) := { p : Nat × Nat // p.1 < m ∧ V p.1 p.2 }
/-- The first k places from the end. -/
def downs (m k : Nat) : List Nat := (List.range k).map fun i => m - 1 - i
theorem downs_succ (m k : Nat) : downs m (k + 1) = downs m k ++ [m - 1 - k] := by simp [downs, List.range_succ]
theorem downs_length (m k : Nat) : (downs m k).length = k := by simp [downs]
def places {m : Nat} {V : Nat → Nat → Prop} (l : List (BkI m V)) : List Nat := l.map fun x => x.1.1
theorem places_snoc {m : Nat} {V : Nat → Nat → Prop} (l : List (BkI m V)) (x : BkI m V) : places (l ++ [x]) = places l ++ [x.1.1] := by simp [places]
theorem places_length {m : Nat} {V : Nat → Nat → Prop} (l : List (BkI m V)) : (places l).length = l.length := by simp [places]
/-- What the cells may be. -/
def Has (W : World) (A : Option Addr) (m : Nat) (V : Nat → Nat → Prop) : Prop := ∀ i, i < m → ∃ b off v, A = some ⟨b, off, none⟩ ∧ V i v ∧ W.cell? ⟨b, off + i, none⟩ = some (u64 v)
def BkK (S : Nat → Prop) (A : Option Addr) (m : Nat) (V : Nat → Nat → Prop) (W W' : World) : Prop := KeepsOf S W W' ∧ (Has W A m V → Has W' A m V)
theorem BkK.trans {S : Nat → Prop} {A : Option Addr} {m : Nat} {V : Nat → Nat → Prop} {X Y Z : World} (h : BkK S A m V X Y) (k : BkK S A m V Y Z) : BkK S A m V X Z := ⟨h.1.trans k.1, fun hh => k.2 (h.2 hh)⟩
theorem BkK.refl {S : Nat → Prop} {A : Option Addr} {m : Nat} {V : Nat → Nat → Prop} (X : World) : BkK S A m V X X := ⟨KeepsOf.refl _, id⟩
theorem has_rd {W : World} {A : Option Addr} {m : Nat} {l : List Nat} (h : Rd W A m l) : Has W A m (fun i v => v = lim l i) := fun i hi => by
  obtain ⟨b, off, e, _, hc⟩ := h.cells (by omega)
  exact ⟨b, off, _, e, rfl, hc i hi⟩
theorem has_keeps {S : Nat → Prop} {W W' : World} {A : Option Addr} {m : Nat} {V : Nat → Nat → Prop} (hk : KeepsOf S W W') (hA : 0 < m → ∀ b off, A = some ⟨b, off, none⟩ → S b) (h : Has W A m V) : Has W' A m V := fun i hi => by
  obtain ⟨b, off, v, e, hv, hc⟩ := h i hi
  exact ⟨b, off, v, e, hv, (hk.cell (p := ⟨b, off + i, none⟩) (hA (by omega) b off e)).trans hc⟩
/-- How a round has ended: it goes on (true), or not. -/
def WentK (K : World → World → Prop) (J Jx : World → Prop) (W : World) (v : Bool) (W' : World) : Prop := (v = true ∧ J W' ∧ K W W') ∨ (v = false ∧ Jx W')

set_option maxRecDepth 100000 in
set_option maxHeartbeats 2000000 in
theorem backN_in (S : Nat → Prop) (V : Nat → Nat → Prop) (n l Bs : Nat) (A : Option Addr) (m c : Nat) (hm : m ≤ 4294967296) (hSb : S Bs) (J Jx : List (BkI m V) → World → Prop)
    (hY : ∀ pre x W, J pre W → pre.length < m → YieldAt Fence.wide (n - 1) Tryz.prog l #[.int .i64 (x.1.1 : Int), u64 x.1.2] W fun e W' =>
      (e = .returned (.bool true) ∧ J (pre ++ [x]) W' ∧ BkK S A m V W W') ∨ (e = .returned (.bool false) ∧ Jx (pre ++ [x]) W'))
    (W : World) (hB : W.cell? ⟨Bs, 0, none⟩ = some (.slice A m c)) (hH : Has W A m V) (h0 : J [] W) :
    CallsIn Fence.wide n Tryz.prog 143 #[.func (.yield l) #[] #[], .pointer (some ⟨Bs, 0, none⟩)] W fun e W' => (∃ v, e = .returned v) ∧
      ((∃ ys, places ys = downs m m ∧ J ys W') ∨ (∃ pre, (∃ k, k ≤ m ∧ places pre = downs m k) ∧ Jx pre W')) := by
  refine callsIn_of_wp Tryz.func143 rfl trivial ?_ rfl
  simp only [Tryz.ntmps143, List.size_toArray, List.length_cons, List.length_nil, Nat.reduceAdd, Nat.reduceSub, Array.replicate_succ, Array.replicate_zero, List.push_toArray, List.append_toArray, List.nil_append, List.cons_append]
  gi_wp2
  gi_loopw [3] (fun i wr => ∃ (k : Nat) (pre : List (BkI m V)), k ≤ m ∧ i = .int .i64 ((m : Int) - 1 - (k : Int)) ∧ places pre = downs m k ∧ J pre wr ∧ BkK S A m V W wr) (fun i _ => (intOf i + 1).toNat)
  case atStart => exact ⟨0, [], Nat.zero_le _, by simp, rfl, h0, BkK.refl _⟩
  case round =>
    obtain ⟨k, pre, hk, rfl, hp, hJs, hkp⟩ := hrel
    by_cases hlt : k < m
    · obtain ⟨b, off, v, rfl, hv, hc⟩ := hkp.2 hH (m - 1 - k) (by omega)
      have hca : wr.cell? ⟨Bs, 0, none⟩ = some (.slice (some ⟨b, off, none⟩) m c) := (hkp.1.cell (p := ⟨Bs, 0, none⟩) hSb).trans hB
      obtain ⟨j, hj⟩ : ∃ j, m - 1 - k = j := ⟨_, rfl⟩
      rw [hj] at hc hv
      have hjm : j < m := by omega
      have ej : (m : Int) - 1 - (k : Int) = (j : Int) := by omega
      obtain ⟨fn, tmps, assign, body, hy, hR⟩ := hY pre ⟨(j, v), hjm, hv⟩ wr hJs (by rw [← places_length, hp, downs_length]; exact hlt)
      dsimp only at hy hR
      have hR' := Lib.hid (hR.mono (R' := fun e W' => ∃ v', e = .returned (.bool v') ∧ WentK (BkK S (some ⟨b, off, none⟩) m V) (J (pre ++ [⟨(j, v), hjm, hv⟩])) (Jx (pre ++ [⟨(j, v), hjm, hv⟩])) wr v' W') (by
        rintro e W' (⟨rfl, h⟩ | ⟨rfl, h⟩)
        · exact ⟨true, rfl, .inl ⟨rfl, h⟩⟩
        · exact ⟨false, rfl, .inr ⟨rfl, h⟩⟩))
      have HP := Lib.hid hp
      have HJ := Lib.hid hj
      have HK := Lib.hid hkp
      clear hR hY hj hp hkp
      rw [ej]
      gi_wp2_with fail
      refine ⟨fun h => (by cases h), ?_⟩
      (with_reducible refine hR'.out.mono ?_)
      rintro e W3 ⟨v', rfl, h3⟩
      rcases h3 with ⟨rfl, hJ3, hk3⟩ | ⟨rfl, hJx3⟩
      · gi_wp2
        go_roundw
        case rel => exact ⟨k + 1, pre ++ [⟨(j, v), hjm, hv⟩], by omega, by simp; omega, by rw [places_snoc, HP.out, downs_succ, HJ.out], hJ3, HK.out.trans hk3⟩
        case measure => simp [intOf]
      · gi_wp2
        refine bodyPost_ret (results_none rfl _ _ _) rfl ?_
        exact ⟨⟨_, rfl⟩, .inr ⟨_, ⟨k + 1, by omega, by rw [places_snoc, HP.out, downs_succ, HJ.out]⟩, hJx3⟩⟩
    · have hkm : k = m := by omega
      subst hkm
      have ek : (k : Int) - 1 - (k : Int) = -1 := by omega
      have HP := Lib.hid hp
      have HJ := Lib.hid hJs
      rw [ek]
      clear hJs hp hkp hY
      gi_wp2
      go_end0
      exact ⟨⟨_, rfl⟩, .inl ⟨_, HP.out, HJ.out⟩⟩

set_option maxHeartbeats 400000 in
theorem backN_any (A : Option Addr) (m c : Nat) (w : World) :
    Calls Tryz.prog 130 #[.slice A m c] w fun e w' =>
      e = .returned (.func (.func 143) #[] #[.pointer (some ⟨w.heap.size, 0, none⟩)]) ∧ w' = w.alloc (.cells #[.slice A m c] 23) := by
  go_enter Tryz.func130, Tryz.ntmps130
  go_wp2
  go_ret
  exact ⟨rfl, rfl⟩

/-- What slices.Backward hands back. -/
theorem backN_stops (S : Nat → Prop) (V : Nat → Nat → Prop) (n Bs : Nat) (A : Option Addr) (m c : Nat) (hm : m ≤ 4294967296) (hSb : S Bs) (w : World) (hS : Bs < w.heap.size)
    (hA : ∀ b off, 0 < m → A = some ⟨b, off, none⟩ → b < w.heap.size) (hB : w.cell? ⟨Bs, 0, none⟩ = some (.slice A m c)) (hH : Has w A m V) :
    SeqStopsK Fence.wide n Tryz.prog 143 #[.pointer (some ⟨Bs, 0, none⟩)] (fun x : BkI m V => #[.int .i64 (x.1.1 : Int), u64 x.1.2]) (BkK S A m V)
      (fun ys => places ys = downs m m) (fun pre => ∃ k, k ≤ m ∧ places pre = downs m k) m w := fun l J Jx W hW hJ _ hY h0 => by
  exact backN_in S V n l Bs A m c hm hSb J Jx hY W ((hW.cell (p := ⟨Bs, 0, none⟩) hS).trans hB)
    (fun i hi => by
      obtain ⟨b, off, v, e, hv, hc⟩ := hH i hi
      exact ⟨b, off, v, e, hv, (hW.cell (p := ⟨b, off + i, none⟩) (hA b off (by omega) e)).trans hc⟩) h0

set_option maxRecDepth 100000 in
set_option maxHeartbeats 2000000 in
theorem backU_in (S : Nat → Prop) (V : Nat → Nat → Prop) (n l Bs : Nat) (A : Option Addr) (m c : Nat) (hm : m ≤ 4294967296) (hSb : S Bs) (J Jx : List (BkI m V) → World → Prop)
    (hY : ∀ pre x W, J pre W → pre.length < m → YieldAt Fence.wide (n - 1) Tryz.prog l #[.int .i64 (x.1.1 : Int), u64 x.1.2] W fun e W' =>
      (e = .returned (.bool true) ∧ J (pre ++ [x]) W' ∧ BkK S A m V W W') ∨ (e = .returned (.bool false) ∧ Jx (pre ++ [x]) W'))
    (W : World) (hB : W.cell? ⟨Bs, 0, none⟩ = some (.slice A m c)) (hH : Has W A m V) (h0 : J [] W) :
    CallsIn Fence.wide n Tryz.prog 157 #[.func (.yield l) #[] #[], .pointer (some ⟨Bs, 0, none⟩)] W fun e W' => (∃ v, e = .returned v) ∧
      ((∃ ys, places ys = downs m m ∧ J ys W') ∨ (∃ pre, (∃ k, k ≤ m ∧ places pre = downs m k) ∧ Jx pre W')) := by
  refine callsIn_of_wp Tryz.func157 rfl trivial ?_ rfl
  simp only [Tryz.ntmps157, List.size_toArray, List.length_cons, List.length_nil, Nat.reduceAdd, Nat.reduceSub, Array.replicate_succ, Array.replicate_zero, List.push_toArray, List.append_toArray, List.nil_append, List.cons_append]
  gi_wp2
  gi_loopw [3] (fun i wr => ∃ (k : Nat) (pre : List (BkI m V)), k ≤ m ∧ i = .int .i64 ((m : Int) - 1 - (k : Int)) ∧ places pre = downs m k ∧ J pre wr ∧ BkK S A m V W wr) (fun i _ => (intOf i + 1).toNat)
  case atStart => exact ⟨0, [], Nat.zero_le _, by simp, rfl, h0, BkK.refl _⟩
  case round =>
    obtain ⟨k, pre, hk, rfl, hp, hJs, hkp⟩ := hrel
    by_cases hlt : k < m
    · obtain ⟨b, off, v, rfl, hv, hc⟩ := hkp.2 hH (m - 1 - k) (by omega)
      have hca : wr.cell? ⟨Bs, 0, none⟩ = some (.slice (some ⟨b, off, none⟩) m c) := (hkp.1.cell (p := ⟨Bs, 0, none⟩) hSb).trans hB
      obtain ⟨j, hj⟩ : ∃ j, m - 1 - k = j := ⟨_, rfl⟩
      rw [hj] at hc hv
      have hjm : j < m := by omega
      have ej : (m : Int) - 1 - (k : Int) = (j : Int) := by omega
      obtain ⟨fn, tmps, assign, body, hy, hR⟩ := hY pre ⟨(j, v), hjm, hv⟩ wr hJs (by rw [← places_length, hp, downs_length]; exact hlt)
      dsimp only at hy hR
      have hR' := Lib.hid (hR.mono (R' := fun e W' => ∃ v', e = .returned (.bool v') ∧ WentK (BkK S (some ⟨b, off, none⟩) m V) (J (pre ++ [⟨(j, v), hjm, hv⟩])) (Jx (pre ++ [⟨(j, v), hjm, hv⟩])) wr v' W') (by
        rintro e W' (⟨rfl, h⟩ | ⟨rfl, h⟩)
        · exact ⟨true, rfl, .inl ⟨rfl, h⟩⟩
        · exact ⟨false, rfl, .inr ⟨rfl, h⟩⟩))
      have HP := Lib.hid hp
      have HJ := Lib.hid hj
      have HK := Lib.hid hkp
      clear hR hY hj hp hkp
      rw [ej]
      gi_wp2_with fail
      refine ⟨fun h => (by cases h), ?_⟩
      (with_reducible refine hR'.out.mono ?_)
      rintro e W3 ⟨v', rfl, h3⟩
      rcases h3 with ⟨rfl, hJ3, hk3⟩ | ⟨rfl, hJx3⟩
      · gi_wp2
        go_roundw
        case rel => exact ⟨k + 1, pre ++ [⟨(j, v), hjm, hv⟩], by omega, by simp; omega, by rw [places_snoc, HP.out, downs_succ, HJ.out], hJ3, HK.out.trans hk3⟩
        case measure => simp [intOf]
      · gi_wp2
        refine bodyPost_ret (results_none rfl _ _ _) rfl ?_
        exact ⟨⟨_, rfl⟩, .inr ⟨_, ⟨k + 1, by omega, by rw [places_snoc, HP.out, downs_succ, HJ.out]⟩, hJx3⟩⟩
    · have hkm : k = m := by omega
      subst hkm
      have ek : (k : Int) - 1 - (k : Int) = -1 := by omega
      have HP := Lib.hid hp
      have HJ := Lib.hid hJs
      rw [ek]
      clear hJs hp hkp hY
      gi_wp2
      go_end0
      exact ⟨⟨_, rfl⟩, .inl ⟨_, HP.out, HJ.out⟩⟩

set_option maxHeartbeats 400000 in
theorem backU_any (A : Option Addr) (m c : Nat) (w : World) :
    Calls Tryz.prog 153 #[.slice A m c] w fun e w' =>
      e = .returned (.func (.func 157) #[] #[.pointer (some ⟨w.heap.size, 0, none⟩)]) ∧ w' = w.alloc (.cells #[.slice A m c] 22) := by
  go_enter Tryz.func153, Tryz.ntmps153
  go_wp2
  go_ret
  exact ⟨rfl, rfl⟩

/-- What slices.Backward hands back. -/
theorem backU_stops (S : Nat → Prop) (V : Nat → Nat → Prop) (n Bs : Nat) (A : Option Addr) (m c : Nat) (hm : m ≤ 4294967296) (hSb : S Bs) (w : World) (hS : Bs < w.heap.size)
    (hA : ∀ b off, 0 < m → A = some ⟨b, off, none⟩ → b < w.heap.size) (hB : w.cell? ⟨Bs, 0, none⟩ = some (.slice A m c)) (hH : Has w A m V) :
    SeqStopsK Fence.wide n Tryz.prog 157 #[.pointer (some ⟨Bs, 0, none⟩)] (fun x : BkI m V => #[.int .i64 (x.1.1 : Int), u64 x.1.2]) (BkK S A m V)
      (fun ys => places ys = downs m m) (fun pre => ∃ k, k ≤ m ∧ places pre = downs m k) m w := fun l J Jx W hW hJ _ hY h0 => by
  exact backU_in S V n l Bs A m c hm hSb J Jx hY W ((hW.cell (p := ⟨Bs, 0, none⟩) hS).trans hB)
    (fun i hi => by
      obtain ⟨b, off, v, e, hv, hc⟩ := hH i hi
      exact ⟨b, off, v, e, hv, (hW.cell (p := ⟨b, off + i, none⟩) (hA b off (by omega) e)).trans hc⟩) h0
end Go.Proofs.YtgiokmfdafmaoaaGreat

/- div's calls on rows: less, double, trim. -/
namespace Go.Proofs.YtgiokmfdafmaoaaGreat
open Go.RowKit Go.Shelf
set_option linter.unusedVariables false
set_option linter.unusedSimpArgs false

/-- Nothing of what there was has turned but one block. -/
structure Only (g : Nat) (w w' : World) : Prop where
  below : Below 0 w w'
  keep : ∀ k, k < w.heap.size → k ≠ g → w'.heap[k]? = w.heap[k]?
section
variable {g : Nat} {w w' w2 : World}
theorem Only.refl (g : Nat) (w : World) : Only g w w := ⟨Below.refl _ _, fun _ _ _ => rfl⟩
theorem Only.trans (h : Only g w w') (k : Only g w' w2) : Only g w w2 := ⟨h.below.trans k.below, fun i hi hg => (k.keep i (Nat.lt_of_lt_of_le hi h.below.size) hg).trans (h.keep i hi hg)⟩
theorem Only.setCell (h : Only g w w') {p : Addr} (hp : p.block = g) (u : Value) : Only g w (w'.setCell p u) := h.trans ⟨(Below.refl _ _).setCell (Nat.zero_le _) u, fun k hk hg => Below.heap_setCell _ _ _ _ (by rw [hp]; exact hg)⟩
theorem Only.alloc (h : Only g w w') (o : Obj) : Only g w (w'.alloc o) := h.trans ⟨(Below.refl _ _).alloc (Nat.zero_le _) o, fun k hk _ => Below.heap_alloc _ _ _ hk⟩
theorem Only.of_below (g : Nat) (h : Below w.heap.size w w') : Only g w w' := ⟨h.mono (Nat.zero_le _), fun k hk _ => h.block k hk⟩
theorem Only.drew (h : Only g w w') : Only g w w'.drew := h.trans (Only.of_below _ (Below.refl _ _).drew)
theorem Only.rd (h : Only g w w') {A : Option Addr} {n : Nat} {l : List Nat} (hr : Rd w A n l) (hA : 0 < n → ∀ b off, A = some ⟨b, off, none⟩ → b ≠ g) : Rd w' A n l :=
  ⟨hr.len, hr.words, fun hn => by
    obtain ⟨b, off, e, hlt, hc⟩ := hr.cells hn
    refine ⟨b, off, e, Nat.lt_of_lt_of_le hlt h.below.size, fun i hi => ?_⟩
    exact (World.cell?_of_block (w := w) (a := ⟨b, off + i, none⟩) (h.keep b hlt (hA hn b off e))).trans (hc i hi)⟩
theorem Only.row (h : Only g w w') {k : Nat} {l : List Nat} (hr : RowL w k l) (hk : k ≠ g) : RowL w' k l := (h.keep k hr.lt hk).trans hr
theorem Only.to (h : Only g w w') {B : Nat} (hB : B ≤ g) (hB2 : B ≤ w.heap.size) : Below B w w' := ⟨h.below.os, h.below.tape, h.below.output, h.below.size, fun k hk => h.keep k (by omega) (by omega)⟩
end

theorem cell_far {w : World} {g i g2 i2 : Nat} {v : Value} (h : w.cell? ⟨g2, i2, none⟩ = some v) (hne : g2 ≠ g) (u : Value) : (w.setCell ⟨g, i, none⟩ u).cell? ⟨g2, i2, none⟩ = some v :=
  (World.cell?_of_block (w := w) (a := ⟨g2, i2, none⟩) (Below.heap_setCell _ _ _ _ hne)).trans h
/-! ### A row in three parts -/
theorem lim_mid {P T R : List Nat} {i j : Nat} (hP : P.length = i) (hj : j < T.length) : lim (P ++ T ++ R) (i + j) = lim T j := by
  subst hP
  simp only [lim, List.getD_eq_getElem?_getD, List.append_assoc]
  rw [List.getElem?_append_right (by omega), Nat.add_sub_cancel_left, List.getElem?_append_left hj]
theorem set_mid {P T R : List Nat} {i j : Nat} (hP : P.length = i) (hj : j < T.length) (v : Nat) : (P ++ T ++ R).set (i + j) v = P ++ T.set j v ++ R := by
  subst hP
  rw [List.append_assoc, List.set_append_right _ _ (by omega), Nat.add_sub_cancel_left, List.set_append_left _ _ hj, List.append_assoc]

theorem val_set_take {T : List Nat} {j : Nat} (hj : j < T.length) (v : Nat) : val ((T.set j v).take (j + 1)) = val (T.take j) + B64 ^ j * v := by
  rw [val_take_succ, lim_set hj, if_pos rfl, List.take_set_of_le (Nat.le_refl _)]
theorem lim_set_far {T : List Nat} {j k : Nat} (h : k ≠ j) (v : Nat) : lim (T.set j v) k = lim T k := by
  simp only [lim, List.getD_eq_getElem?_getD, List.getElem?_set]
  rw [if_neg (by omega)]

set_option maxRecDepth 100000 in
set_option maxHeartbeats 2000000 in
/-- div.less. -/
theorem less_any (g i M C : Nat) (P T R : List Nat) (A : Option Addr) (nb cb : Nat) (b : List Nat) (w : World) (hrow : RowL w g (P ++ T ++ R)) (hP : P.length = i) (hT : T.length = nb) (hM : nb ≤ M) (hN : M ≤ 4294967296) (hw : Words T)
    (hrb : Rd w A nb b) (hA : 0 < nb → ∀ b0 off, A = some ⟨b0, off, none⟩ → b0 ≠ g) :
    Calls Tryz.prog 154 #[.slice (some ⟨g, i, none⟩) M C, .slice A nb cb] w fun e w' => ∃ T2 s, e = .returned (u64 s) ∧ s ≤ 1 ∧ RowL w' g (P ++ T2 ++ R) ∧ T2.length = nb ∧ Words T2 ∧ val T2 + val b = val T + B64 ^ nb * s ∧ Only g w w' := by
  go_enter Tryz.func154, Tryz.ntmps154
  go_wp2
  go_loopw [4, 9] (fun o i2 wr => ∃ (j s : Nat) (T2 : List Nat), j ≤ nb ∧ i2 = .int .i64 (j : Int) ∧ o = u64 s ∧ s ≤ 1 ∧ RowL wr g (P ++ T2 ++ R) ∧ T2.length = nb ∧ Words T2 ∧ val (T2.take j) + val (b.take j) = val (T.take j) + B64 ^ j * s ∧ (∀ k, j ≤ k → lim T2 k = lim T k) ∧ Only g w wr) (fun _ i2 _ => nb - (intOf i2).toNat)
  case atStart => exact ⟨0, 0, T, by omega, rfl, rfl, by omega, hrow, hT, hw, by simp [val], fun _ _ => rfl, Only.refl _ _⟩
  case round =>
    obtain ⟨j, s, T2, hj, rfl, rfl, hs, hrow2, hlen, hw2, hval, hsame, hkp⟩ := hrel
    by_cases hlt : j < nb
    · obtain ⟨b1, o1, rfl, _, hc1⟩ := (hkp.rd hrb hA).cells (by omega)
      have hcb := hc1 j hlt
      have hcu : wr.cell? ⟨g, i + j, none⟩ = some (u64 (lim T j)) := by
        rw [← hsame j (Nat.le_refl _), ← lim_mid (R := R) hP (by omega)]
        exact hrow2.cell (by simp; omega)
      have hfu : wr.frozen? ⟨g, i + j, none⟩ = false := hrow2.frozen _
      have hyb := hrb.words.get j
      have hxb := hw.get j
      obtain ⟨x, hx⟩ : ∃ x, lim T j = x := ⟨_, rfl⟩
      obtain ⟨y, hy⟩ : ∃ y, lim b j = y := ⟨_, rfl⟩
      have hst := fun t c2 => sub_step (x := x) (y := y) (z := t) (d := c2) hval
      have hvt := val_take_succ T j
      have hvb := val_take_succ b j
      rw [hx] at hcu hxb hvt
      rw [hy] at hcb hyb hvb
      have hd := howSub_digit x y s hxb hyb hs
      have r1 := fun W => joiner_sub.run x y s hxb hyb hs W
      have hlb := joiner_sub.limb x y s hxb hyb hs
      have hov := joiner_sub.over x y s hxb hyb hs
      obtain ⟨t, ht⟩ : ∃ t, (howSub x y s).1 = t := ⟨_, rfl⟩
      obtain ⟨c2, hc2⟩ : ∃ c2, (howSub x y s).2 = c2 := ⟨_, rfl⟩
      rw [ht] at hd hlb
      rw [hc2] at hd hov
      simp only [ht, hc2] at r1
      have HST := Lib.hid (hst t c2 hd)
      have HROW := Lib.hid hrow2
      have HSM := Lib.hid hsame
      have HKP := Lib.hid hkp
      have HVT := Lib.hid hvt
      have HVB := Lib.hid hvb
      have HW := Lib.hid hw2
      have hne : ¬ (M ≤ j) := by omega
      clear hst hrow2 hsame hkp hc1 hvt hvb hw2 hrow hval hx hy hd ht hc2 hw
      go_wp2
      go_roundw
      case rel =>
        refine ⟨j + 1, c2, T2.set j t, by omega, by go_num, rfl, hov, ?_, by simp [hlen], words_set HW.out hlb, ?_, fun k hk => ?_, HKP.out.setCell (p := ⟨g, i + j, none⟩) rfl _⟩
        · rw [← set_mid (R := R) hP (by omega)]
          exact HROW.out.set _ _
        · rw [val_set_take (by omega), HVB.out, HVT.out, Nat.pow_succ]
          exact HST.out
        · rw [lim_set_far (by omega)]
          exact HSM.out k (by omega)
      case measure => simp [intOf]; omega
    · have hjn : j = nb := by omega
      subst hjn
      rw [val_take_all (by omega), val_take_all (by rw [hrb.len]; omega), val_take_all (by omega)] at hval
      have HROW := Lib.hid hrow2
      have HV := Lib.hid hval
      have HKP := Lib.hid hkp
      clear hrow2 hval hsame hkp hrow
      go_wp2
      go_ret
      exact ⟨T2, s, rfl, hs, HROW.out, hlen, hw2, HV.out, HKP.out⟩

theorem dbl_step {T T2 : List Nat} {j x over bit t : Nat} (h : val (T2.take j) + B64 ^ j * over = 2 * val (T.take j) + bit) (hx : lim T j = x) (ht : t + B64 * (x / 2 ^ 63) = 2 * x + over) :
    val (T2.take j) + B64 ^ j * t + B64 ^ (j + 1) * (x / 2 ^ 63) = 2 * (val (T.take j) + B64 ^ j * x) + bit := by
  have e : B64 ^ j * (t + B64 * (x / 2 ^ 63)) = B64 ^ j * (2 * x + over) := by rw [ht]
  rw [Nat.mul_add, Nat.mul_add, ← Nat.mul_assoc, Nat.mul_left_comm (B64 ^ j) 2 x] at e
  rw [show B64 ^ (j + 1) = B64 ^ j * B64 from Nat.pow_succ ..]
  omega
theorem dbl_word {x over : Nat} (hx : x < B64) (ho : over ≤ 1) : bits .or .u64 (IntKind.u64.wrap ((x : Int) * 2)) (over : Int) = ((over + x * 2 % B64 : Nat) : Int) ∧ (over + x * 2 % B64) + B64 * (x / 2 ^ 63) = 2 * x + over ∧ over + x * 2 % B64 < B64 := by
  have e : IntKind.u64.wrap ((x : Int) * 2) = ((x * 2 % B64 : Nat) : Int) := by
    rw [show (x : Int) * 2 = ((x * 2 : Nat) : Int) by omega, u64_wrap_nat]
  have ho2 := or_shl (x := x) (y := over) (r := 1) (by omega) (by omega)
  rw [Nat.pow_one] at ho2
  have h3 : over + x * 2 % B64 < B64 := by rw [B64_eq] at *; omega
  have h4 : over < B64 := by rw [B64_eq]; omega
  have h5 := bits_or_u64_nat (x * 2 % B64) over (Nat.mod_lt _ B64_pos) h4
  refine ⟨?_, ?_, h3⟩
  · rw [e, h5, Nat.or_comm, ho2]
  · rw [B64_eq] at *
    omega

set_option maxHeartbeats 400000 in
/-- div.trim: a slice cut behind its last limb that is not 0. -/
theorem trimD_any (A : Option Addr) (n c : Nat) (l : List Nat) (w : World) (h : Rd w A n l) (hc0 : n ≤ c) (hc1 : c ≤ 9223372036854775807) :
    Calls Tryz.prog 132 #[.slice A n c] w fun e w' => (∃ k, k ≤ n ∧ e = .returned (.slice A k c) ∧ l.take k = limbs (val l)) ∧ w' = w := by
  go_enter Tryz.func132, Tryz.ntmps132
  go_wp2
  go_loop [3] (fun i => ∃ k : Nat, k ≤ n ∧ i = .int .i64 (k : Int) ∧ ∀ j, k ≤ j → lim l j = 0) (fun i => (intOf i).toNat)
  case atStart => exact ⟨n, Nat.le_refl _, rfl, fun j hj => lim_past (by rw [h.len]; omega)⟩
  case round =>
    obtain ⟨k, hk, rfl, hz⟩ := hrel
    by_cases h0 : k = 0
    · subst h0
      have ht : l.take 0 = limbs (val l) := take_limbs h.words (by omega) (fun h => absurd rfl h) hz
      have HT : Hid (l.take 0 = limbs (val l)) := ht
      clear ht hz h
      go_wp2
      go_ret
      exact ⟨⟨0, by omega, rfl, HT.out⟩, rfl⟩
    · obtain ⟨b, off, rfl, hb, hc⟩ := h.cells (by omega)
      have hci := hc (k - 1) (by omega)
      clear hc
      obtain ⟨j, rfl⟩ : ∃ j, k = j + 1 := ⟨k - 1, by omega⟩
      simp only [Nat.add_sub_cancel] at hci
      by_cases hx : lim l j = 0
      · rw [hx] at hci
        have HX : Hid (lim l j = 0) := hx
        have HZ := Lib.hid hz
        have HH := Lib.hid h
        clear hx hz h
        go_wp2
        go_round
        case rel => exact ⟨j, by omega, by go_num, fun i hi => by
          rcases Nat.eq_or_lt_of_le hi with rfl | hi
          · exact HX.out
          · exact HZ.out i hi⟩
        case measure => simp [intOf]
      · have ht : l.take (j + 1) = limbs (val l) := take_limbs h.words (by rw [h.len]; omega) (fun _ => hx) hz
        have HT : Hid (l.take (j + 1) = limbs (val l)) := ht
        have hne : ((lim l j : Int) == 0) = false := by simp; omega
        clear ht hz h hx
        go_wp2
        go_ret
        exact ⟨⟨j + 1, by omega, rfl, HT.out⟩, rfl⟩


/-! ### The divisor: a struct of two slices -/
/-- What is divided by, and the room for a product. -/
def dvs (AB : Option Addr) (nb cb : Nat) (gm cm : Nat) : Value := .agg #[.slice AB nb cb, .slice (some ⟨gm, 0, none⟩) nb cm]
theorem times_word {x y over h l s c1 : Nat} (hx : x < B64) (hy : y < B64) (ho : over < B64) (hh : x * y / B64 = h) (hl : x * y % B64 = l) (hs : (l + over) % B64 = s) (h1 : (l + over) / B64 = c1) :
    s + B64 * (h + c1) = x * y + over ∧ h + c1 < B64 ∧ l < B64 ∧ s < B64 := by
  have e1 := Nat.mod_add_div (x * y) B64
  have e2 := Nat.mod_add_div (l + over) B64
  have e3 := two_words (m := 0) hx hy B64_pos ho
  rw [hh, hl] at e1
  rw [hs, h1] at e2
  have e : s + B64 * (h + c1) = x * y + over := by rw [Nat.mul_add]; omega
  refine ⟨e, ?_, by rw [← hl]; exact Nat.mod_lt _ B64_pos, by rw [← hs]; exact Nat.mod_lt _ B64_pos⟩
  refine Nat.lt_of_mul_lt_mul_left (a := B64) ?_
  omega
theorem times_step {T2 b : List Nat} {j x y over s next : Nat} (h : val (T2.take j) + B64 ^ j * over = x * val (b.take j)) (hy : lim b j = y) (hs : s + B64 * next = y * x + over) :
    val (T2.take j) + B64 ^ j * s + B64 ^ (j + 1) * next = x * (val (b.take j) + B64 ^ j * y) := by
  have e : B64 ^ j * (s + B64 * next) = B64 ^ j * (y * x + over) := by rw [hs]
  rw [Nat.mul_add, Nat.mul_add, ← Nat.mul_assoc] at e
  rw [show B64 ^ (j + 1) = B64 ^ j * B64 from Nat.pow_succ .., Nat.mul_add, ← h, Nat.mul_left_comm x, Nat.mul_comm x y]
  omega

set_option maxRecDepth 100000 in
set_option maxHeartbeats 2000000 in
/-- (div.divisor).times. -/
theorem timesD_any (AB : Option Addr) (nb cb gm cm x : Nat) (b T : List Nat) (w : World) (hrow : RowL w gm T) (hT : T.length = nb) (hn : nb ≤ 4294967296) (hw : Words T) (hx : x < B64)
    (hrb : Rd w AB nb b) (hA : 0 < nb → ∀ b0 off, AB = some ⟨b0, off, none⟩ → b0 ≠ gm) :
    Calls Tryz.prog 152 #[dvs AB nb cb gm cm, u64 x] w fun e w' => ∃ v T2 over, e = .returned v ∧ RowL w' gm T2 ∧ T2.length = nb ∧ Words T2 ∧ val T2 + B64 ^ nb * over = x * val b ∧ Only gm w w' := by
  unfold dvs
  have hgl := hrow.lt
  have hc0 : (w.alloc (.cells #[.slice AB nb cb, .slice (some ⟨gm, 0, none⟩) nb cm] 150)).cell? ⟨w.heap.size, 1, none⟩ = some (.slice (some ⟨gm, 0, none⟩) nb cm) := by simp
  go_enter Tryz.func152, Tryz.ntmps152
  go_wp2
  have hO := (Only.refl gm w).alloc (.cells #[.slice AB nb cb, .slice (some ⟨gm, 0, none⟩) nb cm] 150)
  have hr1 := hrow.alloc (.cells #[.slice AB nb cb, .slice (some ⟨gm, 0, none⟩) nb cm] 150)
  generalize w.alloc (.cells #[.slice AB nb cb, .slice (some ⟨gm, 0, none⟩) nb cm] 150) = w1 at *
  go_loopw [4, 14] (fun o i2 wr => ∃ (j over : Nat) (T2 : List Nat), j ≤ nb ∧ i2 = .int .i64 (j : Int) ∧ o = u64 over ∧ over < B64 ∧ RowL wr gm T2 ∧ T2.length = nb ∧ Words T2 ∧ val (T2.take j) + B64 ^ j * over = x * val (b.take j) ∧ wr.cell? ⟨w.heap.size, 1, none⟩ = some (.slice (some ⟨gm, 0, none⟩) nb cm) ∧ Only gm w wr) (fun _ i2 _ => nb - (intOf i2).toNat)
  case atStart => exact ⟨0, 0, T, by omega, rfl, rfl, B64_pos, hr1, hT, hw, by simp [val], hc0, hO⟩
  case round =>
    obtain ⟨j, over, T2, hj, rfl, rfl, ho, hrow2, hlen, hw2, hval, hbox, hkp⟩ := hrel
    by_cases hlt : j < nb
    · obtain ⟨b1, o1, rfl, _, hc1⟩ := (hkp.rd hrb hA).cells (by omega)
      have hcb := hc1 j hlt
      have hfu : wr.frozen? ⟨gm, j, none⟩ = false := hrow2.frozen _
      have hcu : wr.cell? ⟨gm, j, none⟩ = some (u64 (lim T2 j)) := hrow2.cell (by omega)
      have hyb := hrb.words.get j
      obtain ⟨y, hy⟩ : ∃ y, lim b j = y := ⟨_, rfl⟩
      have hvb := val_take_succ b j
      rw [hy] at hcb hyb hvb
      obtain ⟨h, hh⟩ : ∃ h, y * x / B64 = h := ⟨_, rfl⟩
      obtain ⟨l, hl⟩ : ∃ l, y * x % B64 = l := ⟨_, rfl⟩
      obtain ⟨s, hs⟩ : ∃ s, (l + over) % B64 = s := ⟨_, rfl⟩
      obtain ⟨c1, h1⟩ : ∃ c1, (l + over) / B64 = c1 := ⟨_, rfl⟩
      obtain ⟨k1, k2, k3, k4⟩ := times_word hyb hx ho hh hl hs h1
      have hst := times_step hval hy k1
      have r1 := fun W => add64_two l over k3 ho W
      rw [hs, h1] at r1
      have f1 := u64_add_fits (x := h) (y := c1) k2
      have HST := Lib.hid hst
      have HROW := Lib.hid hrow2
      have HKP := Lib.hid hkp
      have HW := Lib.hid hw2
      have HBX := Lib.hid hbox
      have HVB := Lib.hid hvb
      have HH := Lib.hid hh
      have HL := Lib.hid hl
      have hgl1 : gm ≠ w.heap.size := by omega
      clear hst hrow2 hkp hc1 hvb hw2 hrow hval hy hs h1 k1 hw hc0 hr1 hh hl
      go_wp2_with (go_at_call 156; refine (mul64_any y x hyb hx _).mono ?_; rw [HH.out, HL.out]; rintro e w1 ⟨rfl, rfl⟩)
      go_roundw
      case rel =>
        refine ⟨j + 1, h + c1, T2.set j s, by omega, by go_num, by go_num, k2, HROW.out.set _ _, by simp [hlen], words_set HW.out k4, ?_, ?_, HKP.out.setCell (p := ⟨gm, j, none⟩) rfl _⟩
        · rw [val_set_take (by omega), HVB.out]
          exact HST.out
        · exact cell_far HBX.out (Ne.symm hgl1) _
      case measure => simp [intOf]; omega
    · have hjn : j = nb := by omega
      subst hjn
      rw [val_take_all (by omega), val_take_all (by rw [hrb.len]; omega)] at hval
      have HROW := Lib.hid hrow2
      have HV := Lib.hid hval
      have HKP := Lib.hid hkp
      clear hrow2 hval hkp hrow
      go_wp2
      go_end0
      exact ⟨_, T2, over, rfl, HROW.out, hlen, hw2, HV.out, HKP.out⟩

/-- The guess of a limb of the quotient. -/
def guessN (hi lo y : Nat) : Nat := if y ≤ hi then 18446744073709551615 else (hi * B64 + lo) / y

set_option maxRecDepth 100000 in
set_option maxHeartbeats 2000000 in
/-- (div.divisor).guess. -/
theorem guess_any (AB A : Option Addr) (nb cb gm cm c : Nat) (b l : List Nat) (w : World) (hrb : Rd w AB nb b) (hrl : Rd w A nb l) (h2 : 2 ≤ nb) (hn : nb ≤ 4294967296) :
    Calls Tryz.prog 151 #[dvs AB nb cb gm cm, .slice A nb c] w fun e w' => e = .returned (u64 (guessN (lim l (nb - 1)) (lim l (nb - 2)) (lim b (nb - 2)))) ∧ Below w.heap.size w w' := by
  unfold dvs
  have hb0 := hrb.alloc (.cells #[.slice AB nb cb, .slice (some ⟨gm, 0, none⟩) nb cm] 150)
  have hl0 := hrl.alloc (.cells #[.slice AB nb cb, .slice (some ⟨gm, 0, none⟩) nb cm] 150)
  obtain ⟨b1, o1, rfl, _, hc1⟩ := hb0.cells (by omega)
  obtain ⟨b2, o2, rfl, _, hc2⟩ := hl0.cells (by omega)
  have c1 := hc1 (nb - 2) (by omega)
  have c2 := hc2 (nb - 2) (by omega)
  have c3 := hc2 (nb - 1) (by omega)
  have hy := hrb.words.get (nb - 2)
  have hl := hrl.words.get (nb - 2)
  generalize lim b (nb - 2) = y at *
  generalize lim l (nb - 2) = lo at *
  generalize lim l (nb - 1) = hi at *
  obtain ⟨n, rfl⟩ : ∃ n, nb = n + 2 := ⟨nb - 2, by omega⟩
  have e1 : n + 2 - 1 = n + 1 := rfl
  rw [e1] at c3
  rw [Nat.add_sub_cancel] at c1 c2
  clear hc1 hc2 hb0 hl0 hrb hrl e1
  by_cases hle : y ≤ hi
  · have hg : guessN hi lo y = 18446744073709551615 := if_pos hle
    have HG := Lib.hid hg
    have hd : decide ((y : Int) ≤ (hi : Int)) = true := int_le_true hle
    clear hg hy hl
    go_enter Tryz.func151, Tryz.ntmps151
    go_wp2
    go_ret
    exact ⟨by rw [HG.out]; rfl, (Below.refl _ w).alloc (Nat.le_refl _) _⟩
  · have hg : guessN hi lo y = (hi * B64 + lo) / y := if_neg hle
    have HG := Lib.hid hg
    have hd : decide ((y : Int) ≤ (hi : Int)) = false := by simp; omega
    have HY := Lib.hid hy
    have HL := Lib.hid hl
    clear hg hy hl
    go_enter Tryz.func151, Tryz.ntmps151
    go_wp2
    go_quiet ((go_at_call 131; exact Calls.quiet_of (div64_any hi lo y HL.out HY.out (by omega) _)))
    go_wp2
    go_ret
    rw [HG.out]
    exact ⟨rfl, below_drewN ((Below.refl _ w).alloc (Nat.le_refl _) _) _⟩
end Go.Proofs.YtgiokmfdafmaoaaGreat

/- (div.divisor).limb: a limb of the quotient, corrected; what it makes is taken away. -/
namespace Go.Proofs.YtgiokmfdafmaoaaGreat
open Go.RowKit Go.Shelf
attribute [local go_sem] Oper.semAt_some
set_option linter.unusedVariables false
set_option linter.unusedSimpArgs false

section
variable {F : Fence} {n : Nat} {P : Program} {Q : Exit → Act → World → Prop} {b : Frame} {a : Act} {k : List Item} {cs : List Frame} {w : World}
theorem stepR_scope {c : Code} : step P (lone (b.atR a (.code (.scope c) :: k)) cs w) = .next (lone (b.atR a (.code c :: .inScope c :: k)) cs w) :=
  step_lone_go (by simp [stepG, stepG.exec, Frame.atR])
theorem stepR_inScope {c : Code} : step P (lone (b.atR a (.inScope c :: k)) cs w) = .next (lone (b.atR a k) cs w) :=
  step_lone_go (by simp [stepG, stepG.exec, Frame.atR])
/-- A scope through which the run goes without a goto, in a fence. -/
theorem wpIn_scope {c : Code} (h : c.wpIn F n P (Exit.noGoto Q) a w) : (Code.scope c).wpIn F n P Q a w := by
  intro b k cs hro hb hr
  have h0 : (lone (b.atR a (.code (.scope c) :: k)) cs w).fenced P F := fenced_calm hb hr rfl
  obtain ⟨e, a₁, w₁, hq, harr⟩ := h b (.inScope c :: k) cs hro hb hr
  cases e with
  | normal => exact ⟨.normal, a₁, w₁, hq, .head h0 stepR_scope (StepsIn.trans harr (.one (fenced_calm hb hr rfl) stepR_inScope))⟩
  | exit id =>
    have hx : exitTo id (.inScope c :: k) = exitTo id k := by simp [exitTo]
    exact ⟨_, a₁, w₁, hq, fun k' hk => .head h0 stepR_scope (harr.1 k' (by rw [hx]; exact hk)),
      fun hr' hk => let ⟨k₁, h1, h2⟩ := harr.2 hr' (by rw [hx]; exact hk); ⟨k₁, h1, .head h0 stepR_scope h2⟩⟩
  | goto l => exact hq.elim
  | ret => exact ⟨_, a₁, w₁, hq, .of_steps (.one h0 stepR_scope) harr⟩
  | panic ch => exact ⟨_, a₁, w₁, hq, .of_steps (.one h0 stepR_scope) harr⟩
  | outgrown => exact ⟨_, a₁, w₁, hq, .of_steps (.one h0 stepR_scope) harr⟩
end

/-! ### Marks of loops that have been gone through -/
def Marks (n0 : Nat) : Nat → List Deferred → World → Prop
  | _, [], _ => True
  | hi, d :: ds, W => ∃ D, d = { target := .collected D, args := #[] } ∧ n0 ≤ D ∧ D < hi ∧ W.heap[D]? = some (.deferred (some [])) ∧ Marks n0 D ds W
theorem Marks.keep {n0 : Nat} {ds : List Deferred} : ∀ {hi hi' : Nat} {W W' : World}, Marks n0 hi ds W → hi ≤ hi' → (∀ k, n0 ≤ k → k < hi → W'.heap[k]? = W.heap[k]?) → Marks n0 hi' ds W' := by
  induction ds with
  | nil => intros; trivial
  | cons d ds ih =>
    rintro hi hi' W W' ⟨D, rfl, h0, h1, hD, hr⟩ hle hk
    exact ⟨D, rfl, h0, by omega, (hk D h0 h1).trans hD, ih hr (Nat.le_refl _) fun k h2 h3 => hk k h2 (by omega)⟩
theorem marks_leave {P : Program} {F : Fence} {n : Nat} {fn : Func} {tmps : Array Value} {R : Ending → World → Prop} {n0 : Nat} {ds : List Deferred} : ∀ {hi : Nat} {W : World}, Marks n0 hi ds W →
    (∀ W', Below n0 W W' → ∃ v, (results fn tmps).run P W' = .ok v W' ∧ R (.returned v) W') → LeavesInM F n P fn tmps R ds .returning W := by
  induction ds with
  | nil =>
    intro hi W _ h
    exact h W (Below.refl _ _)
  | cons d ds ih =>
    rintro hi W ⟨D, rfl, h0, h1, hD, hr⟩ h
    refine ⟨by simp, .inl ⟨_, _, rfl, run_takeDeferred hD, ?_⟩⟩
    have hb : Below n0 W (W.putObj D (.deferred none)) := (Below.refl 0 W |>.mono (Nat.le_refl _)) |> fun _ => ⟨rfl, rfl, rfl, by simp, fun k hk => World.putObj_heap_other (by omega)⟩
    refine ih (hi := D) (hr.keep (Nat.le_refl _) fun k h2 h3 => World.putObj_heap_other (by omega)) fun W' hW => ?_
    exact h W' (hb.trans hW)

/-! ### Predicates that look below a block alone -/
theorem ownFrom_low {β : Type} {n0 B : Nat} {I : β → World → Prop} (hB : n0 ≤ B) (h1 : ∀ s W, I s W → n0 ≤ W.heap.size) (h2 : ∀ s W W', I s W → Below n0 W W' → I s W') : OwnFrom B I :=
  fun s W W' row hs hg hr => h2 s W W' hs ((Below.refl n0 W).grown hg (h1 s W hs) (fun k e => Nat.le_trans hB (hr k e).1))

/-- Nothing of what there was has turned but two blocks. -/
structure Only2 (g h : Nat) (w w' : World) : Prop where
  below : Below 0 w w'
  keep : ∀ k, k < w.heap.size → k ≠ g → k ≠ h → w'.heap[k]? = w.heap[k]?
section
variable {g h : Nat} {w w' w2 : World}
theorem Only2.refl (g h : Nat) (w : World) : Only2 g h w w := ⟨Below.refl _ _, fun _ _ _ _ => rfl⟩
theorem Only2.trans (a : Only2 g h w w') (k : Only2 g h w' w2) : Only2 g h w w2 := ⟨a.below.trans k.below, fun i hi hg hh => (k.keep i (Nat.lt_of_lt_of_le hi a.below.size) hg hh).trans (a.keep i hi hg hh)⟩
theorem Only.left (a : Only g w w') (h : Nat) : Only2 g h w w' := ⟨a.below, fun k hk hg _ => a.keep k hk hg⟩
theorem Only.right (a : Only h w w') (g : Nat) : Only2 g h w w' := ⟨a.below, fun k hk _ hh => a.keep k hk hh⟩
theorem Only2.of_below (hb : Below w.heap.size w w') : Only2 g h w w' := ⟨hb.mono (Nat.zero_le _), fun k hk _ _ => hb.block k hk⟩
theorem Only2.cell (a : Only2 g h w w') {p : Addr} (hp : p.block < w.heap.size) (h1 : p.block ≠ g) (h2 : p.block ≠ h) : w'.cell? p = w.cell? p := World.cell?_of_block (w := w) (a.keep p.block hp h1 h2)
theorem Only2.row (a : Only2 g h w w') {k : Nat} {l : List Nat} (hr : RowL w k l) (h1 : k ≠ g) (h2 : k ≠ h) : RowL w' k l := (a.keep k hr.lt h1 h2).trans hr
theorem Only2.rd (a : Only2 g h w w') {A : Option Addr} {n : Nat} {l : List Nat} (hr : Rd w A n l) (hA : 0 < n → ∀ b off, A = some ⟨b, off, none⟩ → b ≠ g ∧ b ≠ h) : Rd w' A n l :=
  ⟨hr.len, hr.words, fun hn => by
    obtain ⟨b, off, e, hlt, hc⟩ := hr.cells hn
    refine ⟨b, off, e, Nat.lt_of_lt_of_le hlt a.below.size, fun i hi => ?_⟩
    exact (a.cell (p := ⟨b, off + i, none⟩) hlt (hA hn b off e).1 (hA hn b off e).2).trans (hc i hi)⟩
theorem Only2.box (a : Only2 g h w w') {k : Nat} {o : Obj} (hk : w.heap[k]? = some o) (h1 : k ≠ g) (h2 : k ≠ h) : w'.heap[k]? = some o := (a.keep k (Array.getElem?_eq_some_iff.1 hk).1 h1 h2).trans hk
theorem Only2.to (a : Only2 g h w w') {B : Nat} (h1 : B ≤ g) (h2 : B ≤ h) (hB : B ≤ w.heap.size) : Below B w w' := ⟨a.below.os, a.below.tape, a.below.output, a.below.size, fun k hk => a.keep k (by omega) (by omega) (by omega)⟩
end

/-! ### Which of two lists is greater -/
theorem val_gt {M T : List Nat} (hM : Words M) (hT : Words T) (hl : M.length = T.length) {j : Nat} (hj : j < T.length) (he : ∀ k, j < k → k < T.length → lim M k = lim T k) (h : lim T j < lim M j) : val T < val M := by
  have e : M.drop (j + 1) = T.drop (j + 1) := by
    refine eq_of_lim (by simp [hl]) fun i hi => ?_
    have := he (j + 1 + i) (by omega) (by simp at hi; omega)
    simpa [lim, List.getD_eq_getElem?_getD, List.getElem?_drop] using this
  rw [val_split' M (j + 1), val_split' T (j + 1), e, val_take_succ, val_take_succ]
  have h1 : val (T.take j) < B64 ^ j := Nat.lt_of_lt_of_le (val_lt (hT.take j)) (Nat.pow_le_pow_right B64_pos (by rw [List.length_take]; omega))
  have h2 : B64 ^ j * (lim T j + 1) ≤ B64 ^ j * lim M j := Nat.mul_le_mul_left _ h
  rw [Nat.mul_add] at h2
  omega
theorem val_ne_zero {M : List Nat} (hM : Words M) {j : Nat} (h : lim M j ≠ 0) : val M ≠ 0 := fun e => h (by rw [lim_val hM, e]; simp)

theorem RowL.mid {w : World} {g i n : Nat} {P T R : List Nat} (h : RowL w g (P ++ T ++ R)) (hP : P.length = i) (hT : T.length = n) (hw : Words T) : Rd w (some ⟨g, i, none⟩) n T :=
  ⟨hT, hw, fun _ => ⟨g, i, rfl, h.lt, fun j hj => by
    rw [← lim_mid (R := R) hP (by omega)]
    exact h.cell (by simp; omega)⟩⟩
/-- A block of cells. -/
theorem cells_cell {w : World} {k j : Nat} {xs : Array Value} {t : TypeId} {v : Value} (h : w.heap[k]? = some (.cells xs t)) (hv : xs[j]? = some v) : w.cell? ⟨k, j, none⟩ = some v := by
  simp [World.cell?, h, hv]
theorem cells_frozen {w : World} {k j : Nat} {xs : Array Value} {t : TypeId} (h : w.heap[k]? = some (.cells xs t)) : w.frozen? ⟨k, j, none⟩ = false := by
  simp [World.frozen?, h]

/-! ### The guess -/
theorem val_top {b : List Nat} {n : Nat} (hw : Words b) (hl : b.length = n + 1) (hz : lim b n = 0) : val b = val (b.take n) ∧ val b < B64 ^ n := by
  have e := val_take_succ b n
  rw [val_take_all (by omega), hz, Nat.mul_zero, Nat.add_zero] at e
  refine ⟨e, ?_⟩
  rw [e]
  exact Nat.lt_of_lt_of_le (val_lt (hw.take n)) (Nat.pow_le_pow_right B64_pos (by rw [List.length_take]; omega))
theorem guess_ok {b T : List Nat} {n : Nat} (hwb : Words b) (hwT : Words T) (hlb : b.length = n + 2) (hlT : T.length = n + 2) (hz : lim b (n + 1) = 0) (h0 : 0 < val b) :
    (val T < val b * B64 → val T / val b ≤ guessN (lim T (n + 1)) (lim T n) (lim b n)) ∧ guessN (lim T (n + 1)) (lim T n) (lim b n) < B64 := by
  have hq : val T < val b * B64 → val T / val b < B64 := fun hlt => by rw [Nat.div_lt_iff_lt_mul h0, Nat.mul_comm]; exact hlt
  have hlo := hwT.get n
  unfold guessN
  split
  · rw [B64_eq] at *
    exact ⟨fun h => by have := hq h; omega, by omega⟩
  · rename_i hy
    have hb1 := (val_top (n := n + 1) hwb (by omega) hz).1
    rw [val_take_succ] at hb1
    have hT1 := val_take_succ T (n + 1)
    rw [val_take_all (by omega), val_take_succ] at hT1
    have hT2 : val (T.take n) < B64 ^ n := Nat.lt_of_lt_of_le (val_lt (hwT.take n)) (Nat.pow_le_pow_right B64_pos (by rw [List.length_take]; omega))
    have hp : 0 < B64 ^ n := Nat.pow_pos B64_pos
    generalize lim T (n + 1) = hi at *
    generalize lim T n = lo at *
    generalize lim b n = y at *
    constructor
    · intro _
      rw [Nat.le_div_iff_mul_le (by omega)]
      have e1 := Nat.div_mul_le_self (val T) (val b)
      generalize val T / val b = q at *
      have e2 : q * (B64 ^ n * y) ≤ q * val b := Nat.mul_le_mul_left _ (by rw [hb1]; omega)
      have e3 : B64 ^ n * (q * y) < B64 ^ n * (hi * B64 + lo + 1) := by
        rw [Nat.mul_left_comm, Nat.mul_add, Nat.mul_add]
        rw [show B64 ^ (n + 1) = B64 ^ n * B64 from Nat.pow_succ .., Nat.mul_assoc, Nat.mul_comm B64 hi] at hT1
        omega
      have := Nat.lt_of_mul_lt_mul_left e3
      omega
    · rw [Nat.div_lt_iff_lt_mul (by omega)]
      have := Nat.mul_le_mul_right B64 (show hi + 1 ≤ y by omega)
      rw [Nat.add_mul, Nat.mul_comm y] at this
      omega
theorem times_fits {b M : List Nat} {n g over : Nat} (hwb : Words b) (hlb : b.length = n + 2) (hz : lim b (n + 1) = 0) (hg : g < B64) (h : val M + B64 ^ (n + 2) * over = g * val b) : over = 0 := by
  have hb := (val_top (n := n + 1) hwb (by omega) hz).2
  have e : g * val b < B64 ^ (n + 2) := by
    rw [show B64 ^ (n + 2) = B64 * B64 ^ (n + 1) from by rw [Nat.mul_comm]; rfl]
    exact Nat.mul_lt_mul_of_lt_of_lt hg hb
  rcases Nat.eq_zero_or_pos over with h0 | h0
  · exact h0
  · have := Nat.mul_le_mul_left (B64 ^ (n + 2)) h0
    omega
/-! ### What the rounds have seen -/
theorem mem_downs {m k j : Nat} (h : j < m) (hk : m - 1 - j < k) : j ∈ downs m k := by
  unfold downs
  rw [List.mem_map]
  exact ⟨m - 1 - j, by simpa using hk, by omega⟩
theorem seen_above {nb k : Nat} {M T : List Nat} {pre : List (BkI nb (fun j v => v = lim M j))} {x : BkI nb (fun j v => v = lim M j)} (hp : places (pre ++ [x]) = downs nb k) (h : ∀ y ∈ pre, y.1.2 = lim T y.1.1) :
    ∀ j, x.1.1 < j → j < nb → lim M j = lim T j := by
  intro j h1 h2
  have hk : k = pre.length + 1 := by have := congrArg List.length hp; rw [places_length, downs_length] at this; simpa using this.symm
  subst hk
  rw [places_snoc, downs_succ] at hp
  obtain ⟨e1, e2⟩ := List.append_inj hp (by rw [places_length, downs_length])
  have e3 : x.1.1 = nb - 1 - pre.length := by simpa using e2
  have hm : j ∈ places pre := by rw [e1]; exact mem_downs h2 (by omega)
  unfold places at hm
  obtain ⟨y, hy, e⟩ := List.mem_map.1 hm
  have := h y hy
  rw [← e, ← this]
  exact y.2.2.symm
theorem seen_all {nb : Nat} {M T : List Nat} {pre : List (BkI nb (fun j v => v = lim M j))} (hp : places pre = downs nb nb) (h : ∀ y ∈ pre, y.1.2 = lim T y.1.1) (hM : M.length = nb) (hT : T.length = nb) : M = T := by
  refine eq_of_lim (by omega) fun j hj => ?_
  have hm : j ∈ places pre := by rw [hp]; exact mem_downs (by omega) (by omega)
  unfold places at hm
  obtain ⟨y, hy, e⟩ := List.mem_map.1 hm
  have := h y hy
  rw [← e, ← this]
  exact y.2.2.symm

theorem limb_end {T T2 b M : List Nat} {nb q s : Nat} (hv : val T2 + val M = val T + B64 ^ nb * s) (hs : s ≤ 1) (hm : val M = q * val b) (hle : val M ≤ val T) (hq : val T < val b * B64 → val T / val b ≤ q) (h0 : 0 < val b) (hT : T.length = nb) (hw : Words T2) (hT2 : T2.length = nb) :
    val T2 + q * val b = val T ∧ (val T < val b * B64 → q = val T / val b) := by
  have h1 := val_lt hw
  rw [hT2] at h1
  have hs0 : s = 0 := by
    rcases Nat.le_one_iff_eq_zero_or_eq_one.1 hs with h | h
    · exact h
    · subst h; omega
  subst hs0
  rw [Nat.mul_zero, Nat.add_zero, hm] at hv
  exact ⟨hv, fun h => Nat.le_antisymm (by rw [Nat.le_div_iff_mul_le h0, ← hm]; exact hle) (hq h)⟩
/-- How it stands ahead of a round of the correction: the guess q, and q times what is divided by. -/
structure LSt (w : World) (AB : Option Addr) (nb cb gm cm gb : Nat) (L : Value) (b : List Nat) (q : Nat) (M : List Nat) (W : World) : Prop where
  x0 : W.heap[w.heap.size]? = some (.cells #[.slice AB nb cb, .slice (some ⟨gm, 0, none⟩) nb cm] 150)
  x1 : W.heap[w.heap.size + 1]? = some (.cells #[L] 22)
  bx : W.heap[gb]? = some (.cells #[u64 q] 36)
  rm : RowL W gm M
  len : M.length = nb
  wm : Words M
  qlt : q < B64
  vm : val M = q * val b
  only : Only gm w W
theorem LSt.low {w : World} {AB : Option Addr} {nb cb gm cm gb q : Nat} {L : Value} {b M : List Nat} {W : World} (h : LSt w AB nb cb gm cm gb L b q M W) : gb < W.heap.size := (Array.getElem?_eq_some_iff.1 h.bx).1
theorem LSt.below {w : World} {AB : Option Addr} {nb cb gm cm gb q : Nat} {L : Value} {b M : List Nat} {W W' : World} (h : LSt w AB nb cb gm cm gb L b q M W) (hw : w.heap.size + 1 < gb) (hg : gm < w.heap.size) {n0 : Nat} (hn : gb < n0) (hb : Below n0 W W') : LSt w AB nb cb gm cm gb L b q M W' :=
  ⟨(hb.block _ (by omega)).trans h.x0, (hb.block _ (by omega)).trans h.x1, (hb.block _ hn).trans h.bx, h.rm.below hb (by omega), h.len, h.wm, h.qlt, h.vm, h.only.below.trans (hb.mono (Nat.zero_le _)), fun k hk hg => (hb.block k (by omega)).trans (h.only.keep k hk hg)⟩

theorem limb_less {M M4 b : List Nat} {nb q s : Nat} (hv : val M4 + val b = val M + B64 ^ nb * s) (hs : s ≤ 1) (hm : val M = q * val b) (hq : 0 < q) (hw : Words M) (hl : M.length = nb) (hw4 : Words M4) (hl4 : M4.length = nb) :
    s = 0 ∧ val M4 = (q - 1) * val b := by
  obtain ⟨k, rfl⟩ : ∃ k, q = k + 1 := ⟨q - 1, by omega⟩
  have h1 := val_lt hw4
  rw [hl4] at h1
  rw [Nat.add_mul, Nat.one_mul] at hm
  rw [Nat.add_sub_cancel]
  rcases Nat.le_one_iff_eq_zero_or_eq_one.1 hs with h | h
  · subst h; exact ⟨rfl, by omega⟩
  · subst h; omega
/-- What the rounds of the comparison hand on: so far all are the same. -/
def LmI (nb : Nat) (M T : List Nat) (WE : World) (pre : List (BkI nb (fun j v => v = lim M j))) (Wx : World) : Prop := (∀ x ∈ pre, x.1.2 = lim T x.1.1) ∧ Below WE.heap.size WE Wx
/-- A round has parted the two: the guess is less by 1, or it is right. -/
def LmX (nb : Nat) (M T : List Nat) (WE : World) (gb : Nat) (ds : List Deferred) (Ls : Nat → List Nat → World → Prop) (q : Nat) (c : Code) (pre : List (BkI nb (fun j v => v = lim M j))) (Wx : World) : Prop :=
  WE.heap.size ≤ Wx.heap.size ∧ ∃ (pre' : List (BkI nb (fun j v => v = lim M j))) (x : BkI nb (fun j v => v = lim M j)), pre = pre' ++ [x] ∧ (∀ y ∈ pre', y.1.2 = lim T y.1.1) ∧
        ((c = .exit 1 ∧ lim T x.1.1 < x.1.2 ∧ Marks (gb + 1) WE.heap.size ds Wx ∧ ∃ M4, Ls (q - 1) M4 Wx) ∨
         (c = .exit 0 ∧ x.1.2 < lim T x.1.1 ∧ Below WE.heap.size WE Wx))

set_option maxRecDepth 100000 in
set_option maxHeartbeats 4000000 in
theorem limbD_any (AB : Option Addr) (nb cb gm cm gl i C : Nat) (b M P T R : List Nat) (w : World) (hrb : Rd w AB nb b) (hAB : ∀ b0 off, AB = some ⟨b0, off, none⟩ → b0 ≠ gm) (hrm : RowL w gm M) (hM : M.length = nb) (hwM : Words M) (hgl : gm ≠ gl)
    (hrow : RowL w gl (P ++ T ++ R)) (hP : P.length = i) (hT : T.length = nb) (hwT : Words T) (h2 : 2 ≤ nb) (hn : nb ≤ 1000000) (hz : lim b (nb - 1) = 0) (h0 : 0 < val b) :
    Calls Tryz.prog 140 #[dvs AB nb cb gm cm, .slice (some ⟨gl, i, none⟩) nb C] w fun e w' => ∃ T2 M2 q, e = .returned (u64 q) ∧ q < B64 ∧ RowL w' gl (P ++ T2 ++ R) ∧ T2.length = nb ∧ Words T2 ∧ val T2 + q * val b = val T ∧ (val T < val b * B64 → q = val T / val b) ∧ RowL w' gm M2 ∧ M2.length = nb ∧ Words M2 ∧ Only2 gm gl w w' := by
  refine (callsIn_wide (n := 8)).1 ?_
  refine callsIn_of_wp_marks Tryz.func140 rfl trivial ?_ rfl
  simp only [Tryz.ntmps140, List.size_toArray, List.length_cons, List.length_nil, Nat.reduceAdd, Nat.reduceSub, Array.replicate_succ, Array.replicate_zero, List.push_toArray, List.append_toArray, List.nil_append, List.cons_append]
  unfold dvs
  have HRB := Lib.hid hrb
  have HAB := Lib.hid hAB
  have HRM := Lib.hid hrm
  have HM := Lib.hid hM
  have HROW := Lib.hid hrow
  have HP := Lib.hid hP
  have HT := Lib.hid hT
  have HZ := Lib.hid hz
  have HWM := Lib.hid hwM
  have HWT := Lib.hid hwT
  have hRT := hrow.mid hP hT hwT
  have HRT := Lib.hid hRT
  have hglt := hrow.lt
  have HGL := Lib.hid hglt
  clear hrb hAB hrm hM hrow hP hT hz hwM hwT hRT hglt
  gi_wp2
  refine wpIn_scope ?_
  gi_wp2_with fail
  obtain ⟨w2, hw2⟩ : ∃ w2, w2 = ((w.alloc (.cells #[.slice AB nb cb, .slice (some ⟨gm, 0, none⟩) nb cm] 150)).alloc (.cells #[.slice (some ⟨gl, i, none⟩) nb C] 22)) := ⟨_, rfl⟩
  have b2 : Below w.heap.size w w2 := by rw [hw2]; exact ((Below.refl _ w).alloc (Nat.le_refl _) _).alloc (by simp) _
  have s2 : w2.heap.size = w.heap.size + 1 + 1 := by rw [hw2]; simp
  have x0 : w2.heap[w.heap.size]? = some (.cells #[.slice AB nb cb, .slice (some ⟨gm, 0, none⟩) nb cm] 150) := by
    rw [hw2]; exact (Below.heap_alloc _ _ _ (by simp)).trans (World.alloc_heap_new w _)
  have x1 : w2.heap[w.heap.size + 1]? = some (.cells #[.slice (some ⟨gl, i, none⟩) nb C] 22) := by
    rw [hw2]; have := World.alloc_heap_new (w.alloc (.cells #[.slice AB nb cb, .slice (some ⟨gm, 0, none⟩) nb cm] 150)) (.cells #[.slice (some ⟨gl, i, none⟩) nb C] 22); rwa [World.size_alloc] at this
  rw [← hw2]
  clear hw2
  refine ⟨trivial, (callsIn_wide.2 (guess_any AB (some ⟨gl, i, none⟩) nb cb gm cm C b T w2 (HRB.out.below b2) (HRT.out.below b2) h2 (by omega))).mono ?_⟩
  rintro e w3 ⟨rfl, b3⟩
  obtain ⟨n2, hn2⟩ : ∃ n2, nb = n2 + 2 := ⟨nb - 2, by omega⟩
  obtain ⟨hg1, hg2⟩ : (val T < val b * B64 → val T / val b ≤ guessN (lim T (nb - 1)) (lim T (nb - 2)) (lim b (nb - 2))) ∧ guessN (lim T (nb - 1)) (lim T (nb - 2)) (lim b (nb - 2)) < B64 := by
    have := guess_ok (n := n2) HRB.out.words HWT.out (by rw [HRB.out.len]; exact hn2) (by rw [HT.out]; exact hn2) (by have := HZ.out; rw [hn2] at this; exact this) h0
    rw [hn2]
    exact this
  have HN2 := Lib.hid hn2
  clear hn2
  generalize guessN (lim T (nb - 1)) (lim T (nb - 2)) (lim b (nb - 2)) = g at *
  have s3 := b3.size
  have y0 := (b3.block w.heap.size (by omega)).trans x0
  have y1 := (b3.block (w.heap.size + 1) (by omega)).trans x1
  have z0 := (Below.heap_alloc w3 (.cells #[.int .u64 (g : Int)] 36) w.heap.size (by omega)).trans y0
  have z1 := (Below.heap_alloc w3 (.cells #[.int .u64 (g : Int)] 36) (w.heap.size + 1) (by omega)).trans y1
  have z2 := World.alloc_heap_new w3 (.cells #[.int .u64 (g : Int)] 36)
  have c00 : (w3.alloc (.cells #[.int .u64 (g : Int)] 36)).cell? ⟨w.heap.size, 0, none⟩ = some (.slice AB nb cb) := cells_cell z0 rfl
  have c01 : (w3.alloc (.cells #[.int .u64 (g : Int)] 36)).cell? ⟨w.heap.size, 1, none⟩ = some (.slice (some ⟨gm, 0, none⟩) nb cm) := cells_cell z0 rfl
  have s4 : (w3.alloc (.cells #[.int .u64 (g : Int)] 36)).heap.size = w3.heap.size + 1 := by simp
  have b4 : Below w.heap.size w (w3.alloc (.cells #[.int .u64 (g : Int)] 36)) := (b2.trans (b3.mono (by omega))).alloc (by omega) _
  have HG1 := Lib.hid hg1
  have HG2 := Lib.hid hg2
  clear hg1 hg2 x0 x1 y0 y1
  gi_wp2_with fail
  clear c00 c01
  generalize w3.alloc (.cells #[.int .u64 (g : Int)] 36) = w4 at *
  obtain ⟨gb, hgb⟩ : ∃ gb, w3.heap.size = gb := ⟨_, rfl⟩
  rw [hgb] at z2 s4 s3 ⊢
  clear b2 b3 hgb
  refine ⟨trivial, (callsIn_wide.2 (timesD_any AB nb cb gm cm g b M w4 (HRM.out.below b4 HRM.out.lt) HM.out (by omega) HWM.out HG2.out (HRB.out.below b4) (fun _ b0 off e => by have := HAB.out b0 off e; omega))).mono ?_⟩
  rintro e w5 ⟨v, M2, over, rfl, hrm5, hM5, hwM5, hval5, hO5⟩
  have hov : over = 0 := times_fits (n := n2) HRB.out.words (by rw [HRB.out.len]; exact HN2.out) (by have := HZ.out; rw [HN2.out] at this; exact this) HG2.out (by have := hval5; rw [HN2.out] at this; exact this)
  subst hov
  rw [Nat.mul_zero, Nat.add_zero] at hval5
  have hgmw : gm < w.heap.size := HRM.out.lt
  have hgm0 : gm ≠ w.heap.size := by omega
  have l0 := (Array.getElem?_eq_some_iff.1 z0).1
  have l1 := (Array.getElem?_eq_some_iff.1 z1).1
  have l2 := (Array.getElem?_eq_some_iff.1 z2).1
  have hw : w.heap.size + 1 < gb := by omega
  have hLS : LSt w AB nb cb gm cm gb (.slice (some ⟨gl, i, none⟩) nb C) b g M2 w5 :=
    ⟨(hO5.keep _ (by omega) (by omega)).trans z0, (hO5.keep _ (by omega) (by omega)).trans z1, (hO5.keep _ (by omega) (by omega)).trans z2, hrm5, hM5, hwM5, HG2.out, hval5, (Only.of_below gm b4).trans hO5⟩
  have HLS := Lib.hid hLS
  clear hLS hrm5 hM5 hwM5 hval5 hO5 z0 z1 z2 s4 s3 s2 b4 l0 l1 l2
  gi_wp2_with fail
  refine wpIn_label ?_
  gi_wp2_with fail
  refine wpIn_loop (fun a' W => ∃ q M3 u14 u15 u16 ds, LSt w AB nb cb gm cm gb (.slice (some ⟨gl, i, none⟩) nb C) b q M3 W ∧ (val T < val b * B64 → val T / val b ≤ q) ∧ Marks (gb + 1) W.heap.size ds W ∧
    a' = { tmps := #[.agg #[.slice AB nb cb, .slice (some ⟨gm, 0, none⟩) nb cm], .slice (some ⟨gl, i, none⟩) nb C, .pointer (some ⟨w.heap.size, 0, none⟩), .pointer (some ⟨w.heap.size + 1, 0, none⟩), .int .u64 0, .pointer (some ⟨gb, 0, none⟩), undef, undef, .agg #[.slice AB nb cb, .slice (some ⟨gm, 0, none⟩) nb cm], .slice (some ⟨gl, i, none⟩) nb C, u64 g, .agg #[.slice AB nb cb, .slice (some ⟨gm, 0, none⟩) nb cm], .int .u64 g, v, u14, u15, u16, undef, undef, undef, undef, undef, undef, undef, undef, undef, undef, undef, undef, undef, undef, undef, undef, undef, undef, undef, undef, undef, undef, undef, undef, undef, undef, undef, undef], defers := ds }) (fun _ W => (intOf ((W.cell? ⟨gb, 0, none⟩).getD undef)).toNat) ?_ ?_
  · exact ⟨g, M2, undef, undef, undef, [], HLS.out, HG1.out, trivial, rfl⟩
  · rintro a' W ⟨q, M3, u14, u15, u16, ds, hL, hq, hmk, rfl⟩
    have c01 : W.cell? ⟨w.heap.size, 1, none⟩ = some (.slice (some ⟨gm, 0, none⟩) nb cm) := cells_cell hL.x0 rfl
    have HL := Lib.hid hL
    have HMK := Lib.hid hmk
    have HQ := Lib.hid hq
    clear hL hmk hq HLS
    gi_wp2_with fail
    refine ⟨trivial, (callsIn_wide.2 (backU_any (some ⟨gm, 0, none⟩) nb cm W)).mono ?_⟩
    rintro e w6 ⟨rfl, rfl⟩
    gi_wp2_with fail
    obtain ⟨WE, hWE⟩ : ∃ WE, WE = W.alloc (.cells #[.slice (some ⟨gm, 0, none⟩) nb cm] 22) := ⟨_, rfl⟩
    have hbE : Below W.heap.size W WE := by rw [hWE]; exact (Below.refl _ W).alloc (Nat.le_refl _) _
    have hsE : WE.heap.size = W.heap.size + 1 := by rw [hWE]; simp
    have hxE : WE.heap[W.heap.size]? = some (.cells #[.slice (some ⟨gm, 0, none⟩) nb cm] 22) := by rw [hWE]; exact World.alloc_heap_new W _
    rw [← hWE]
    clear hWE c01
    have hlow := HL.out.low
    have hLE := HL.out.below hw hgmw hlow hbE
    have hmE := HMK.out.keep (hi' := WE.heap.size) (by omega) (fun k _ hk => hbE.block k hk)
    have HLE := Lib.hid hLE
    have HME := Lib.hid hmE
    have hrdM : Rd WE (some ⟨gm, 0, none⟩) nb M3 := by
      have := RowL.mid (P := []) (T := M3) (R := []) (i := 0) (by simpa using hLE.rm) rfl hLE.len hLE.wm
      exact this
    have hkb : ∀ (Wx : World) (l : Nat) (o' : Obj), WE.heap.size ≤ l → KeepsOf (fun k => k < WE.heap.size) Wx (Wx.putObj l o') := fun Wx l o' hl => ⟨by simp, fun k hk => World.putObj_heap_other (by omega)⟩
    have HH := Lib.hid (has_rd hrdM)
    have HSE := Lib.hid hsE
    have hWlt : W.heap.size < WE.heap.size := by omega
    clear hLE hmE hrdM hsE
    refine wpIn_rangeFunc_ownG rfl (by omega) (gf := 157) (lb := #[.pointer (some ⟨W.heap.size, 0, none⟩)]) rfl trivial (enters_of Tryz.func157 (by kernel_rfl) rfl)
      (backU_stops (fun k => k < WE.heap.size) (fun j v => v = lim M3 j) _ W.heap.size (some ⟨gm, 0, none⟩) nb cm (by omega) hWlt WE (by omega) (fun b0 off _ e => by cases e; omega) (cells_cell hxE rfl) HH.out)
      BkK.trans ?hkb (Below.refl _ _) (fun _ => rfl)
      (LmI nb M3 T WE) (LmX nb M3 T WE gb ds (fun q M W => LSt w AB nb cb gm cm gb (.slice (some ⟨gl, i, none⟩) nb C) b q M W) q)
      ?hI ?hIx ⟨fun x hx => absurd hx (by simp), Below.refl _ _⟩ ?_ ?assign ?body ?done ?stop
    case hkb =>
      intro Wx l o o' hl ho _ _
      exact ⟨hkb Wx l o' hl, has_keeps (hkb Wx l o' hl) (fun _ b0 off e => by cases e; show gm < WE.heap.size; omega)⟩
    case hI =>
      exact ownFrom_low (Nat.le_refl _) (fun s W1 h => h.2.size) (fun s W1 W2 h hb => ⟨h.1, h.2.trans hb⟩)
    case hIx =>
      intro c
      refine ownFrom_low (Nat.le_refl _) (fun s W1 h => h.1) ?_
      rintro s W1 W2 ⟨hs, pre', x, e, h1, h2⟩ hb
      refine ⟨Nat.le_trans hs hb.size, pre', x, e, h1, ?_⟩
      rcases h2 with ⟨e, h3, h4, M4, h5⟩ | ⟨e, h3, h4⟩
      · exact .inl ⟨e, h3, h4.keep (Nat.le_refl _) (fun k _ hk => hb.block k hk), M4, h5.below hw hgmw (n0 := WE.heap.size) (by omega) hb⟩
      · exact .inr ⟨e, h3, h4.trans hb⟩
    case assign =>
      intro l x W K hK
      gi_wp2
      exact hK
    case body =>
      rintro l pre x Wx ⟨hpre, hbx⟩ hlen
      have hLx := HLE.out.below hw hgmw (n0 := WE.heap.size) (by omega) hbx
      have hlow2 := hLx.low
      have hglw := HGL.out
      have c1 : Wx.cell? ⟨w.heap.size + 1, 0, none⟩ = some (.slice (some ⟨gl, i, none⟩) nb C) := cells_cell hLx.x1 rfl
      have hrowx := hLx.only.row HROW.out (by omega)
      have hrdT := RowL.mid hrowx HP.out HT.out HWT.out
      obtain ⟨⟨j, m⟩, hj, hm⟩ := x
      obtain ⟨b0, off, e, _, hc⟩ := hrdT.cells (by omega)
      cases e
      have hct := hc j hj
      obtain ⟨t, ht⟩ : ∃ t, lim T j = t := ⟨_, rfl⟩
      rw [ht] at hct
      have hjn : ¬ (nb ≤ j) := by have : j < nb := hj; omega
      have hj' : j < nb := hj
      have HPRE := Lib.hid hpre
      have HBX := Lib.hid hbx
      have HLX := Lib.hid hLx
      have HM3 := Lib.hid hm
      have HTT := Lib.hid ht
      have HRT2 := Lib.hid hrdT
      clear hpre hbx hLx hrowx hrdT hc ht hlen
      rcases Nat.lt_trichotomy t m with h | h | h
      · have d1 := dv_less h
        have cgb : Wx.cell? ⟨gb, 0, none⟩ = some (u64 q) := cells_cell HLX.out.bx rfl
        have fgb : Wx.frozen? ⟨gb, 0, none⟩ = false := cells_frozen HLX.out.bx
        have hmM : lim M3 j ≠ 0 := by have : m = lim M3 j := HM3.out; omega
        have hv0 := val_ne_zero HLX.out.wm hmM
        rw [HLX.out.vm] at hv0
        have hq0 : 0 < q := Nat.pos_of_ne_zero fun e => hv0 (by rw [e, Nat.zero_mul])
        have t2 := dv_dec1 (q := q) HLX.out.qlt hq0
        have n0 : ¬ (w.heap.size = gb) := by omega
        have y0 := (Below.heap_setCell Wx ⟨gb, 0, none⟩ (u64 (q - 1)) w.heap.size (by show w.heap.size ≠ gb; omega)).trans HLX.out.x0
        have e00 : (Wx.setCell ⟨gb, 0, none⟩ (u64 (q - 1))).cell? ⟨w.heap.size, 0, none⟩ = some (.slice AB nb cb) := cells_cell y0 rfl
        have e01 : (Wx.setCell ⟨gb, 0, none⟩ (u64 (q - 1))).cell? ⟨w.heap.size, 1, none⟩ = some (.slice (some ⟨gm, 0, none⟩) nb cm) := cells_cell y0 rfl
        have HV0 := Lib.hid hv0
        have HQ0 := Lib.hid hq0
        have hr0 : RowL (Wx.setCell ⟨gb, 0, none⟩ (u64 (q - 1))) gm ([] ++ M3 ++ []) := by
          have := HLX.out.rm.far (p := ⟨gb, 0, none⟩) (by show gm ≠ gb; omega) (u64 (q - 1))
          simpa using this
        have hO1 := (Only.refl gb Wx).setCell (p := ⟨gb, 0, none⟩) rfl (u64 (q - 1))
        have hbx1 : (Wx.setCell ⟨gb, 0, none⟩ (u64 (q - 1))).heap[gb]? = some (.cells #[u64 (q - 1)] 36) := Boxed.set (u64 (q - 1)) HLX.out.bx
        have HR0 := Lib.hid hr0
        have HO1 := Lib.hid hO1
        have HBX1 := Lib.hid hbx1
        clear hmM hv0 y0 hr0 hO1 hbx1
        gi_wp2_with fail
        generalize (Wx.setCell ⟨gb, 0, none⟩ (.int .u64 ((q - 1 : Nat) : Int))) = Wy at *
        have hrby := HO1.out.rd (HLX.out.only.rd HRB.out (fun _ b1 off1 e => by have := HAB.out b1 off1 e; omega)) (fun h9 b1 off1 e => by have := HRB.out.cells h9; obtain ⟨b2, o2, e2, hl2, _⟩ := this; rw [e] at e2; cases e2; omega)
        refine ⟨trivial, (CallsIn.inRound l (callsIn_wide.2 (less_any gm 0 nb cm [] M3 [] AB nb cb b Wy HR0.out rfl HLX.out.len (Nat.le_refl _) (by omega) HLX.out.wm hrby (fun _ b1 off1 e => by have := HAB.out b1 off1 e; omega)))).mono ?_⟩
        rintro e w8 ⟨M4, s, rfl, hs1, hrow8, hM4, hwM4, hval8, hO8⟩
        clear hrby e00 e01 cgb fgb
        gi_wp2
        have sy := HO1.out.below.size
        have s8 := hO8.below.size
        have sE := HSE.out
        have sX := HBX.out.size
        obtain ⟨f1, f2⟩ := limb_less hval8 hs1 HLX.out.vm HQ0.out HLX.out.wm HLX.out.len hwM4 hM4
        have st := HLX.out.only.below.size
        refine ⟨⟨by omega, fun k o h9 hk _ => ?_⟩, by omega, pre, ⟨(j, m), hj, HM3.out⟩, rfl, HPRE.out, .inl ⟨rfl, by show lim T j < m; rw [HTT.out]; exact h, ?_, M4, ?_⟩⟩
        · have hkl := (Array.getElem?_eq_some_iff.1 hk).1
          exact (hO8.keep k (by omega) (by omega)).trans ((HO1.out.keep k hkl (by omega)).trans hk)
        · exact HME.out.keep (Nat.le_refl _) fun k h7 h9 => (hO8.keep k (by omega) (by omega)).trans ((HO1.out.keep k (by omega) (by omega)).trans (HBX.out.block k h9))
        · refine ⟨(hO8.keep _ (by omega) (by omega)).trans ((HO1.out.keep _ (by omega) (by omega)).trans HLX.out.x0), (hO8.keep _ (by omega) (by omega)).trans ((HO1.out.keep _ (by omega) (by omega)).trans HLX.out.x1), (hO8.keep _ (by omega) (by omega)).trans HBX1.out, by simpa using hrow8, hM4, hwM4, by have := HLX.out.qlt; omega, f2, ?_⟩
          exact ⟨HLX.out.only.below.trans (HO1.out.below.trans hO8.below), fun k hk hg => (hO8.keep k (by omega) hg).trans ((HO1.out.keep k (by omega) (by omega)).trans (HLX.out.only.keep k hk hg))⟩
      · subst h
        have d1 := dv_lessn (Nat.le_refl t)
        gi_wp2
        refine ⟨KeepsFrom.refl _ _, BkK.refl _, fun y hy => ?_, HBX.out⟩
        rcases List.mem_append.1 hy with h | h
        · exact HPRE.out y h
        · rw [List.mem_singleton.1 h]; exact HTT.out.symm
      · have d1 := dv_less h
        have d2 := dv_lessn (Nat.le_of_lt h)
        gi_wp2
        exact ⟨KeepsFrom.refl _ _, HBX.out.size, pre, ⟨(j, m), hj, HM3.out⟩, rfl, HPRE.out, .inr ⟨rfl, by show m < lim T j; rw [HTT.out]; exact h, HBX.out⟩⟩
    case done =>
      rintro D ys Wx hD hys ⟨hpre, hbx⟩ hK
      have hMT := seen_all hys hpre HLE.out.len HT.out
      have hle : val M3 ≤ val T := by rw [hMT]; exact Nat.le_refl _
      clear hMT hys hpre
      have hLx := HLE.out.below hw hgmw (n0 := WE.heap.size) (by omega) hbx
      have hlow2 := hLx.low
      have hmx : Marks (gb + 1) Wx.heap.size ({ target := .collected D, args := #[] } :: ds) Wx := ⟨D, rfl, by omega, (Array.getElem?_eq_some_iff.1 hK).1, hK, HME.out.keep (hi' := D) hD (fun k _ hk => hbx.block k hk)⟩
      have c1 : Wx.cell? ⟨w.heap.size + 1, 0, none⟩ = some (.slice (some ⟨gl, i, none⟩) nb C) := cells_cell hLx.x1 rfl
      have c01 : Wx.cell? ⟨w.heap.size, 1, none⟩ = some (.slice (some ⟨gm, 0, none⟩) nb cm) := cells_cell hLx.x0 rfl
      have hrowx := hLx.only.row HROW.out (by omega)
      have hrdMx : Rd Wx (some ⟨gm, 0, none⟩) nb M3 := RowL.mid (P := []) (T := M3) (R := []) (i := 0) (by simpa using hLx.rm) rfl hLx.len hLx.wm
      have HLE2 := Lib.hid hle
      have HLX := Lib.hid hLx
      have HMX := Lib.hid hmx
      have HRX := Lib.hid hrowx
      have HDX := Lib.hid hrdMx
      have HBW := Lib.hid hbx
      clear hLx hmx hrowx hrdMx hK
      gi_wp2_with fail
      refine ⟨trivial, (callsIn_wide.2 (less_any gl i nb C P T R (some ⟨gm, 0, none⟩) nb cm M3 Wx HRX.out HP.out HT.out (Nat.le_refl _) (by omega) HWT.out HDX.out (fun _ b0 off e => by cases e; omega))).mono ?_⟩
      rintro e w8 ⟨T2, s, rfl, hs1, hrow8, hT2, hwT2, hval8, hO8⟩
      have hglw := HGL.out
      have cgb : w8.cell? ⟨gb, 0, none⟩ = some (u64 q) := cells_cell ((hO8.keep gb hlow2 (by omega)).trans HLX.out.bx) rfl
      have HROW8 := Lib.hid hrow8
      have HV8 := Lib.hid hval8
      have HO8 := Lib.hid hO8
      have HW8 := Lib.hid hwT2
      clear hrow8 hval8 hO8 hwT2 c1 c01
      gi_wp2
      refine marks_leave (n0 := gb + 1) (hi := Wx.heap.size) (HMX.out.keep (Nat.le_refl _) (fun k h3 h4 => HO8.out.keep k h4 (by omega))) (fun W' hb => ?_)
      obtain ⟨f1, f2⟩ := limb_end HV8.out hs1 HLX.out.vm HLE2.out HQ.out h0 HT.out HW8.out hT2
      refine ⟨_, results_tmp rfl _ _ _, T2, M3, q, rfl, HLX.out.qlt, HROW8.out.below hb (by omega), hT2, HW8.out, f1, f2, (HO8.out.row HLX.out.rm (by omega)).below hb (by omega), HLX.out.len, HLX.out.wm, ?_⟩
      exact ⟨HLX.out.only.below.trans (HO8.out.below.trans (hb.mono (Nat.zero_le _))), fun k hk h3 h4 => (hb.block k (by omega)).trans ((HO8.out.keep k (Nat.lt_of_lt_of_le hk HLX.out.only.below.size) h4).trans (HLX.out.only.keep k hk h3))⟩
    case stop =>
      rintro D c pre Wx hD ⟨k, hk, hpl⟩ ⟨hs, pre', x, rfl, h1, h2⟩ hK
      rcases h2 with ⟨rfl, h3, h4, M4, h5⟩ | ⟨rfl, h3, h4⟩
      · have hgt := val_gt HLE.out.wm HWT.out (by rw [HLE.out.len, HT.out]) (j := x.1.1) (by rw [HT.out]; exact x.2.1) (by rw [HT.out]; exact seen_above hpl h1) (by rw [← x.2.2]; exact h3)
        rw [HLE.out.vm] at hgt
        have hq1 : val T / val b < q := by rw [Nat.div_lt_iff_lt_mul h0]; exact hgt
        have hq0 : 0 < q := Nat.lt_of_le_of_lt (Nat.zero_le _) hq1
        have cW := cells_cell (j := 0) HL.out.bx rfl
        have cX := cells_cell (j := 0) h5.bx rfl
        have H5 := Lib.hid h5
        have H4 := Lib.hid h4
        have HKK := Lib.hid hK
        clear h5 h4 hK hpl h1 h3 hgt
        gi_wp2
        refine ⟨⟨q - 1, M4, _, _, _, { target := .collected D, args := #[] } :: ds, H5.out, fun _ => by omega, ⟨D, rfl, by omega, (Array.getElem?_eq_some_iff.1 HKK.out).1, HKK.out, H4.out.keep (hi' := D) hD (fun k _ hk => rfl)⟩, rfl⟩, ?_⟩
        simp [cW, cX, intOf]
        omega
      · have hgt := val_gt HWT.out HLE.out.wm (by rw [HLE.out.len, HT.out]) (j := x.1.1) (by rw [HLE.out.len]; exact x.2.1) (by rw [HLE.out.len]; exact fun j h5 h6 => (seen_above hpl h1 j h5 h6).symm) (by rw [← x.2.2]; exact h3)
        have hle : val M3 ≤ val T := Nat.le_of_lt hgt
        clear hgt hpl h1 h3
        have hLx := HLE.out.below hw hgmw (n0 := WE.heap.size) (by omega) h4
        have hlow2 := hLx.low
        have hmx : Marks (gb + 1) Wx.heap.size ({ target := .collected D, args := #[] } :: ds) Wx := ⟨D, rfl, by omega, (Array.getElem?_eq_some_iff.1 hK).1, hK, HME.out.keep (hi' := D) hD (fun k _ hk => h4.block k hk)⟩
        have c1 : Wx.cell? ⟨w.heap.size + 1, 0, none⟩ = some (.slice (some ⟨gl, i, none⟩) nb C) := cells_cell hLx.x1 rfl
        have c01 : Wx.cell? ⟨w.heap.size, 1, none⟩ = some (.slice (some ⟨gm, 0, none⟩) nb cm) := cells_cell hLx.x0 rfl
        have hrowx := hLx.only.row HROW.out (by omega)
        have hrdMx : Rd Wx (some ⟨gm, 0, none⟩) nb M3 := RowL.mid (P := []) (T := M3) (R := []) (i := 0) (by simpa using hLx.rm) rfl hLx.len hLx.wm
        have HLE2 := Lib.hid hle
        have HLX := Lib.hid hLx
        have HMX := Lib.hid hmx
        have HRX := Lib.hid hrowx
        have HDX := Lib.hid hrdMx
        have HBW := Lib.hid h4
        clear hLx hmx hrowx hrdMx hK
        gi_wp2_with fail
        refine ⟨trivial, (callsIn_wide.2 (less_any gl i nb C P T R (some ⟨gm, 0, none⟩) nb cm M3 Wx HRX.out HP.out HT.out (Nat.le_refl _) (by omega) HWT.out HDX.out (fun _ b0 off e => by cases e; omega))).mono ?_⟩
        rintro e w8 ⟨T2, s, rfl, hs1, hrow8, hT2, hwT2, hval8, hO8⟩
        have hglw := HGL.out
        have cgb : w8.cell? ⟨gb, 0, none⟩ = some (u64 q) := cells_cell ((hO8.keep gb hlow2 (by omega)).trans HLX.out.bx) rfl
        have HROW8 := Lib.hid hrow8
        have HV8 := Lib.hid hval8
        have HO8 := Lib.hid hO8
        have HW8 := Lib.hid hwT2
        clear hrow8 hval8 hO8 hwT2 c1 c01
        gi_wp2
        refine marks_leave (n0 := gb + 1) (hi := Wx.heap.size) (HMX.out.keep (Nat.le_refl _) (fun k h3 h4 => HO8.out.keep k h4 (by omega))) (fun W' hb => ?_)
        obtain ⟨f1, f2⟩ := limb_end HV8.out hs1 HLX.out.vm HLE2.out HQ.out h0 HT.out HW8.out hT2
        refine ⟨_, results_tmp rfl _ _ _, T2, M3, q, rfl, HLX.out.qlt, HROW8.out.below hb (by omega), hT2, HW8.out, f1, f2, (HO8.out.row HLX.out.rm (by omega)).below hb (by omega), HLX.out.len, HLX.out.wm, ?_⟩
        exact ⟨HLX.out.only.below.trans (HO8.out.below.trans (hb.mono (Nat.zero_le _))), fun k hk h3 h4 => (hb.block k (by omega)).trans ((HO8.out.keep k (Nat.lt_of_lt_of_le hk HLX.out.only.below.size) h4).trans (HLX.out.only.keep k hk h3))⟩
end Go.Proofs.YtgiokmfdafmaoaaGreat
