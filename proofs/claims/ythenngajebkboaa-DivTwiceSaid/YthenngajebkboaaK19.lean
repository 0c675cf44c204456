import Derived.Laws.Bits64b
import Derived.Test.YthenngajebkboaaK18
/- Texts of one proof, one behind another: Dv DvA Back DLow. -/
/- bits.Div64: two words by one. -/
namespace Go.Proofs.Ythenngajebkboaa
set_option linter.unusedVariables false
set_option linter.unusedSimpArgs false
/-- One digit's guess, counted down. -/
structure Gs (u y yn1 yn0 d b q r : Nat) : Prop where
  sum : q * yn1 + r = u
  ge : (u * b + d) / y ≤ q
  le : q ≤ b + 1
  lt : r < b
theorem gs_start {u y yn1 yn0 d b : Nat} (hy : yn1 * b + yn0 = y) (hn : b ≤ 2 * yn1) (h0 : yn0 < b) (hu : u < y) (hd : d < b) (h1 : yn1 < b) : Gs u y yn1 yn0 d b (u / yn1) (u % yn1) := by
  have hb : 0 < yn1 := by omega
  have hyp : 0 < y := by omega
  refine ⟨by rw [Nat.mul_comm]; exact Nat.div_add_mod u yn1, ?_, ?_, Nat.lt_trans (Nat.mod_lt _ hb) h1⟩
  · rw [Nat.le_div_iff_mul_le hb]
    have e := Nat.div_mul_le_self (u * b + d) y
    generalize (u * b + d) / y = q at *
    -- q * yn1 * b ≤ q * y ≤ u * b + d < (u + 1) * b
    have e2 : q * yn1 * b ≤ q * y := by
      rw [← hy, Nat.mul_add, Nat.mul_assoc]; omega
    have e3 : q * yn1 * b < (u + 1) * b := by rw [Nat.add_mul]; omega
    have := Nat.lt_of_mul_lt_mul_right e3
    omega
  · have e : u / yn1 < b + 2 := by
      rw [Nat.div_lt_iff_lt_mul hb, Nat.add_mul, Nat.mul_comm b yn1]; omega
    omega
theorem gs_done {u y yn1 yn0 d b q r : Nat} (hy : yn1 * b + yn0 = y) (hyp : 0 < y) (h : Gs u y yn1 yn0 d b q r) (h2 : q * yn0 ≤ b * r + d) : q = (u * b + d) / y := by
  have e : q ≤ (u * b + d) / y := by
    rw [Nat.le_div_iff_mul_le hyp, ← hy, ← h.sum, Nat.mul_add, Nat.add_mul, Nat.mul_assoc, Nat.mul_comm r b]
    omega
  have := h.ge
  omega
theorem gs_more {u y yn1 yn0 d b q r : Nat} (hy : yn1 * b + yn0 = y) (hyp : 0 < y) (hu : u < y) (hd : d < b) (h : Gs u y yn1 yn0 d b q r) (h2 : b ≤ q ∨ b * r + d < q * yn0) : (u * b + d) / y < q := by
  rw [Nat.div_lt_iff_lt_mul hyp]
  rcases h2 with h2 | h2
  · have e1 : b * y ≤ q * y := Nat.mul_le_mul_right _ h2
    have e2 : (u + 1) * b ≤ y * b := Nat.mul_le_mul_right _ hu
    rw [Nat.add_mul, Nat.mul_comm y b] at e2
    omega
  · rw [← hy, ← h.sum, Nat.mul_add, Nat.add_mul, Nat.mul_assoc, Nat.mul_comm r b]
    omega
theorem gs_next {u y yn1 yn0 d b q r : Nat} (h : Gs u y yn1 yn0 d b q r) (h2 : (u * b + d) / y < q) (h3 : r + yn1 < b) : Gs u y yn1 yn0 d b (q - 1) (r + yn1) := by
  obtain ⟨k, rfl⟩ : ∃ k, q = k + 1 := Nat.exists_eq_succ_of_ne_zero (by rintro rfl; exact Nat.not_lt_zero _ h2)
  have e := h.sum
  rw [Nat.add_mul] at e
  have hl := h.le
  have hle := Nat.le_of_lt_succ h2
  clear h h2
  refine ⟨?_, hle, ?_, h3⟩
  · simp only [Nat.add_sub_cancel]
    omega
  · simp only [Nat.add_sub_cancel]
    omega
theorem gs_break {u y yn1 yn0 d b q r : Nat} (hy : yn1 * b + yn0 = y) (hyp : 0 < y) (h0 : yn0 < b) (h : Gs u y yn1 yn0 d b q r) (h2 : (u * b + d) / y < q) (h3 : b ≤ r + yn1) : q - 1 = (u * b + d) / y := by
  obtain ⟨k, rfl⟩ : ∃ k, q = k + 1 := Nat.exists_eq_succ_of_ne_zero (by rintro rfl; exact Nat.not_lt_zero _ h2)
  have e := h.sum
  rw [Nat.add_mul] at e
  simp only [Nat.add_sub_cancel]
  have hk : k ≤ b := by have := h.le; clear h2; omega
  have e2 : k ≤ (u * b + d) / y := by
    have e3 : k * yn0 ≤ b * (r + yn1) := Nat.mul_le_mul hk (Nat.le_trans (Nat.le_of_lt h0) h3)
    rw [Nat.le_div_iff_mul_le hyp, ← hy, ← e, Nat.mul_add, Nat.add_mul, Nat.add_mul, Nat.mul_assoc]
    rw [Nat.mul_add] at e3
    have e4 : 1 * yn1 * b = b * yn1 := by rw [Nat.one_mul, Nat.mul_comm]
    have e5 : r * b = b * r := Nat.mul_comm _ _
    omega
  exact Nat.le_antisymm e2 (Nat.le_of_lt_succ h2)
/-- Two digits, one behind the other. -/
theorem two_digits {u y d1 d0 b : Nat} (hyp : 0 < y) : ((u * b + d1) / y) * b + (((u * b + d1) % y) * b + d0) / y = ((u * b + d1) * b + d0) / y ∧ (((u * b + d1) % y) * b + d0) % y = ((u * b + d1) * b + d0) % y := by
  have e := Nat.div_add_mod (u * b + d1) y
  generalize u * b + d1 = n at *
  have e2 : n * b + d0 = (n % y * b + d0) + y * (n / y * b) := by
    conv => lhs; rw [← e, Nat.add_mul, Nat.mul_assoc]
    omega
  rw [e2, Nat.add_mul_div_left _ _ hyp, Nat.add_mul_mod_self_left]
  exact ⟨by omega, rfl⟩
/-- What is divided and what it is divided by, raised alike. -/
theorem raised {n y p : Nat} (hp : 0 < p) : (n * p) / (y * p) = n / y ∧ (n * p) % (y * p) / p = n % y :=
  ⟨Nat.mul_div_mul_right _ _ hp, by rw [Nat.mul_mod_mul_right, Nat.mul_div_cancel _ hp]⟩
end Go.Proofs.Ythenngajebkboaa

/- bits.Div64: the walk. -/
namespace Go.Proofs.Ythenngajebkboaa
open Go.RowKit
set_option linter.unusedVariables false
set_option linter.unusedSimpArgs false

set_option maxRecDepth 100000 in
set_option maxHeartbeats 1000000 in
theorem div64_low (lo y : Nat) (hl : lo < B64) (hy : y < B64) (h0 : 0 < y) (w : World) :
    Calls Try.prog 38 #[.int .u64 0, .int .u64 (lo : Int), .int .u64 (y : Int)] w fun e w' => e = .returned (.tuple #[.int .u64 ((lo / y : Nat) : Int), .int .u64 ((lo % y : Nat) : Int)]) ∧ ∃ k, w' = w.drewN k := by
  have hy0 : ((y : Int) == 0) = false := by simp; omega
  have hle : ¬ ((y : Int) ≤ 0) := by omega
  have hq : IntKind.u64.wrap ((lo : Int) / (y : Int)) = ((lo / y : Nat) : Int) := by
    have h1 := Nat.div_le_self lo y
    rw [B64_eq] at hl
    rw [show (lo : Int) / (y : Int) = ((lo / y : Nat) : Int) by simp, IntKind.wrap_u64]
    generalize lo / y = q at *
    omega
  have HQ := Lib.hid hq
  rw [B64_eq] at hl hy
  clear hq
  go_enter Try.func38, Try.ntmps38
  go_wp2
  go_region
  go_wp2
  go_ret2
  refine ⟨?_, 1, rfl⟩
  rw [← HQ.out, ← Int.natCast_emod lo y]
  rfl

/-- What a round reckons. -/
theorem dv_words {q yn0 r d : Nat} (hq : q ≤ 4294967296 + 1) (h0 : yn0 < 4294967296) (hr : r < 4294967296) (hd : d < 4294967296) :
    IntKind.u64.wrap ((q : Int) * (yn0 : Int)) = ((q * yn0 : Nat) : Int) ∧ IntKind.u64.wrap (4294967296 * (r : Int)) = ((4294967296 * r : Nat) : Int) ∧ IntKind.u64.wrap (((4294967296 * r : Nat) : Int) + (d : Int)) = ((4294967296 * r + d : Nat) : Int) := by
  have h : q * yn0 ≤ (4294967296 + 1) * 4294967295 := Nat.mul_le_mul hq (by omega)
  refine ⟨?_, ?_, ?_⟩
  · rw [← Int.natCast_mul, IntKind.wrap_u64]
    generalize q * yn0 = A at *
    omega
  · rw [IntKind.wrap_u64]; omega
  · rw [IntKind.wrap_u64]; omega
theorem dv_start {u yn1 : Nat} (hu : u < B64) (h : 0 < yn1) : IntKind.u64.wrap ((u : Int) / (yn1 : Int)) = ((u / yn1 : Nat) : Int) ∧ IntKind.u64.wrap ((u : Int) - IntKind.u64.wrap (((u / yn1 : Nat) : Int) * (yn1 : Int))) = ((u % yn1 : Nat) : Int) := by
  have h1 := Nat.div_le_self u yn1
  have h2 := Nat.div_add_mod u yn1
  have h3 := Nat.mod_lt u h
  rw [B64_eq] at hu
  rw [← Int.natCast_ediv, ← Int.natCast_mul, Nat.mul_comm (u / yn1)]
  generalize yn1 * (u / yn1) = p at *
  generalize u / yn1 = q at *
  generalize u % yn1 = m at *
  rw [IntKind.wrap_u64, IntKind.wrap_u64, IntKind.wrap_u64]
  omega
theorem dv_rest {n d q y : Nat} (hy : 0 < y) (hy2 : y < B64) (hq : q = (n * 4294967296 + d) / y) : IntKind.u64.wrap (IntKind.u64.wrap (IntKind.u64.wrap ((n : Int) * 4294967296) + (d : Int)) - IntKind.u64.wrap ((q : Int) * (y : Int))) = (((n * 4294967296 + d) % y : Nat) : Int) := by
  generalize hb : 4294967296 = b at *
  have e : ((4294967296 : Int)) = (b : Int) := by rw [← hb]; rfl
  rw [e]
  have h2 := Nat.div_add_mod (n * b + d) y
  have h3 := Nat.mod_lt (n * b + d) hy
  rw [← hq] at h2
  rw [B64_eq] at hy2
  rw [← Int.natCast_mul, ← Int.natCast_mul, Nat.mul_comm q]
  generalize y * q = p at *
  generalize (n * b + d) % y = m at *
  generalize n * b = k at *
  simp only [IntKind.wrap_u64]
  omega

theorem dv_small {u Y d : Nat} (hu : u < Y) (hd : d < 4294967296) : (u * 4294967296 + d) / Y < 4294967296 := by
  rw [Nat.div_lt_iff_lt_mul (by omega)]
  have := Nat.mul_le_mul_right 4294967296 (show u + 1 ≤ Y from hu)
  omega
theorem int_le_true {a b : Nat} (h : a ≤ b) : decide ((a : Int) ≤ (b : Int)) = true := by simp; omega
theorem dv_dec {q : Nat} (h : 4294967296 ≤ q) : decide ((4294967296 : Int) ≤ (q : Int)) = true := by simp; omega
theorem dv_decn {q : Nat} (h : q < 4294967296) : decide ((4294967296 : Int) ≤ (q : Int)) = false := by simp; omega
theorem dv_less {a b : Nat} (h : a < b) : decide ((a : Int) < (b : Int)) = true := by simp; omega
theorem dv_lessn {a b : Nat} (h : b ≤ a) : decide ((a : Int) < (b : Int)) = false := by simp; omega
theorem dv_dec1 {q : Nat} (h : q < B64) (h0 : 0 < q) : IntKind.u64.wrap ((q : Int) - 1) = ((q - 1 : Nat) : Int) := by rw [IntKind.wrap_u64]; rw [B64_eq] at h; omega
theorem dv_add {x y : Nat} (h : x + y < B64) : IntKind.u64.wrap ((x : Int) + (y : Int)) = ((x + y : Nat) : Int) := by rw [IntKind.wrap_u64]; rw [B64_eq] at h; omega

set_option maxRecDepth 100000 in
set_option maxHeartbeats 1000000 in
theorem div64_high (hi lo y s Y yn1 yn0 u L d1 d0 : Nat) (hl : lo < B64) (hy : y < B64) (hh : hi < y) (h0 : 0 < hi) (hs : s ≤ 63) 
   (hY : IntKind.u64.wrap ((y : Int) * 2 ^ s) = (Y : Int)) (h1 : (Y : Int) / 4294967296 = (yn1 : Int)) (h2 : bits .and .u64 (Y : Int) 4294967295 = (yn0 : Int))
   (hU : bits .or .u64 (IntKind.u64.wrap ((hi : Int) * 2 ^ s)) ((lo : Int) / 2 ^ (64 - s)) = (u : Int)) (hL : IntKind.u64.wrap ((lo : Int) * 2 ^ s) = (L : Int)) (h3 : (L : Int) / 4294967296 = (d1 : Int)) (h4 : bits .and .u64 (L : Int) 4294967295 = (d0 : Int))
   (hYn : yn1 * 4294967296 + yn0 = Y) (hb1 : 4294967296 ≤ 2 * yn1) (hyn0 : yn0 < 4294967296) (hyn1 : yn1 < 4294967296) (hu : u < Y) (hd1 : d1 < 4294967296) (hd0 : d0 < 4294967296)
   (RQ RR : Nat) (hRQ : Hid (RQ = ((u * 4294967296 + d1) / Y) * 4294967296 + (((u * 4294967296 + d1) % Y) * 4294967296 + d0) / Y)) (hRR : Hid (RR = (((u * 4294967296 + d1) % Y) * 4294967296 + d0) % Y / 2 ^ s))
   (w : World)
   (hlz : Calls Try.prog 41 #[.int .u64 (y : Int)] w fun e w' => e = .returned (.int .i64 (s : Int)) ∧ w' = w) :
    Calls Try.prog 38 #[.int .u64 (hi : Int), .int .u64 (lo : Int), .int .u64 (y : Int)] w fun e w' => e = .returned (.tuple #[.int .u64 (RQ : Int), .int .u64 (RR : Int)]) ∧ ∃ k, w' = w.drewN k := by
  have hy0 : ((y : Int) == 0) = false := by simp; omega
  have hh0 : ((hi : Int) == 0) = false := by simp; omega
  have hle : ¬ ((y : Int) ≤ (hi : Int)) := by omega
  have hn0 : ¬ ((yn1 : Int) = 0) := by omega
  have hYB : Y < B64 := by rw [B64_eq]; omega
  obtain ⟨e1, e2⟩ := dv_start (u := u) (yn1 := yn1) (by omega) (by omega)
  have hg := gs_start hYn hb1 hyn0 hu hd1 hyn1
  generalize u / yn1 = q0 at *
  generalize u % yn1 = r0 at *
  have HG := Lib.hid hg
  have HYN := Lib.hid hYn
  have HB1 := Lib.hid hb1
  rw [B64_eq] at hl hy
  clear hg hYn hb1
  go_enter Try.func38, Try.ntmps38
  go_wp2_with fail
  refine hlz.mono ?_
  rintro e w' ⟨rfl, rfl⟩
  go_wp2
  clear e1 e2 hY h1 h2 hU hL h3 h4 hy0 hh0 hle hl hy hh h0
  go_loop [15, 16] (fun vq vr => ∃ q r : Nat, vq = .int .u64 (q : Int) ∧ vr = .int .u64 (r : Int) ∧ Gs u Y yn1 yn0 d1 4294967296 q r) (fun vq _ => (intOf vq).toNat)
  case atStart => exact ⟨q0, r0, rfl, rfl, HG.out⟩
  case round =>
    obtain ⟨q, r, rfl, rfl, hg⟩ := hrel
    obtain ⟨w1, w2, w3⟩ := dv_words hg.le hyn0 hg.lt hd1
    have hqr : q ≤ 4294967297 ∧ r < 4294967296 := ⟨hg.le, hg.lt⟩
    have t3 := dv_add (x := r) (y := yn1) (by rw [B64_eq]; omega)
    by_cases hbq : 4294967296 ≤ q
    · have t1 := dv_dec hbq
      have hm := gs_more HYN.out (by omega) hu hd1 hg (.inl hbq)
      have hq0 : 0 < q := Nat.lt_of_le_of_lt (Nat.zero_le _) hm
      have t2 := dv_dec1 (q := q) (by rw [B64_eq]; omega) hq0
      by_cases hbr : 4294967296 ≤ r + yn1
      · have hx := gs_break HYN.out (by omega) hyn0 hg hm hbr
        have t4 := dv_dec hbr
        generalize hk : q - 1 = k at *
        generalize hr2 : r + yn1 = r2 at *
        have HX := Lib.hid hx
        clear hx hm hg hk hr2 hqr hbr hbq hq0 w1 w2 w3
        have e3 := dv_rest (n := u) (d := d1) (by omega) hYB HX.out
        have hU1 : (u * 4294967296 + d1) % Y < Y := Nat.mod_lt _ (by omega)
        have hQ1 : k < 4294967296 := by rw [HX.out]; exact dv_small hu hd1
        have hq := hRQ.out
        have hr := hRR.out
        rw [← HX.out] at hq
        obtain ⟨e1, e2⟩ := dv_start (u := (u * 4294967296 + d1) % Y) (yn1 := yn1) (by omega) (by omega)
        have hg2 := gs_start HYN.out HB1.out hyn0 hU1 hd0 hyn1
        obtain ⟨U1, hu1⟩ : ∃ x, (u * 4294967296 + d1) % Y = x := ⟨_, rfl⟩
        rw [hu1] at e1 e2 e3 hg2 hq hr hU1
        obtain ⟨q1, hq1⟩ : ∃ x, U1 / yn1 = x := ⟨_, rfl⟩
        obtain ⟨r1, hr1⟩ : ∃ x, U1 % yn1 = x := ⟨_, rfl⟩
        rw [hq1] at e1 e2 hg2
        rw [hr1] at e2 hg2
        clear hu1 hq1 hr1
        have HG2 := Lib.hid hg2
        have HRQ := Lib.hid hq
        have HRR := Lib.hid hr
        clear hg2 HX hq hr hRQ hRR
        generalize k = Q1 at *
        have HU1L := Lib.hid hU1
        have HQ1 := Lib.hid hQ1
        clear hQ1 hU1
        go_wp2
        clear e1 e2 e3
        go_loop [18, 16] (fun vq vr => ∃ q r : Nat, vq = .int .u64 (q : Int) ∧ vr = .int .u64 (r : Int) ∧ Gs U1 Y yn1 yn0 d0 4294967296 q r) (fun vq _ => (intOf vq).toNat)
        case atStart => exact ⟨q1, r1, rfl, rfl, HG2.out⟩
        case round =>
          have hU1 := HU1L.out
          obtain ⟨q, r, rfl, rfl, hg⟩ := hrel
          obtain ⟨w1, w2, w3⟩ := dv_words hg.le hyn0 hg.lt hd0
          have hqr : q ≤ 4294967297 ∧ r < 4294967296 := ⟨hg.le, hg.lt⟩
          have t3 := dv_add (x := r) (y := yn1) (by rw [B64_eq]; omega)
          by_cases hbq : 4294967296 ≤ q
          · have t1 := dv_dec hbq
            have hm := gs_more HYN.out (by omega) hU1 hd0 hg (.inl hbq)
            have hq0 : 0 < q := Nat.lt_of_le_of_lt (Nat.zero_le _) hm
            have t2 := dv_dec1 (q := q) (by rw [B64_eq]; omega) hq0
            by_cases hbr : 4294967296 ≤ r + yn1
            · have hx := gs_break HYN.out (by omega) hyn0 hg hm hbr
              have t4 := dv_dec hbr
              generalize hk : q - 1 = k at *
              generalize hr2 : r + yn1 = r2 at *
              have HX := Lib.hid hx
              clear hx hm hg hk hr2 hqr hbr hbq hq0 w1 w2 w3
              have hx0 : k < 4294967296 := by rw [HX.out]; exact dv_small HU1L.out hd0
              have e5 := dv_rest (n := U1) (d := d0) (by omega) hYB HX.out
              have e6 : RQ = Q1 * 4294967296 + k := by rw [HRQ.out, HX.out]
              have e7 := HRR.out
              have e8 : IntKind.u64.wrap (IntKind.u64.wrap ((Q1 : Int) * 4294967296) + (k : Int)) = (RQ : Int) := by rw [e6, IntKind.wrap_u64, IntKind.wrap_u64]; have := HQ1.out; omega
              obtain ⟨R0, hR0⟩ : ∃ x, (U1 * 4294967296 + d0) % Y = x := ⟨_, rfl⟩
              rw [hR0] at e5 e7
              have e9 : (R0 : Int) / 2 ^ s = (RR : Int) := by rw [e7]; simp
              clear e6 e7 HX HRQ HRR hR0 hx0
              go_wp2
              go_ret2
              exact ⟨rfl, 0, rfl⟩
            · have hx := gs_next hg hm (by omega)
              have t4 := dv_decn (q := r + yn1) (by omega)
              have hgt : q - 1 < q := by omega
              generalize hk : q - 1 = k at *
              generalize hr2 : r + yn1 = r2 at *
              have HX := Lib.hid hx
              clear hx hm hg hk hr2 hqr hbr hbq hq0 w1 w2 w3
              go_wp2
              go_round
              case rel => exact ⟨k, r2, rfl, rfl, HX.out⟩
              case measure => simp [intOf]; omega
          · have t1 := dv_decn (q := q) (by omega)
            by_cases hpr : 4294967296 * r + d0 < q * yn0
            · have t5 := dv_less hpr
              generalize hA : 4294967296 * r = A at *
              generalize hB : A + d0 = B at *
              generalize hC : q * yn0 = C at *
              have hm := gs_more HYN.out (by omega) hU1 hd0 hg (.inr (by rw [hA, hB, hC]; exact hpr))
              have hq0 : 0 < q := Nat.lt_of_le_of_lt (Nat.zero_le _) hm
              have t2 := dv_dec1 (q := q) (by rw [B64_eq]; omega) hq0
              by_cases hbr : 4294967296 ≤ r + yn1
              · have hx := gs_break HYN.out (by omega) hyn0 hg hm hbr
                have t4 := dv_dec hbr
                generalize hk : q - 1 = k at *
                generalize hr2 : r + yn1 = r2 at *
                have HX := Lib.hid hx
                clear hx hm hg hk hr2 hqr hbr hbq hq0 hA hB hC
                have hx0 : k < 4294967296 := by rw [HX.out]; exact dv_small HU1L.out hd0
                have e5 := dv_rest (n := U1) (d := d0) (by omega) hYB HX.out
                have e6 : RQ = Q1 * 4294967296 + k := by rw [HRQ.out, HX.out]
                have e7 := HRR.out
                have e8 : IntKind.u64.wrap (IntKind.u64.wrap ((Q1 : Int) * 4294967296) + (k : Int)) = (RQ : Int) := by rw [e6, IntKind.wrap_u64, IntKind.wrap_u64]; have := HQ1.out; omega
                obtain ⟨R0, hR0⟩ : ∃ x, (U1 * 4294967296 + d0) % Y = x := ⟨_, rfl⟩
                rw [hR0] at e5 e7
                have e9 : (R0 : Int) / 2 ^ s = (RR : Int) := by rw [e7]; simp
                clear e6 e7 HX HRQ HRR hR0 hx0
                go_wp2
                go_ret2
                exact ⟨rfl, 0, rfl⟩
              · have hx := gs_next hg hm (by omega)
                have t4 := dv_decn (q := r + yn1) (by omega)
                have hgt : q - 1 < q := by omega
                generalize hk : q - 1 = k at *
                generalize hr2 : r + yn1 = r2 at *
                have HX := Lib.hid hx
                clear hx hm hg hk hr2 hqr hbr hbq hq0 hA hB hC
                go_wp2
                go_round
                case rel => exact ⟨k, r2, rfl, rfl, HX.out⟩
                case measure => simp [intOf]; omega
            · have t5 := dv_lessn (a := 4294967296 * r + d0) (b := q * yn0) (by omega)
              have hx := gs_done HYN.out (by omega) hg (by omega)
              generalize hA : 4294967296 * r = A at *
              generalize hB : A + d0 = B at *
              generalize hC : q * yn0 = C at *
              have HX := Lib.hid hx
              clear hx hA hB hC hg hqr hbq t3
              have hx0 : q < 4294967296 := by rw [HX.out]; exact dv_small HU1L.out hd0
              have e5 := dv_rest (n := U1) (d := d0) (by omega) hYB HX.out
              have e6 : RQ = Q1 * 4294967296 + q := by rw [HRQ.out, HX.out]
              have e7 := HRR.out
              have e8 : IntKind.u64.wrap (IntKind.u64.wrap ((Q1 : Int) * 4294967296) + (q : Int)) = (RQ : Int) := by rw [e6, IntKind.wrap_u64, IntKind.wrap_u64]; have := HQ1.out; omega
              obtain ⟨R0, hR0⟩ : ∃ x, (U1 * 4294967296 + d0) % Y = x := ⟨_, rfl⟩
              rw [hR0] at e5 e7
              have e9 : (R0 : Int) / 2 ^ s = (RR : Int) := by rw [e7]; simp
              clear e6 e7 HX HRQ HRR hR0 hx0
              go_wp2
              go_ret2
              exact ⟨rfl, 0, rfl⟩
      · have hx := gs_next hg hm (by omega)
        have t4 := dv_decn (q := r + yn1) (by omega)
        have hgt : q - 1 < q := by omega
        generalize hk : q - 1 = k at *
        generalize hr2 : r + yn1 = r2 at *
        have HX := Lib.hid hx
        clear hx hm hg hk hr2 hqr hbr hbq hq0 w1 w2 w3
        go_wp2
        go_round
        case rel => exact ⟨k, r2, rfl, rfl, HX.out⟩
        case measure => simp [intOf]; omega
    · have t1 := dv_decn (q := q) (by omega)
      by_cases hpr : 4294967296 * r + d1 < q * yn0
      · have t5 := dv_less hpr
        generalize hA : 4294967296 * r = A at *
        generalize hB : A + d1 = B at *
        generalize hC : q * yn0 = C at *
        have hm := gs_more HYN.out (by omega) hu hd1 hg (.inr (by rw [hA, hB, hC]; exact hpr))
        have hq0 : 0 < q := Nat.lt_of_le_of_lt (Nat.zero_le _) hm
        have t2 := dv_dec1 (q := q) (by rw [B64_eq]; omega) hq0
        by_cases hbr : 4294967296 ≤ r + yn1
        · have hx := gs_break HYN.out (by omega) hyn0 hg hm hbr
          have t4 := dv_dec hbr
          generalize hk : q - 1 = k at *
          generalize hr2 : r + yn1 = r2 at *
          have HX := Lib.hid hx
          clear hx hm hg hk hr2 hqr hbr hbq hq0 hA hB hC
          have e3 := dv_rest (n := u) (d := d1) (by omega) hYB HX.out
          have hU1 : (u * 4294967296 + d1) % Y < Y := Nat.mod_lt _ (by omega)
          have hQ1 : k < 4294967296 := by rw [HX.out]; exact dv_small hu hd1
          have hq := hRQ.out
          have hr := hRR.out
          rw [← HX.out] at hq
          obtain ⟨e1, e2⟩ := dv_start (u := (u * 4294967296 + d1) % Y) (yn1 := yn1) (by omega) (by omega)
          have hg2 := gs_start HYN.out HB1.out hyn0 hU1 hd0 hyn1
          obtain ⟨U1, hu1⟩ : ∃ x, (u * 4294967296 + d1) % Y = x := ⟨_, rfl⟩
          rw [hu1] at e1 e2 e3 hg2 hq hr hU1
          obtain ⟨q1, hq1⟩ : ∃ x, U1 / yn1 = x := ⟨_, rfl⟩
          obtain ⟨r1, hr1⟩ : ∃ x, U1 % yn1 = x := ⟨_, rfl⟩
          rw [hq1] at e1 e2 hg2
          rw [hr1] at e2 hg2
          clear hu1 hq1 hr1
          have HG2 := Lib.hid hg2
          have HRQ := Lib.hid hq
          have HRR := Lib.hid hr
          clear hg2 HX hq hr hRQ hRR
          generalize k = Q1 at *
          have HU1L := Lib.hid hU1
          have HQ1 := Lib.hid hQ1
          clear hQ1 hU1
          go_wp2
          clear e1 e2 e3
          go_loop [18, 16] (fun vq vr => ∃ q r : Nat, vq = .int .u64 (q : Int) ∧ vr = .int .u64 (r : Int) ∧ Gs U1 Y yn1 yn0 d0 4294967296 q r) (fun vq _ => (intOf vq).toNat)
          case atStart => exact ⟨q1, r1, rfl, rfl, HG2.out⟩
          case round =>
            have hU1 := HU1L.out
            obtain ⟨q, r, rfl, rfl, hg⟩ := hrel
            obtain ⟨w1, w2, w3⟩ := dv_words hg.le hyn0 hg.lt hd0
            have hqr : q ≤ 4294967297 ∧ r < 4294967296 := ⟨hg.le, hg.lt⟩
            have t3 := dv_add (x := r) (y := yn1) (by rw [B64_eq]; omega)
            by_cases hbq : 4294967296 ≤ q
            · have t1 := dv_dec hbq
              have hm := gs_more HYN.out (by omega) hU1 hd0 hg (.inl hbq)
              have hq0 : 0 < q := Nat.lt_of_le_of_lt (Nat.zero_le _) hm
              have t2 := dv_dec1 (q := q) (by rw [B64_eq]; omega) hq0
              by_cases hbr : 4294967296 ≤ r + yn1
              · have hx := gs_break HYN.out (by omega) hyn0 hg hm hbr
                have t4 := dv_dec hbr
                generalize hk : q - 1 = k at *
                generalize hr2 : r + yn1 = r2 at *
                have HX := Lib.hid hx
                clear hx hm hg hk hr2 hqr hbr hbq hq0 w1 w2 w3
                have hx0 : k < 4294967296 := by rw [HX.out]; exact dv_small HU1L.out hd0
                have e5 := dv_rest (n := U1) (d := d0) (by omega) hYB HX.out
                have e6 : RQ = Q1 * 4294967296 + k := by rw [HRQ.out, HX.out]
                have e7 := HRR.out
                have e8 : IntKind.u64.wrap (IntKind.u64.wrap ((Q1 : Int) * 4294967296) + (k : Int)) = (RQ : Int) := by rw [e6, IntKind.wrap_u64, IntKind.wrap_u64]; have := HQ1.out; omega
                obtain ⟨R0, hR0⟩ : ∃ x, (U1 * 4294967296 + d0) % Y = x := ⟨_, rfl⟩
                rw [hR0] at e5 e7
                have e9 : (R0 : Int) / 2 ^ s = (RR : Int) := by rw [e7]; simp
                clear e6 e7 HX HRQ HRR hR0 hx0
                go_wp2
                go_ret2
                exact ⟨rfl, 0, rfl⟩
              · have hx := gs_next hg hm (by omega)
                have t4 := dv_decn (q := r + yn1) (by omega)
                have hgt : q - 1 < q := by omega
                generalize hk : q - 1 = k at *
                generalize hr2 : r + yn1 = r2 at *
                have HX := Lib.hid hx
                clear hx hm hg hk hr2 hqr hbr hbq hq0 w1 w2 w3
                go_wp2
                go_round
                case rel => exact ⟨k, r2, rfl, rfl, HX.out⟩
                case measure => simp [intOf]; omega
            · have t1 := dv_decn (q := q) (by omega)
              by_cases hpr : 4294967296 * r + d0 < q * yn0
              · have t5 := dv_less hpr
                generalize hA : 4294967296 * r = A at *
                generalize hB : A + d0 = B at *
                generalize hC : q * yn0 = C at *
                have hm := gs_more HYN.out (by omega) hU1 hd0 hg (.inr (by rw [hA, hB, hC]; exact hpr))
                have hq0 : 0 < q := Nat.lt_of_le_of_lt (Nat.zero_le _) hm
                have t2 := dv_dec1 (q := q) (by rw [B64_eq]; omega) hq0
                by_cases hbr : 4294967296 ≤ r + yn1
                · have hx := gs_break HYN.out (by omega) hyn0 hg hm hbr
                  have t4 := dv_dec hbr
                  generalize hk : q - 1 = k at *
                  generalize hr2 : r + yn1 = r2 at *
                  have HX := Lib.hid hx
                  clear hx hm hg hk hr2 hqr hbr hbq hq0 hA hB hC
                  have hx0 : k < 4294967296 := by rw [HX.out]; exact dv_small HU1L.out hd0
                  have e5 := dv_rest (n := U1) (d := d0) (by omega) hYB HX.out
                  have e6 : RQ = Q1 * 4294967296 + k := by rw [HRQ.out, HX.out]
                  have e7 := HRR.out
                  have e8 : IntKind.u64.wrap (IntKind.u64.wrap ((Q1 : Int) * 4294967296) + (k : Int)) = (RQ : Int) := by rw [e6, IntKind.wrap_u64, IntKind.wrap_u64]; have := HQ1.out; omega
                  obtain ⟨R0, hR0⟩ : ∃ x, (U1 * 4294967296 + d0) % Y = x := ⟨_, rfl⟩
                  rw [hR0] at e5 e7
                  have e9 : (R0 : Int) / 2 ^ s = (RR : Int) := by rw [e7]; simp
                  clear e6 e7 HX HRQ HRR hR0 hx0
                  go_wp2
                  go_ret2
                  exact ⟨rfl, 0, rfl⟩
                · have hx := gs_next hg hm (by omega)
                  have t4 := dv_decn (q := r + yn1) (by omega)
                  have hgt : q - 1 < q := by omega
                  generalize hk : q - 1 = k at *
                  generalize hr2 : r + yn1 = r2 at *
                  have HX := Lib.hid hx
                  clear hx hm hg hk hr2 hqr hbr hbq hq0 hA hB hC
                  go_wp2
                  go_round
                  case rel => exact ⟨k, r2, rfl, rfl, HX.out⟩
                  case measure => simp [intOf]; omega
              · have t5 := dv_lessn (a := 4294967296 * r + d0) (b := q * yn0) (by omega)
                have hx := gs_done HYN.out (by omega) hg (by omega)
                generalize hA : 4294967296 * r = A at *
                generalize hB : A + d0 = B at *
                generalize hC : q * yn0 = C at *
                have HX := Lib.hid hx
                clear hx hA hB hC hg hqr hbq t3
                have hx0 : q < 4294967296 := by rw [HX.out]; exact dv_small HU1L.out hd0
                have e5 := dv_rest (n := U1) (d := d0) (by omega) hYB HX.out
                have e6 : RQ = Q1 * 4294967296 + q := by rw [HRQ.out, HX.out]
                have e7 := HRR.out
                have e8 : IntKind.u64.wrap (IntKind.u64.wrap ((Q1 : Int) * 4294967296) + (q : Int)) = (RQ : Int) := by rw [e6, IntKind.wrap_u64, IntKind.wrap_u64]; have := HQ1.out; omega
                obtain ⟨R0, hR0⟩ : ∃ x, (U1 * 4294967296 + d0) % Y = x := ⟨_, rfl⟩
                rw [hR0] at e5 e7
                have e9 : (R0 : Int) / 2 ^ s = (RR : Int) := by rw [e7]; simp
                clear e6 e7 HX HRQ HRR hR0 hx0
                go_wp2
                go_ret2
                exact ⟨rfl, 0, rfl⟩
        · have hx := gs_next hg hm (by omega)
          have t4 := dv_decn (q := r + yn1) (by omega)
          have hgt : q - 1 < q := by omega
          generalize hk : q - 1 = k at *
          generalize hr2 : r + yn1 = r2 at *
          have HX := Lib.hid hx
          clear hx hm hg hk hr2 hqr hbr hbq hq0 hA hB hC
          go_wp2
          go_round
          case rel => exact ⟨k, r2, rfl, rfl, HX.out⟩
          case measure => simp [intOf]; omega
      · have t5 := dv_lessn (a := 4294967296 * r + d1) (b := q * yn0) (by omega)
        have hx := gs_done HYN.out (by omega) hg (by omega)
        generalize hA : 4294967296 * r = A at *
        generalize hB : A + d1 = B at *
        generalize hC : q * yn0 = C at *
        have HX := Lib.hid hx
        clear hx hA hB hC hg hqr hbq t3
        have e3 := dv_rest (n := u) (d := d1) (by omega) hYB HX.out
        have hU1 : (u * 4294967296 + d1) % Y < Y := Nat.mod_lt _ (by omega)
        have hQ1 : q < 4294967296 := by rw [HX.out]; exact dv_small hu hd1
        have hq := hRQ.out
        have hr := hRR.out
        rw [← HX.out] at hq
        obtain ⟨e1, e2⟩ := dv_start (u := (u * 4294967296 + d1) % Y) (yn1 := yn1) (by omega) (by omega)
        have hg2 := gs_start HYN.out HB1.out hyn0 hU1 hd0 hyn1
        obtain ⟨U1, hu1⟩ : ∃ x, (u * 4294967296 + d1) % Y = x := ⟨_, rfl⟩
        rw [hu1] at e1 e2 e3 hg2 hq hr hU1
        obtain ⟨q1, hq1⟩ : ∃ x, U1 / yn1 = x := ⟨_, rfl⟩
        obtain ⟨r1, hr1⟩ : ∃ x, U1 % yn1 = x := ⟨_, rfl⟩
        rw [hq1] at e1 e2 hg2
        rw [hr1] at e2 hg2
        clear hu1 hq1 hr1
        have HG2 := Lib.hid hg2
        have HRQ := Lib.hid hq
        have HRR := Lib.hid hr
        clear hg2 HX hq hr hRQ hRR
        generalize q = Q1 at *
        have HU1L := Lib.hid hU1
        have HQ1 := Lib.hid hQ1
        clear hQ1 hU1
        go_wp2
        clear e1 e2 e3
        go_loop [18, 16] (fun vq vr => ∃ q r : Nat, vq = .int .u64 (q : Int) ∧ vr = .int .u64 (r : Int) ∧ Gs U1 Y yn1 yn0 d0 4294967296 q r) (fun vq _ => (intOf vq).toNat)
        case atStart => exact ⟨q1, r1, rfl, rfl, HG2.out⟩
        case round =>
          have hU1 := HU1L.out
          obtain ⟨q, r, rfl, rfl, hg⟩ := hrel
          obtain ⟨w1, w2, w3⟩ := dv_words hg.le hyn0 hg.lt hd0
          have hqr : q ≤ 4294967297 ∧ r < 4294967296 := ⟨hg.le, hg.lt⟩
          have t3 := dv_add (x := r) (y := yn1) (by rw [B64_eq]; omega)
          by_cases hbq : 4294967296 ≤ q
          · have t1 := dv_dec hbq
            have hm := gs_more HYN.out (by omega) hU1 hd0 hg (.inl hbq)
            have hq0 : 0 < q := Nat.lt_of_le_of_lt (Nat.zero_le _) hm
            have t2 := dv_dec1 (q := q) (by rw [B64_eq]; omega) hq0
            by_cases hbr : 4294967296 ≤ r + yn1
            · have hx := gs_break HYN.out (by omega) hyn0 hg hm hbr
              have t4 := dv_dec hbr
              generalize hk : q - 1 = k at *
              generalize hr2 : r + yn1 = r2 at *
              have HX := Lib.hid hx
              clear hx hm hg hk hr2 hqr hbr hbq hq0 w1 w2 w3
              have hx0 : k < 4294967296 := by rw [HX.out]; exact dv_small HU1L.out hd0
              have e5 := dv_rest (n := U1) (d := d0) (by omega) hYB HX.out
              have e6 : RQ = Q1 * 4294967296 + k := by rw [HRQ.out, HX.out]
              have e7 := HRR.out
              have e8 : IntKind.u64.wrap (IntKind.u64.wrap ((Q1 : Int) * 4294967296) + (k : Int)) = (RQ : Int) := by rw [e6, IntKind.wrap_u64, IntKind.wrap_u64]; have := HQ1.out; omega
              obtain ⟨R0, hR0⟩ : ∃ x, (U1 * 4294967296 + d0) % Y = x := ⟨_, rfl⟩
              rw [hR0] at e5 e7
              have e9 : (R0 : Int) / 2 ^ s = (RR : Int) := by rw [e7]; simp
              clear e6 e7 HX HRQ HRR hR0 hx0
              go_wp2
              go_ret2
              exact ⟨rfl, 0, rfl⟩
            · have hx := gs_next hg hm (by omega)
              have t4 := dv_decn (q := r + yn1) (by omega)
              have hgt : q - 1 < q := by omega
              generalize hk : q - 1 = k at *
              generalize hr2 : r + yn1 = r2 at *
              have HX := Lib.hid hx
              clear hx hm hg hk hr2 hqr hbr hbq hq0 w1 w2 w3
              go_wp2
              go_round
              case rel => exact ⟨k, r2, rfl, rfl, HX.out⟩
              case measure => simp [intOf]; omega
          · have t1 := dv_decn (q := q) (by omega)
            by_cases hpr : 4294967296 * r + d0 < q * yn0
            · have t5 := dv_less hpr
              generalize hA : 4294967296 * r = A at *
              generalize hB : A + d0 = B at *
              generalize hC : q * yn0 = C at *
              have hm := gs_more HYN.out (by omega) hU1 hd0 hg (.inr (by rw [hA, hB, hC]; exact hpr))
              have hq0 : 0 < q := Nat.lt_of_le_of_lt (Nat.zero_le _) hm
              have t2 := dv_dec1 (q := q) (by rw [B64_eq]; omega) hq0
              by_cases hbr : 4294967296 ≤ r + yn1
              · have hx := gs_break HYN.out (by omega) hyn0 hg hm hbr
                have t4 := dv_dec hbr
                generalize hk : q - 1 = k at *
                generalize hr2 : r + yn1 = r2 at *
                have HX := Lib.hid hx
                clear hx hm hg hk hr2 hqr hbr hbq hq0 hA hB hC
                have hx0 : k < 4294967296 := by rw [HX.out]; exact dv_small HU1L.out hd0
                have e5 := dv_rest (n := U1) (d := d0) (by omega) hYB HX.out
                have e6 : RQ = Q1 * 4294967296 + k := by rw [HRQ.out, HX.out]
                have e7 := HRR.out
                have e8 : IntKind.u64.wrap (IntKind.u64.wrap ((Q1 : Int) * 4294967296) + (k : Int)) = (RQ : Int) := by rw [e6, IntKind.wrap_u64, IntKind.wrap_u64]; have := HQ1.out; omega
                obtain ⟨R0, hR0⟩ : ∃ x, (U1 * 4294967296 + d0) % Y = x := ⟨_, rfl⟩
                rw [hR0] at e5 e7
                have e9 : (R0 : Int) / 2 ^ s = (RR : Int) := by rw [e7]; simp
                clear e6 e7 HX HRQ HRR hR0 hx0
                go_wp2
                go_ret2
                exact ⟨rfl, 0, rfl⟩
              · have hx := gs_next hg hm (by omega)
                have t4 := dv_decn (q := r + yn1) (by omega)
                have hgt : q - 1 < q := by omega
                generalize hk : q - 1 = k at *
                generalize hr2 : r + yn1 = r2 at *
                have HX := Lib.hid hx
                clear hx hm hg hk hr2 hqr hbr hbq hq0 hA hB hC
                go_wp2
                go_round
                case rel => exact ⟨k, r2, rfl, rfl, HX.out⟩
                case measure => simp [intOf]; omega
            · have t5 := dv_lessn (a := 4294967296 * r + d0) (b := q * yn0) (by omega)
              have hx := gs_done HYN.out (by omega) hg (by omega)
              generalize hA : 4294967296 * r = A at *
              generalize hB : A + d0 = B at *
              generalize hC : q * yn0 = C at *
              have HX := Lib.hid hx
              clear hx hA hB hC hg hqr hbq t3
              have hx0 : q < 4294967296 := by rw [HX.out]; exact dv_small HU1L.out hd0
              have e5 := dv_rest (n := U1) (d := d0) (by omega) hYB HX.out
              have e6 : RQ = Q1 * 4294967296 + q := by rw [HRQ.out, HX.out]
              have e7 := HRR.out
              have e8 : IntKind.u64.wrap (IntKind.u64.wrap ((Q1 : Int) * 4294967296) + (q : Int)) = (RQ : Int) := by rw [e6, IntKind.wrap_u64, IntKind.wrap_u64]; have := HQ1.out; omega
              obtain ⟨R0, hR0⟩ : ∃ x, (U1 * 4294967296 + d0) % Y = x := ⟨_, rfl⟩
              rw [hR0] at e5 e7
              have e9 : (R0 : Int) / 2 ^ s = (RR : Int) := by rw [e7]; simp
              clear e6 e7 HX HRQ HRR hR0 hx0
              go_wp2
              go_ret2
              exact ⟨rfl, 0, rfl⟩

/-! ### Both together -/
theorem lead_any (y : Nat) (hy : y < B64) (w : World) :
    Calls Try.prog 41 #[.int .u64 (y : Int)] w fun e w' => e = .returned (.int .i64 ((64 - Lib.bitLen y : Nat) : Int)) ∧ w' = w := by
  have hb : Lib.bitLen y ≤ 64 := Lib.bitLen_le _ 64 (Nat.le_refl _) hy
  have hw : IntKind.i64.wrap (64 - ((Lib.bitLen y : Nat) : Int)) = ((64 - Lib.bitLen y : Nat) : Int) := by
    rw [IntKind.wrap_i64]
    omega
  have hl := len64_any y w (by omega) (by rw [B64_eq] at hy; omega)
  rw [Int.toNat_natCast] at hl
  rw [B64_eq] at hy
  generalize Lib.bitLen y = n at *
  go_enter Try.func41, Try.ntmps41
  go_wp2_with fail
  refine hl.mono ?_
  rintro e w' ⟨rfl, rfl⟩
  go_wp2
  go_ret
  exact ⟨by rw [← hw]; rfl, rfl⟩

theorem halves32 {Y : Nat} (h : 9223372036854775808 ≤ Y) (h2 : Y < 18446744073709551616) : Y / 4294967296 * 4294967296 + Y % 4294967296 = Y ∧ 4294967296 ≤ 2 * (Y / 4294967296) ∧ Y % 4294967296 < 4294967296 ∧ Y / 4294967296 < 4294967296 := by omega
theorem halves32' {Y : Nat} (h2 : Y < 18446744073709551616) : Y / 4294967296 < 4294967296 ∧ Y % 4294967296 < 4294967296 := by omega
theorem mask32 (a : Nat) (ha : a < B64) : bits .and .u64 (a : Int) 4294967295 = ((a % 4294967296 : Nat) : Int) := by
  have h := bits_and_u64_nat a 4294967295 ha (by omega)
  have e : a &&& 4294967295 = a % 4294967296 := Nat.and_two_pow_sub_one_eq_mod a 32
  rw [e] at h
  exact h
theorem half32 (a : Nat) : (a : Int) / 4294967296 = ((a / 4294967296 : Nat) : Int) := by omega
theorem wrap_fits {a : Nat} (ha : a < B64) : IntKind.u64.wrap (a : Int) = (a : Int) := by rw [IntKind.wrap_u64]; rw [B64_eq] at ha; omega

/-- math/bits.Div64. -/
theorem div64_any (hi lo y : Nat) (hl : lo < B64) (hy : y < B64) (hh : hi < y) (w : World) :
    Calls Try.prog 38 #[.int .u64 (hi : Int), .int .u64 (lo : Int), .int .u64 (y : Int)] w fun e w' => e = .returned (.tuple #[.int .u64 (((hi * B64 + lo) / y : Nat) : Int), .int .u64 (((hi * B64 + lo) % y : Nat) : Int)]) ∧ ∃ k, w' = w.drewN k := by
  by_cases h0 : hi = 0
  · subst h0
    rw [Nat.zero_mul, Nat.zero_add]
    exact div64_low lo y hl hy hh w
  · have hy0 : y ≠ 0 := by omega
    obtain ⟨k1, k2, k3⟩ := Lib.bitLenAux_bounds 64 y hy hy0
    have hz := lead_any y hy w
    have hb : Lib.bitLen y ≤ 64 := Lib.bitLen_le _ 64 (Nat.le_refl _) hy
    obtain ⟨s, hs⟩ : ∃ s, 64 - Lib.bitLen y = s := ⟨_, rfl⟩
    have e1 : Lib.bitLenAux 64 y = 64 - s := by
      show Lib.bitLen y = _
      omega
    rw [hs] at hz
    rw [e1] at k1 k2 k3
    have hs63 : s ≤ 63 := by omega
    have hBs := B64_split (r := s) (by omega)
    have hp := Nat.two_pow_pos s
    have hYlt : y * 2 ^ s < B64 := by rw [hBs]; exact Nat.mul_lt_mul_of_pos_right k3 hp
    have hYge : 9223372036854775808 ≤ y * 2 ^ s := by
      have e : 2 ^ (64 - s - 1) * 2 ^ s = 9223372036854775808 := by
        rw [← Nat.pow_add, show 64 - s - 1 + s = 63 by omega]
      rw [← e]
      exact Nat.mul_le_mul_right _ k2
    have hHi : hi * 2 ^ s < y * 2 ^ s := Nat.mul_lt_mul_of_pos_right hh hp
    have hlo : lo / 2 ^ (64 - s) < 2 ^ s := by
      rw [Nat.div_lt_iff_lt_mul (Nat.two_pow_pos _), Nat.mul_comm, ← hBs]
      exact hl
    have hor := or_shl (x := hi) (r := s) (y := lo / 2 ^ (64 - s)) (by omega) hlo
    rw [Nat.mod_eq_of_lt (by omega : hi * 2 ^ s < B64)] at hor
    have hsp := shl_split (x := lo) (r := s) (by omega)
    have hL : lo * 2 ^ s % B64 < B64 := Nat.mod_lt _ B64_pos
    obtain ⟨Y, hY⟩ : ∃ Y, y * 2 ^ s = Y := ⟨_, rfl⟩
    obtain ⟨u, hu⟩ : ∃ u, lo / 2 ^ (64 - s) + hi * 2 ^ s = u := ⟨_, rfl⟩
    obtain ⟨L, hLe⟩ : ∃ L, lo * 2 ^ s % B64 = L := ⟨_, rfl⟩
    rw [hLe] at hsp hL
    have hN : u * B64 + L = (hi * B64 + lo) * 2 ^ s := by
      rw [← hu, Nat.add_mul, Nat.add_mul, ← hsp, Nat.mul_right_comm hi B64 (2 ^ s), Nat.mul_comm (lo / 2 ^ (64 - s)) B64]
      omega
    have huY : u < Y := by
      have a1 : hi * B64 + lo < y * B64 := by
        have := Nat.mul_le_mul_right B64 (show hi + 1 ≤ y from hh)
        rw [Nat.add_mul] at this
        omega
      have a2 := Nat.mul_lt_mul_of_pos_right a1 hp
      rw [← hN, Nat.mul_right_comm, hY] at a2
      exact Nat.lt_of_mul_lt_mul_right (Nat.lt_of_le_of_lt (Nat.le_add_right _ _) a2)
    rw [hY] at hYlt hYge hHi
    have hdd : (u * 4294967296 + L / 4294967296) * 4294967296 + L % 4294967296 = (hi * B64 + lo) * 2 ^ s := by
      rw [← hN, B64_eq]
      omega
    obtain ⟨t1, t2⟩ := two_digits (u := u) (y := Y) (d1 := L / 4294967296) (d0 := L % 4294967296) (b := 4294967296) (by omega)
    obtain ⟨r1, r2⟩ := raised (n := hi * B64 + lo) (y := y) hp
    rw [hdd] at t1 t2
    rw [hY] at r1 r2
    rw [B64_eq] at hL hYlt
    obtain ⟨f1, f2, f3, f4⟩ := halves32 hYge hYlt
    obtain ⟨f5, f6⟩ := halves32' hL
    have f7 := mask32 Y (by rw [B64_eq]; exact hYlt)
    have f8 := mask32 L (by rw [B64_eq]; exact hL)
    have f9 := half32 Y
    have f10 := half32 L
    have f11 : (hi * B64 + lo) / y = (u * 4294967296 + L / 4294967296) / Y * 4294967296 + ((u * 4294967296 + L / 4294967296) % Y * 4294967296 + L % 4294967296) / Y := (t1.trans r1).symm
    have f12 : (hi * B64 + lo) % y = ((u * 4294967296 + L / 4294967296) % Y * 4294967296 + L % 4294967296) % Y / 2 ^ s := by rw [t2, r2]
    clear t1 t2 r1 r2 hdd hN
    generalize (hi * B64 + lo) / y = RQ at *
    generalize (hi * B64 + lo) % y = RR at *
    generalize Y / 4294967296 = yn1 at *
    generalize Y % 4294967296 = yn0 at *
    generalize L / 4294967296 = d1 at *
    generalize L % 4294967296 = d0 at *
    refine (div64_high hi lo y s Y yn1 yn0 u L d1 d0 hl hy hh (by omega) hs63 ?_ f9 f7 ?_ ?_ f10 f8 f1 f2 f3 f4 huY f5 f6 RQ RR f11 f12 w hz)
    · rw [← hY, ← wrap_fits (a := y * 2 ^ s) (by rw [hY, B64_eq]; exact hYlt)]
      simp
    · have e2 : IntKind.u64.wrap ((hi : Int) * 2 ^ s) = ((hi * 2 ^ s : Nat) : Int) := by
        rw [← wrap_fits (a := hi * 2 ^ s) (by rw [B64_eq]; omega)]
        simp
      have e3 : (lo : Int) / 2 ^ (64 - s) = ((lo / 2 ^ (64 - s) : Nat) : Int) := by simp
      rw [e2, e3, bits_or_u64_nat _ _ (by omega) (by have := Nat.div_le_self lo (2 ^ (64 - s)); rw [B64_eq] at hl; omega), Nat.or_comm, hor, hu]
    · rw [← hLe]
      have e4 : (lo : Int) * 2 ^ s = ((lo * 2 ^ s : Nat) : Int) := by simp
      rw [e4, u64_wrap_nat]
end Go.Proofs.Ythenngajebkboaa

/- slices.Backward: what it hands back goes through a slice from its end, whatever a round does that keeps the blocks of S, and what the cells may be. -/
namespace Go.Proofs.Ythenngajebkboaa
open Go.RowKit Go.Shelf
attribute [local go_sem] Oper.semAt_some
set_option linter.unusedVariables false
set_option linter.unusedSimpArgs false

/-- A place of a slice, and what lies there. -/
abbrev BkI (m : Nat) (V : Nat → Nat → Prop) := { p : Nat × Nat // p.1 < m ∧ V p.1 p.2 }
/-- The first k places from the end. -/
def downs (m k : Nat) : List Nat := (List.range k).map fun i => m - 1 - i
theorem downs_succ (m k : Nat) : downs m (k + 1) = downs m k ++ [m - 1 - k] := by simp [downs, List.range_succ]
theorem downs_length (m k : Nat) : (downs m k).length = k := by simp [downs]
def places {m : Nat} {V : Nat → Nat → Prop} (l : List (BkI m V)) : List Nat := l.map fun x => x.1.1
theorem places_snoc {m : Nat} {V : Nat → Nat → Prop} (l : List (BkI m V)) (x : BkI m V) : places (l ++ [x]) = places l ++ [x.1.1] := by simp [places]
theorem places_length {m : Nat} {V : Nat → Nat → Prop} (l : List (BkI m V)) : (places l).length = l.length := by simp [places]
/-- What the cells may be. -/
def Has (W : World) (A : Option Addr) (m : Nat) (V : Nat → Nat → Prop) : Prop := ∀ i, i < m → ∃ b off v, A = some ⟨b, off, none⟩ ∧ V i v ∧ W.cell? ⟨b, off + i, none⟩ = some (u64 v)
def BkK (S : Nat → Prop) (A : Option Addr) (m : Nat) (V : Nat → Nat → Prop) (W W' : World) : Prop := KeepsOf S W W' ∧ (Has W A m V → Has W' A m V)
theorem BkK.trans {S : Nat → Prop} {A : Option Addr} {m : Nat} {V : Nat → Nat → Prop} {X Y Z : World} (h : BkK S A m V X Y) (k : BkK S A m V Y Z) : BkK S A m V X Z := ⟨h.1.trans k.1, fun hh => k.2 (h.2 hh)⟩
theorem BkK.refl {S : Nat → Prop} {A : Option Addr} {m : Nat} {V : Nat → Nat → Prop} (X : World) : BkK S A m V X X := ⟨KeepsOf.refl _, id⟩
theorem has_rd {W : World} {A : Option Addr} {m : Nat} {l : List Nat} (h : Rd W A m l) : Has W A m (fun i v => v = lim l i) := fun i hi => by
  obtain ⟨b, off, e, _, hc⟩ := h.cells (by omega)
  exact ⟨b, off, _, e, rfl, hc i hi⟩
theorem has_keeps {S : Nat → Prop} {W W' : World} {A : Option Addr} {m : Nat} {V : Nat → Nat → Prop} (hk : KeepsOf S W W') (hA : 0 < m → ∀ b off, A = some ⟨b, off, none⟩ → S b) (h : Has W A m V) : Has W' A m V := fun i hi => by
  obtain ⟨b, off, v, e, hv, hc⟩ := h i hi
  exact ⟨b, off, v, e, hv, (hk.cell (p := ⟨b, off + i, none⟩) (hA (by omega) b off e)).trans hc⟩
/-- How a round has ended: it goes on (true), or not. -/
def WentK (K : World → World → Prop) (J Jx : World → Prop) (W : World) (v : Bool) (W' : World) : Prop := (v = true ∧ J W' ∧ K W W') ∨ (v = false ∧ Jx W')

set_option maxRecDepth 100000 in
set_option maxHeartbeats 2000000 in
theorem backN_in (S : Nat → Prop) (V : Nat → Nat → Prop) (n l Bs : Nat) (A : Option Addr) (m c : Nat) (hm : m ≤ 4294967296) (hSb : S Bs) (J Jx : List (BkI m V) → World → Prop)
    (hY : ∀ pre x W, J pre W → pre.length < m → YieldAt Fence.wide (n - 1) Try.prog l #[.int .i64 (x.1.1 : Int), u64 x.1.2] W fun e W' =>
      (e = .returned (.bool true) ∧ J (pre ++ [x]) W' ∧ BkK S A m V W W') ∨ (e = .returned (.bool false) ∧ Jx (pre ++ [x]) W'))
    (W : World) (hB : W.cell? ⟨Bs, 0, none⟩ = some (.slice A m c)) (hH : Has W A m V) (h0 : J [] W) :
    CallsIn Fence.wide n Try.prog 56 #[.func (.yield l) #[] #[], .pointer (some ⟨Bs, 0, none⟩)] W fun e W' => (∃ v, e = .returned v) ∧
      ((∃ ys, places ys = downs m m ∧ J ys W') ∨ (∃ pre, (∃ k, k ≤ m ∧ places pre = downs m k) ∧ Jx pre W')) := by
  refine callsIn_of_wp Try.func56 rfl trivial ?_ rfl
  simp only [Try.ntmps56, List.size_toArray, List.length_cons, List.length_nil, Nat.reduceAdd, Nat.reduceSub, Array.replicate_succ, Array.replicate_zero, List.push_toArray, List.append_toArray, List.nil_append, List.cons_append]
  gi_wp2
  gi_loopw [3] (fun i wr => ∃ (k : Nat) (pre : List (BkI m V)), k ≤ m ∧ i = .int .i64 ((m : Int) - 1 - (k : Int)) ∧ places pre = downs m k ∧ J pre wr ∧ BkK S A m V W wr) (fun i _ => (intOf i + 1).toNat)
  case atStart => exact ⟨0, [], Nat.zero_le _, by simp, rfl, h0, BkK.refl _⟩
  case round =>
    obtain ⟨k, pre, hk, rfl, hp, hJs, hkp⟩ := hrel
    by_cases hlt : k < m
    · obtain ⟨b, off, v, rfl, hv, hc⟩ := hkp.2 hH (m - 1 - k) (by omega)
      have hca : wr.cell? ⟨Bs, 0, none⟩ = some (.slice (some ⟨b, off, none⟩) m c) := (hkp.1.cell (p := ⟨Bs, 0, none⟩) hSb).trans hB
      obtain ⟨j, hj⟩ : ∃ j, m - 1 - k = j := ⟨_, rfl⟩
      rw [hj] at hc hv
      have hjm : j < m := by omega
      have ej : (m : Int) - 1 - (k : Int) = (j : Int) := by omega
      obtain ⟨fn, tmps, assign, body, hy, hR⟩ := hY pre ⟨(j, v), hjm, hv⟩ wr hJs (by rw [← places_length, hp, downs_length]; exact hlt)
      dsimp only at hy hR
      have hR' := Lib.hid (hR.mono (R' := fun e W' => ∃ v', e = .returned (.bool v') ∧ WentK (BkK S (some ⟨b, off, none⟩) m V) (J (pre ++ [⟨(j, v), hjm, hv⟩])) (Jx (pre ++ [⟨(j, v), hjm, hv⟩])) wr v' W') (by
        rintro e W' (⟨rfl, h⟩ | ⟨rfl, h⟩)
        · exact ⟨true, rfl, .inl ⟨rfl, h⟩⟩
        · exact ⟨false, rfl, .inr ⟨rfl, h⟩⟩))
      have HP := Lib.hid hp
      have HJ := Lib.hid hj
      have HK := Lib.hid hkp
      clear hR hY hj hp hkp
      rw [ej]
      gi_wp2_with fail
      refine ⟨fun h => (by cases h), ?_⟩
      (with_reducible refine hR'.out.mono ?_)
      rintro e W3 ⟨v', rfl, h3⟩
      rcases h3 with ⟨rfl, hJ3, hk3⟩ | ⟨rfl, hJx3⟩
      · gi_wp2
        go_roundw
        case rel => exact ⟨k + 1, pre ++ [⟨(j, v), hjm, hv⟩], by omega, by simp; omega, by rw [places_snoc, HP.out, downs_succ, HJ.out], hJ3, HK.out.trans hk3⟩
        case measure => simp [intOf]
      · gi_wp2
        refine bodyPost_ret (results_none rfl _ _ _) rfl ?_
        exact ⟨⟨_, rfl⟩, .inr ⟨_, ⟨k + 1, by omega, by rw [places_snoc, HP.out, downs_succ, HJ.out]⟩, hJx3⟩⟩
    · have hkm : k = m := by omega
      subst hkm
      have ek : (k : Int) - 1 - (k : Int) = -1 := by omega
      have HP := Lib.hid hp
      have HJ := Lib.hid hJs
      rw [ek]
      clear hJs hp hkp hY
      gi_wp2
      go_end0
      exact ⟨⟨_, rfl⟩, .inl ⟨_, HP.out, HJ.out⟩⟩

set_option maxHeartbeats 400000 in
theorem backN_any (A : Option Addr) (m c : Nat) (w : World) :
    Calls Try.prog 37 #[.slice A m c] w fun e w' =>
      e = .returned (.func (.func 56) #[] #[.pointer (some ⟨w.heap.size, 0, none⟩)]) ∧ w' = w.alloc (.cells #[.slice A m c] 23) := by
  go_enter Try.func37, Try.ntmps37
  go_wp2
  go_ret
  exact ⟨rfl, rfl⟩

/-- What slices.Backward hands back. -/
theorem backN_stops (S : Nat → Prop) (V : Nat → Nat → Prop) (n Bs : Nat) (A : Option Addr) (m c : Nat) (hm : m ≤ 4294967296) (hSb : S Bs) (w : World) (hS : Bs < w.heap.size)
    (hA : ∀ b off, 0 < m → A = some ⟨b, off, none⟩ → b < w.heap.size) (hB : w.cell? ⟨Bs, 0, none⟩ = some (.slice A m c)) (hH : Has w A m V) :
    SeqStopsK Fence.wide n Try.prog 56 #[.pointer (some ⟨Bs, 0, none⟩)] (fun x : BkI m V => #[.int .i64 (x.1.1 : Int), u64 x.1.2]) (BkK S A m V)
      (fun ys => places ys = downs m m) (fun pre => ∃ k, k ≤ m ∧ places pre = downs m k) m w := fun l J Jx W hW hJ _ hY h0 => by
  exact backN_in S V n l Bs A m c hm hSb J Jx hY W ((hW.cell (p := ⟨Bs, 0, none⟩) hS).trans hB)
    (fun i hi => by
      obtain ⟨b, off, v, e, hv, hc⟩ := hH i hi
      exact ⟨b, off, v, e, hv, (hW.cell (p := ⟨b, off + i, none⟩) (hA b off (by omega) e)).trans hc⟩) h0

set_option maxRecDepth 100000 in
set_option maxHeartbeats 2000000 in
theorem backU_in (S : Nat → Prop) (V : Nat → Nat → Prop) (n l Bs : Nat) (A : Option Addr) (m c : Nat) (hm : m ≤ 4294967296) (hSb : S Bs) (J Jx : List (BkI m V) → World → Prop)
    (hY : ∀ pre x W, J pre W → pre.length < m → YieldAt Fence.wide (n - 1) Try.prog l #[.int .i64 (x.1.1 : Int), u64 x.1.2] W fun e W' =>
      (e = .returned (.bool true) ∧ J (pre ++ [x]) W' ∧ BkK S A m V W W') ∨ (e = .returned (.bool false) ∧ Jx (pre ++ [x]) W'))
    (W : World) (hB : W.cell? ⟨Bs, 0, none⟩ = some (.slice A m c)) (hH : Has W A m V) (h0 : J [] W) :
    CallsIn Fence.wide n Try.prog 68 #[.func (.yield l) #[] #[], .pointer (some ⟨Bs, 0, none⟩)] W fun e W' => (∃ v, e = .returned v) ∧
      ((∃ ys, places ys = downs m m ∧ J ys W') ∨ (∃ pre, (∃ k, k ≤ m ∧ places pre = downs m k) ∧ Jx pre W')) := by
  refine callsIn_of_wp Try.func68 rfl trivial ?_ rfl
  simp only [Try.ntmps68, List.size_toArray, List.length_cons, List.length_nil, Nat.reduceAdd, Nat.reduceSub, Array.replicate_succ, Array.replicate_zero, List.push_toArray, List.append_toArray, List.nil_append, List.cons_append]
  gi_wp2
  gi_loopw [3] (fun i wr => ∃ (k : Nat) (pre : List (BkI m V)), k ≤ m ∧ i = .int .i64 ((m : Int) - 1 - (k : Int)) ∧ places pre = downs m k ∧ J pre wr ∧ BkK S A m V W wr) (fun i _ => (intOf i + 1).toNat)
  case atStart => exact ⟨0, [], Nat.zero_le _, by simp, rfl, h0, BkK.refl _⟩
  case round =>
    obtain ⟨k, pre, hk, rfl, hp, hJs, hkp⟩ := hrel
    by_cases hlt : k < m
    · obtain ⟨b, off, v, rfl, hv, hc⟩ := hkp.2 hH (m - 1 - k) (by omega)
      have hca : wr.cell? ⟨Bs, 0, none⟩ = some (.slice (some ⟨b, off, none⟩) m c) := (hkp.1.cell (p := ⟨Bs, 0, none⟩) hSb).trans hB
      obtain ⟨j, hj⟩ : ∃ j, m - 1 - k = j := ⟨_, rfl⟩
      rw [hj] at hc hv
      have hjm : j < m := by omega
      have ej : (m : Int) - 1 - (k : Int) = (j : Int) := by omega
      obtain ⟨fn, tmps, assign, body, hy, hR⟩ := hY pre ⟨(j, v), hjm, hv⟩ wr hJs (by rw [← places_length, hp, downs_length]; exact hlt)
      dsimp only at hy hR
      have hR' := Lib.hid (hR.mono (R' := fun e W' => ∃ v', e = .returned (.bool v') ∧ WentK (BkK S (some ⟨b, off, none⟩) m V) (J (pre ++ [⟨(j, v), hjm, hv⟩])) (Jx (pre ++ [⟨(j, v), hjm, hv⟩])) wr v' W') (by
        rintro e W' (⟨rfl, h⟩ | ⟨rfl, h⟩)
        · exact ⟨true, rfl, .inl ⟨rfl, h⟩⟩
        · exact ⟨false, rfl, .inr ⟨rfl, h⟩⟩))
      have HP := Lib.hid hp
      have HJ := Lib.hid hj
      have HK := Lib.hid hkp
      clear hR hY hj hp hkp
      rw [ej]
      gi_wp2_with fail
      refine ⟨fun h => (by cases h), ?_⟩
      (with_reducible refine hR'.out.mono ?_)
      rintro e W3 ⟨v', rfl, h3⟩
      rcases h3 with ⟨rfl, hJ3, hk3⟩ | ⟨rfl, hJx3⟩
      · gi_wp2
        go_roundw
        case rel => exact ⟨k + 1, pre ++ [⟨(j, v), hjm, hv⟩], by omega, by simp; omega, by rw [places_snoc, HP.out, downs_succ, HJ.out], hJ3, HK.out.trans hk3⟩
        case measure => simp [intOf]
      · gi_wp2
        refine bodyPost_ret (results_none rfl _ _ _) rfl ?_
        exact ⟨⟨_, rfl⟩, .inr ⟨_, ⟨k + 1, by omega, by rw [places_snoc, HP.out, downs_succ, HJ.out]⟩, hJx3⟩⟩
    · have hkm : k = m := by omega
      subst hkm
      have ek : (k : Int) - 1 - (k : Int) = -1 := by omega
      have HP := Lib.hid hp
      have HJ := Lib.hid hJs
      rw [ek]
      clear hJs hp hkp hY
      gi_wp2
      go_end0
      exact ⟨⟨_, rfl⟩, .inl ⟨_, HP.out, HJ.out⟩⟩

set_option maxHeartbeats 400000 in
theorem backU_any (A : Option Addr) (m c : Nat) (w : World) :
    Calls Try.prog 61 #[.slice A m c] w fun e w' =>
      e = .returned (.func (.func 68) #[] #[.pointer (some ⟨w.heap.size, 0, none⟩)]) ∧ w' = w.alloc (.cells #[.slice A m c] 22) := by
  go_enter Try.func61, Try.ntmps61
  go_wp2
  go_ret
  exact ⟨rfl, rfl⟩

/-- What slices.Backward hands back. -/
theorem backU_stops (S : Nat → Prop) (V : Nat → Nat → Prop) (n Bs : Nat) (A : Option Addr) (m c : Nat) (hm : m ≤ 4294967296) (hSb : S Bs) (w : World) (hS : Bs < w.heap.size)
    (hA : ∀ b off, 0 < m → A = some ⟨b, off, none⟩ → b < w.heap.size) (hB : w.cell? ⟨Bs, 0, none⟩ = some (.slice A m c)) (hH : Has w A m V) :
    SeqStopsK Fence.wide n Try.prog 68 #[.pointer (some ⟨Bs, 0, none⟩)] (fun x : BkI m V => #[.int .i64 (x.1.1 : Int), u64 x.1.2]) (BkK S A m V)
      (fun ys => places ys = downs m m) (fun pre => ∃ k, k ≤ m ∧ places pre = downs m k) m w := fun l J Jx W hW hJ _ hY h0 => by
  exact backU_in S V n l Bs A m c hm hSb J Jx hY W ((hW.cell (p := ⟨Bs, 0, none⟩) hS).trans hB)
    (fun i hi => by
      obtain ⟨b, off, v, e, hv, hc⟩ := hH i hi
      exact ⟨b, off, v, e, hv, (hW.cell (p := ⟨b, off + i, none⟩) (hA b off (by omega) e)).trans hc⟩) h0
end Go.Proofs.Ythenngajebkboaa

/- div's calls on rows: less, double, trim. -/
namespace Go.Proofs.Ythenngajebkboaa
open Go.RowKit Go.Shelf
set_option linter.unusedVariables false
set_option linter.unusedSimpArgs false

/-- Nothing of what there was has turned but one block. -/
structure Only (g : Nat) (w w' : World) : Prop where
  below : Below 0 w w'
  keep : ∀ k, k < w.heap.size → k ≠ g → w'.heap[k]? = w.heap[k]?
section
variable {g : Nat} {w w' w2 : World}
theorem Only.refl (g : Nat) (w : World) : Only g w w := ⟨Below.refl _ _, fun _ _ _ => rfl⟩
theorem Only.trans (h : Only g w w') (k : Only g w' w2) : Only g w w2 := ⟨h.below.trans k.below, fun i hi hg => (k.keep i (Nat.lt_of_lt_of_le hi h.below.size) hg).trans (h.keep i hi hg)⟩
theorem Only.setCell (h : Only g w w') {p : Addr} (hp : p.block = g) (u : Value) : Only g w (w'.setCell p u) := h.trans ⟨(Below.refl _ _).setCell (Nat.zero_le _) u, fun k hk hg => Below.heap_setCell _ _ _ _ (by rw [hp]; exact hg)⟩
theorem Only.alloc (h : Only g w w') (o : Obj) : Only g w (w'.alloc o) := h.trans ⟨(Below.refl _ _).alloc (Nat.zero_le _) o, fun k hk _ => Below.heap_alloc _ _ _ hk⟩
theorem Only.of_below (g : Nat) (h : Below w.heap.size w w') : Only g w w' := ⟨h.mono (Nat.zero_le _), fun k hk _ => h.block k hk⟩
theorem Only.drew (h : Only g w w') : Only g w w'.drew := h.trans (Only.of_below _ (Below.refl _ _).drew)
theorem Only.rd (h : Only g w w') {A : Option Addr} {n : Nat} {l : List Nat} (hr : Rd w A n l) (hA : 0 < n → ∀ b off, A = some ⟨b, off, none⟩ → b ≠ g) : Rd w' A n l :=
  ⟨hr.len, hr.words, fun hn => by
    obtain ⟨b, off, e, hlt, hc⟩ := hr.cells hn
    refine ⟨b, off, e, Nat.lt_of_lt_of_le hlt h.below.size, fun i hi => ?_⟩
    exact (World.cell?_of_block (w := w) (a := ⟨b, off + i, none⟩) (h.keep b hlt (hA hn b off e))).trans (hc i hi)⟩
theorem Only.row (h : Only g w w') {k : Nat} {l : List Nat} (hr : RowL w k l) (hk : k ≠ g) : RowL w' k l := (h.keep k hr.lt hk).trans hr
theorem Only.to (h : Only g w w') {B : Nat} (hB : B ≤ g) (hB2 : B ≤ w.heap.size) : Below B w w' := ⟨h.below.os, h.below.tape, h.below.output, h.below.size, fun k hk => h.keep k (by omega) (by omega)⟩
end

theorem cell_far {w : World} {g i g2 i2 : Nat} {v : Value} (h : w.cell? ⟨g2, i2, none⟩ = some v) (hne : g2 ≠ g) (u : Value) : (w.setCell ⟨g, i, none⟩ u).cell? ⟨g2, i2, none⟩ = some v :=
  (World.cell?_of_block (w := w) (a := ⟨g2, i2, none⟩) (Below.heap_setCell _ _ _ _ hne)).trans h
/-! ### A row in three parts -/
theorem lim_mid {P T R : List Nat} {i j : Nat} (hP : P.length = i) (hj : j < T.length) : lim (P ++ T ++ R) (i + j) = lim T j := by
  subst hP
  simp only [lim, List.getD_eq_getElem?_getD, List.append_assoc]
  rw [List.getElem?_append_right (by omega), Nat.add_sub_cancel_left, List.getElem?_append_left hj]
theorem set_mid {P T R : List Nat} {i j : Nat} (hP : P.length = i) (hj : j < T.length) (v : Nat) : (P ++ T ++ R).set (i + j) v = P ++ T.set j v ++ R := by
  subst hP
  rw [List.append_assoc, List.set_append_right _ _ (by omega), Nat.add_sub_cancel_left, List.set_append_left _ _ hj, List.append_assoc]

theorem val_set_take {T : List Nat} {j : Nat} (hj : j < T.length) (v : Nat) : val ((T.set j v).take (j + 1)) = val (T.take j) + B64 ^ j * v := by
  rw [val_take_succ, lim_set hj, if_pos rfl, List.take_set_of_le (Nat.le_refl _)]
theorem lim_set_far {T : List Nat} {j k : Nat} (h : k ≠ j) (v : Nat) : lim (T.set j v) k = lim T k := by
  simp only [lim, List.getD_eq_getElem?_getD, List.getElem?_set]
  rw [if_neg (by omega)]

set_option maxRecDepth 100000 in
set_option maxHeartbeats 2000000 in
/-- div.less. -/
theorem less_any (g i M C : Nat) (P T R : List Nat) (A : Option Addr) (nb cb : Nat) (b : List Nat) (w : World) (hrow : RowL w g (P ++ T ++ R)) (hP : P.length = i) (hT : T.length = nb) (hM : nb ≤ M) (hN : M ≤ 4294967296) (hw : Words T)
    (hrb : Rd w A nb b) (hA : 0 < nb → ∀ b0 off, A = some ⟨b0, off, none⟩ → b0 ≠ g) :
    Calls Try.prog 52 #[.slice (some ⟨g, i, none⟩) M C, .slice A nb cb] w fun e w' => ∃ T2 s, e = .returned (u64 s) ∧ s ≤ 1 ∧ RowL w' g (P ++ T2 ++ R) ∧ T2.length = nb ∧ Words T2 ∧ val T2 + val b = val T + B64 ^ nb * s ∧ Only g w w' := by
  go_enter Try.func52, Try.ntmps52
  go_wp2
  go_loopw [4, 9] (fun o i2 wr => ∃ (j s : Nat) (T2 : List Nat), j ≤ nb ∧ i2 = .int .i64 (j : Int) ∧ o = u64 s ∧ s ≤ 1 ∧ RowL wr g (P ++ T2 ++ R) ∧ T2.length = nb ∧ Words T2 ∧ val (T2.take j) + val (b.take j) = val (T.take j) + B64 ^ j * s ∧ (∀ k, j ≤ k → lim T2 k = lim T k) ∧ Only g w wr) (fun _ i2 _ => nb - (intOf i2).toNat)
  case atStart => exact ⟨0, 0, T, by omega, rfl, rfl, by omega, hrow, hT, hw, by simp [val], fun _ _ => rfl, Only.refl _ _⟩
  case round =>
    obtain ⟨j, s, T2, hj, rfl, rfl, hs, hrow2, hlen, hw2, hval, hsame, hkp⟩ := hrel
    by_cases hlt : j < nb
    · obtain ⟨b1, o1, rfl, _, hc1⟩ := (hkp.rd hrb hA).cells (by omega)
      have hcb := hc1 j hlt
      have hcu : wr.cell? ⟨g, i + j, none⟩ = some (u64 (lim T j)) := by
        rw [← hsame j (Nat.le_refl _), ← lim_mid (R := R) hP (by omega)]
        exact hrow2.cell (by simp; omega)
      have hfu : wr.frozen? ⟨g, i + j, none⟩ = false := hrow2.frozen _
      have hyb := hrb.words.get j
      have hxb := hw.get j
      obtain ⟨x, hx⟩ : ∃ x, lim T j = x := ⟨_, rfl⟩
      obtain ⟨y, hy⟩ : ∃ y, lim b j = y := ⟨_, rfl⟩
      have hst := fun t c2 => sub_step (x := x) (y := y) (z := t) (d := c2) hval
      have hvt := val_take_succ T j
      have hvb := val_take_succ b j
      rw [hx] at hcu hxb hvt
      rw [hy] at hcb hyb hvb
      have hd := howSub_digit x y s hxb hyb hs
      have r1 := fun W => joiner_sub.run x y s hxb hyb hs W
      have hlb := joiner_sub.limb x y s hxb hyb hs
      have hov := joiner_sub.over x y s hxb hyb hs
      obtain ⟨t, ht⟩ : ∃ t, (howSub x y s).1 = t := ⟨_, rfl⟩
      obtain ⟨c2, hc2⟩ : ∃ c2, (howSub x y s).2 = c2 := ⟨_, rfl⟩
      rw [ht] at hd hlb
      rw [hc2] at hd hov
      simp only [ht, hc2] at r1
      have HST := Lib.hid (hst t c2 hd)
      have HROW := Lib.hid hrow2
      have HSM := Lib.hid hsame
      have HKP := Lib.hid hkp
      have HVT := Lib.hid hvt
      have HVB := Lib.hid hvb
      have HW := Lib.hid hw2
      have hne : ¬ (M ≤ j) := by omega
      clear hst hrow2 hsame hkp hc1 hvt hvb hw2 hrow hval hx hy hd ht hc2 hw
      go_wp2
      go_roundw
      case rel =>
        refine ⟨j + 1, c2, T2.set j t, by omega, by go_num, rfl, hov, ?_, by simp [hlen], words_set HW.out hlb, ?_, fun k hk => ?_, HKP.out.setCell (p := ⟨g, i + j, none⟩) rfl _⟩
        · rw [← set_mid (R := R) hP (by omega)]
          exact HROW.out.set _ _
        · rw [val_set_take (by omega), HVB.out, HVT.out, Nat.pow_succ]
          exact HST.out
        · rw [lim_set_far (by omega)]
          exact HSM.out k (by omega)
      case measure => simp [intOf]; omega
    · have hjn : j = nb := by omega
      subst hjn
      rw [val_take_all (by omega), val_take_all (by rw [hrb.len]; omega), val_take_all (by omega)] at hval
      have HROW := Lib.hid hrow2
      have HV := Lib.hid hval
      have HKP := Lib.hid hkp
      clear hrow2 hval hsame hkp hrow
      go_wp2
      go_ret
      exact ⟨T2, s, rfl, hs, HROW.out, hlen, hw2, HV.out, HKP.out⟩

theorem dbl_step {T T2 : List Nat} {j x over bit t : Nat} (h : val (T2.take j) + B64 ^ j * over = 2 * val (T.take j) + bit) (hx : lim T j = x) (ht : t + B64 * (x / 2 ^ 63) = 2 * x + over) :
    val (T2.take j) + B64 ^ j * t + B64 ^ (j + 1) * (x / 2 ^ 63) = 2 * (val (T.take j) + B64 ^ j * x) + bit := by
  have e : B64 ^ j * (t + B64 * (x / 2 ^ 63)) = B64 ^ j * (2 * x + over) := by rw [ht]
  rw [Nat.mul_add, Nat.mul_add, ← Nat.mul_assoc, Nat.mul_left_comm (B64 ^ j) 2 x] at e
  rw [show B64 ^ (j + 1) = B64 ^ j * B64 from Nat.pow_succ ..]
  omega
theorem dbl_word {x over : Nat} (hx : x < B64) (ho : over ≤ 1) : bits .or .u64 (IntKind.u64.wrap ((x : Int) * 2)) (over : Int) = ((over + x * 2 % B64 : Nat) : Int) ∧ (over + x * 2 % B64) + B64 * (x / 2 ^ 63) = 2 * x + over ∧ over + x * 2 % B64 < B64 := by
  have e : IntKind.u64.wrap ((x : Int) * 2) = ((x * 2 % B64 : Nat) : Int) := by
    rw [show (x : Int) * 2 = ((x * 2 : Nat) : Int) by omega, u64_wrap_nat]
  have ho2 := or_shl (x := x) (y := over) (r := 1) (by omega) (by omega)
  rw [Nat.pow_one] at ho2
  have h3 : over + x * 2 % B64 < B64 := by rw [B64_eq] at *; omega
  have h4 : over < B64 := by rw [B64_eq]; omega
  have h5 := bits_or_u64_nat (x * 2 % B64) over (Nat.mod_lt _ B64_pos) h4
  refine ⟨?_, ?_, h3⟩
  · rw [e, h5, Nat.or_comm, ho2]
  · rw [B64_eq] at *
    omega

set_option maxRecDepth 100000 in
set_option maxHeartbeats 2000000 in
/-- div.double. -/
theorem double_any (g n C bit : Nat) (T : List Nat) (w : World) (hrow : RowL w g T) (hT : T.length = n) (hn : n ≤ 4294967296) (hw : Words T) (hb : bit ≤ 1) :
    Calls Try.prog 51 #[.slice (some ⟨g, 0, none⟩) n C, u64 bit] w fun e w' => ∃ T2 over, e = .returned (u64 over) ∧ over ≤ 1 ∧ RowL w' g T2 ∧ T2.length = n ∧ Words T2 ∧ val T2 + B64 ^ n * over = 2 * val T + bit ∧ Only g w w' := by
  go_enter Try.func51, Try.ntmps51
  go_wp2
  go_loopw [4, 10] (fun o i2 wr => ∃ (j over : Nat) (T2 : List Nat), j ≤ n ∧ i2 = .int .i64 (j : Int) ∧ o = u64 over ∧ over ≤ 1 ∧ RowL wr g T2 ∧ T2.length = n ∧ Words T2 ∧ val (T2.take j) + B64 ^ j * over = 2 * val (T.take j) + bit ∧ (∀ k, j ≤ k → lim T2 k = lim T k) ∧ Only g w wr) (fun _ i2 _ => n - (intOf i2).toNat)
  case atStart => exact ⟨0, bit, T, by omega, rfl, rfl, hb, hrow, hT, hw, by simp [val], fun _ _ => rfl, Only.refl _ _⟩
  case round =>
    obtain ⟨j, over, T2, hj, rfl, rfl, hs, hrow2, hlen, hw2, hval, hsame, hkp⟩ := hrel
    by_cases hlt : j < n
    · have hcu : wr.cell? ⟨g, j, none⟩ = some (u64 (lim T j)) := by
        rw [← hsame j (Nat.le_refl _)]
        exact hrow2.cell (by omega)
      have hfu : wr.frozen? ⟨g, j, none⟩ = false := hrow2.frozen _
      have hxb := hw.get j
      obtain ⟨x, hx⟩ : ∃ x, lim T j = x := ⟨_, rfl⟩
      rw [hx] at hcu hxb
      have hvt := val_take_succ T j
      rw [hx] at hvt
      obtain ⟨k1, k2, k3⟩ := dbl_word hxb hs
      have hst := dbl_step hval hx k2
      have hx63 : x / 2 ^ 63 ≤ 1 := by rw [B64_eq] at hxb; omega
      have e63 : (x : Int) / 9223372036854775808 = ((x / 2 ^ 63 : Nat) : Int) := by omega
      obtain ⟨h, hh⟩ : ∃ h, x / 2 ^ 63 = h := ⟨_, rfl⟩
      obtain ⟨t, ht⟩ : ∃ t, over + x * 2 % B64 = t := ⟨_, rfl⟩
      rw [hh] at e63 hst hx63
      rw [ht] at k1 k3 hst
      have HST := Lib.hid hst
      have HROW := Lib.hid hrow2
      have HSM := Lib.hid hsame
      have HKP := Lib.hid hkp
      have HVT := Lib.hid hvt
      have HW := Lib.hid hw2
      clear hst hrow2 hsame hkp hvt hw2 hrow hval hx hw k2 hh ht
      go_wp2
      go_roundw
      case rel =>
        refine ⟨j + 1, h, T2.set j t, by omega, by go_num, rfl, hx63, HROW.out.set _ _, by simp [hlen], words_set HW.out k3, ?_, fun k hk => ?_, HKP.out.setCell (p := ⟨g, j, none⟩) rfl _⟩
        · rw [val_set_take (by omega), HVT.out]
          exact HST.out
        · rw [lim_set_far (by omega)]
          exact HSM.out k (by omega)
      case measure => simp [intOf]; omega
    · have hjn : j = n := by omega
      subst hjn
      rw [val_take_all (by omega), val_take_all (by omega)] at hval
      have HROW := Lib.hid hrow2
      have HV := Lib.hid hval
      have HKP := Lib.hid hkp
      clear hrow2 hval hsame hkp hrow
      go_wp2
      go_ret
      exact ⟨T2, over, rfl, hs, HROW.out, hlen, hw2, HV.out, HKP.out⟩

set_option maxHeartbeats 400000 in
/-- div.trim: a slice cut behind its last limb that is not 0. -/
theorem trimD_any (A : Option Addr) (n c : Nat) (l : List Nat) (w : World) (h : Rd w A n l) (hc0 : n ≤ c) (hc1 : c ≤ 9223372036854775807) :
    Calls Try.prog 39 #[.slice A n c] w fun e w' => (∃ k, k ≤ n ∧ e = .returned (.slice A k c) ∧ l.take k = limbs (val l)) ∧ w' = w := by
  go_enter Try.func39, Try.ntmps39
  go_wp2
  go_loop [3] (fun i => ∃ k : Nat, k ≤ n ∧ i = .int .i64 (k : Int) ∧ ∀ j, k ≤ j → lim l j = 0) (fun i => (intOf i).toNat)
  case atStart => exact ⟨n, Nat.le_refl _, rfl, fun j hj => lim_past (by rw [h.len]; omega)⟩
  case round =>
    obtain ⟨k, hk, rfl, hz⟩ := hrel
    by_cases h0 : k = 0
    · subst h0
      have ht : l.take 0 = limbs (val l) := take_limbs h.words (by omega) (fun h => absurd rfl h) hz
      have HT : Hid (l.take 0 = limbs (val l)) := ht
      clear ht hz h
      go_wp2
      go_ret
      exact ⟨⟨0, by omega, rfl, HT.out⟩, rfl⟩
    · obtain ⟨b, off, rfl, hb, hc⟩ := h.cells (by omega)
      have hci := hc (k - 1) (by omega)
      clear hc
      obtain ⟨j, rfl⟩ : ∃ j, k = j + 1 := ⟨k - 1, by omega⟩
      simp only [Nat.add_sub_cancel] at hci
      by_cases hx : lim l j = 0
      · rw [hx] at hci
        have HX : Hid (lim l j = 0) := hx
        have HZ := Lib.hid hz
        have HH := Lib.hid h
        clear hx hz h
        go_wp2
        go_round
        case rel => exact ⟨j, by omega, by go_num, fun i hi => by
          rcases Nat.eq_or_lt_of_le hi with rfl | hi
          · exact HX.out
          · exact HZ.out i hi⟩
        case measure => simp [intOf]
      · have ht : l.take (j + 1) = limbs (val l) := take_limbs h.words (by rw [h.len]; omega) (fun _ => hx) hz
        have HT : Hid (l.take (j + 1) = limbs (val l)) := ht
        have hne : ((lim l j : Int) == 0) = false := by simp; omega
        clear ht hz h hx
        go_wp2
        go_ret
        exact ⟨⟨j + 1, by omega, rfl, HT.out⟩, rfl⟩


/-! ### The divisor: a struct of two slices -/
/-- What is divided by, and the room for a product. -/
def dvs (AB : Option Addr) (nb cb : Nat) (gm cm : Nat) : Value := .agg #[.slice AB nb cb, .slice (some ⟨gm, 0, none⟩) nb cm]
theorem times_word {x y over h l s c1 : Nat} (hx : x < B64) (hy : y < B64) (ho : over < B64) (hh : x * y / B64 = h) (hl : x * y % B64 = l) (hs : (l + over) % B64 = s) (h1 : (l + over) / B64 = c1) :
    s + B64 * (h + c1) = x * y + over ∧ h + c1 < B64 ∧ l < B64 ∧ s < B64 := by
  have e1 := Nat.mod_add_div (x * y) B64
  have e2 := Nat.mod_add_div (l + over) B64
  have e3 := two_words (m := 0) hx hy B64_pos ho
  rw [hh, hl] at e1
  rw [hs, h1] at e2
  have e : s + B64 * (h + c1) = x * y + over := by rw [Nat.mul_add]; omega
  refine ⟨e, ?_, by rw [← hl]; exact Nat.mod_lt _ B64_pos, by rw [← hs]; exact Nat.mod_lt _ B64_pos⟩
  refine Nat.lt_of_mul_lt_mul_left (a := B64) ?_
  omega
theorem times_step {T2 b : List Nat} {j x y over s next : Nat} (h : val (T2.take j) + B64 ^ j * over = x * val (b.take j)) (hy : lim b j = y) (hs : s + B64 * next = y * x + over) :
    val (T2.take j) + B64 ^ j * s + B64 ^ (j + 1) * next = x * (val (b.take j) + B64 ^ j * y) := by
  have e : B64 ^ j * (s + B64 * next) = B64 ^ j * (y * x + over) := by rw [hs]
  rw [Nat.mul_add, Nat.mul_add, ← Nat.mul_assoc] at e
  rw [show B64 ^ (j + 1) = B64 ^ j * B64 from Nat.pow_succ .., Nat.mul_add, ← h, Nat.mul_left_comm x, Nat.mul_comm x y]
  omega

set_option maxRecDepth 100000 in
set_option maxHeartbeats 2000000 in
/-- (div.divisor).times. -/
theorem timesD_any (AB : Option Addr) (nb cb gm cm x : Nat) (b T : List Nat) (w : World) (hrow : RowL w gm T) (hT : T.length = nb) (hn : nb ≤ 4294967296) (hw : Words T) (hx : x < B64)
    (hrb : Rd w AB nb b) (hA : 0 < nb → ∀ b0 off, AB = some ⟨b0, off, none⟩ → b0 ≠ gm) :
    Calls Try.prog 60 #[dvs AB nb cb gm cm, u64 x] w fun e w' => ∃ v T2 over, e = .returned v ∧ RowL w' gm T2 ∧ T2.length = nb ∧ Words T2 ∧ val T2 + B64 ^ nb * over = x * val b ∧ Only gm w w' := by
  unfold dvs
  have hgl := hrow.lt
  have hc0 : (w.alloc (.cells #[.slice AB nb cb, .slice (some ⟨gm, 0, none⟩) nb cm] 71)).cell? ⟨w.heap.size, 1, none⟩ = some (.slice (some ⟨gm, 0, none⟩) nb cm) := by simp
  go_enter Try.func60, Try.ntmps60
  go_wp2
  have hO := (Only.refl gm w).alloc (.cells #[.slice AB nb cb, .slice (some ⟨gm, 0, none⟩) nb cm] 71)
  have hr1 := hrow.alloc (.cells #[.slice AB nb cb, .slice (some ⟨gm, 0, none⟩) nb cm] 71)
  generalize w.alloc (.cells #[.slice AB nb cb, .slice (some ⟨gm, 0, none⟩) nb cm] 71) = w1 at *
  go_loopw [4, 14] (fun o i2 wr => ∃ (j over : Nat) (T2 : List Nat), j ≤ nb ∧ i2 = .int .i64 (j : Int) ∧ o = u64 over ∧ over < B64 ∧ RowL wr gm T2 ∧ T2.length = nb ∧ Words T2 ∧ val (T2.take j) + B64 ^ j * over = x * val (b.take j) ∧ wr.cell? ⟨w.heap.size, 1, none⟩ = some (.slice (some ⟨gm, 0, none⟩) nb cm) ∧ Only gm w wr) (fun _ i2 _ => nb - (intOf i2).toNat)
  case atStart => exact ⟨0, 0, T, by omega, rfl, rfl, B64_pos, hr1, hT, hw, by simp [val], hc0, hO⟩
  case round =>
    obtain ⟨j, over, T2, hj, rfl, rfl, ho, hrow2, hlen, hw2, hval, hbox, hkp⟩ := hrel
    by_cases hlt : j < nb
    · obtain ⟨b1, o1, rfl, _, hc1⟩ := (hkp.rd hrb hA).cells (by omega)
      have hcb := hc1 j hlt
      have hfu : wr.frozen? ⟨gm, j, none⟩ = false := hrow2.frozen _
      have hcu : wr.cell? ⟨gm, j, none⟩ = some (u64 (lim T2 j)) := hrow2.cell (by omega)
      have hyb := hrb.words.get j
      obtain ⟨y, hy⟩ : ∃ y, lim b j = y := ⟨_, rfl⟩
      have hvb := val_take_succ b j
      rw [hy] at hcb hyb hvb
      obtain ⟨h, hh⟩ : ∃ h, y * x / B64 = h := ⟨_, rfl⟩
      obtain ⟨l, hl⟩ : ∃ l, y * x % B64 = l := ⟨_, rfl⟩
      obtain ⟨s, hs⟩ : ∃ s, (l + over) % B64 = s := ⟨_, rfl⟩
      obtain ⟨c1, h1⟩ : ∃ c1, (l + over) / B64 = c1 := ⟨_, rfl⟩
      obtain ⟨k1, k2, k3, k4⟩ := times_word hyb hx ho hh hl hs h1
      have hst := times_step hval hy k1
      have r1 := fun W => add64_two l over k3 ho W
      rw [hs, h1] at r1
      have f1 := u64_add_fits (x := h) (y := c1) k2
      have HST := Lib.hid hst
      have HROW := Lib.hid hrow2
      have HKP := Lib.hid hkp
      have HW := Lib.hid hw2
      have HBX := Lib.hid hbox
      have HVB := Lib.hid hvb
      have HH := Lib.hid hh
      have HL := Lib.hid hl
      have hgl1 : gm ≠ w.heap.size := by omega
      clear hst hrow2 hkp hc1 hvb hw2 hrow hval hy hs h1 k1 hw hc0 hr1 hh hl
      go_wp2_with (go_at_call 67; refine (mul64_any y x hyb hx _).mono ?_; rw [HH.out, HL.out]; rintro e w1 ⟨rfl, rfl⟩)
      go_roundw
      case rel =>
        refine ⟨j + 1, h + c1, T2.set j s, by omega, by go_num, by go_num, k2, HROW.out.set _ _, by simp [hlen], words_set HW.out k4, ?_, ?_, HKP.out.setCell (p := ⟨gm, j, none⟩) rfl _⟩
        · rw [val_set_take (by omega), HVB.out]
          exact HST.out
        · exact cell_far HBX.out (Ne.symm hgl1) _
      case measure => simp [intOf]; omega
    · have hjn : j = nb := by omega
      subst hjn
      rw [val_take_all (by omega), val_take_all (by rw [hrb.len]; omega)] at hval
      have HROW := Lib.hid hrow2
      have HV := Lib.hid hval
      have HKP := Lib.hid hkp
      clear hrow2 hval hkp hrow
      go_wp2
      go_end0
      exact ⟨_, T2, over, rfl, HROW.out, hlen, hw2, HV.out, HKP.out⟩

/-- The guess of a limb of the quotient. -/
def guessN (hi lo y : Nat) : Nat := if y ≤ hi then 18446744073709551615 else (hi * B64 + lo) / y

set_option maxRecDepth 100000 in
set_option maxHeartbeats 2000000 in
/-- (div.divisor).guess. -/
theorem guess_any (AB A : Option Addr) (nb cb gm cm c : Nat) (b l : List Nat) (w : World) (hrb : Rd w AB nb b) (hrl : Rd w A nb l) (h2 : 2 ≤ nb) (hn : nb ≤ 4294967296) :
    Calls Try.prog 59 #[dvs AB nb cb gm cm, .slice A nb c] w fun e w' => e = .returned (u64 (guessN (lim l (nb - 1)) (lim l (nb - 2)) (lim b (nb - 2)))) ∧ Below w.heap.size w w' := by
  unfold dvs
  have hb0 := hrb.alloc (.cells #[.slice AB nb cb, .slice (some ⟨gm, 0, none⟩) nb cm] 71)
  have hl0 := hrl.alloc (.cells #[.slice AB nb cb, .slice (some ⟨gm, 0, none⟩) nb cm] 71)
  obtain ⟨b1, o1, rfl, _, hc1⟩ := hb0.cells (by omega)
  obtain ⟨b2, o2, rfl, _, hc2⟩ := hl0.cells (by omega)
  have c1 := hc1 (nb - 2) (by omega)
  have c2 := hc2 (nb - 2) (by omega)
  have c3 := hc2 (nb - 1) (by omega)
  have hy := hrb.words.get (nb - 2)
  have hl := hrl.words.get (nb - 2)
  generalize lim b (nb - 2) = y at *
  generalize lim l (nb - 2) = lo at *
  generalize lim l (nb - 1) = hi at *
  obtain ⟨n, rfl⟩ : ∃ n, nb = n + 2 := ⟨nb - 2, by omega⟩
  have e1 : n + 2 - 1 = n + 1 := rfl
  rw [e1] at c3
  rw [Nat.add_sub_cancel] at c1 c2
  clear hc1 hc2 hb0 hl0 hrb hrl e1
  by_cases hle : y ≤ hi
  · have hg : guessN hi lo y = 18446744073709551615 := if_pos hle
    have HG := Lib.hid hg
    have hd : decide ((y : Int) ≤ (hi : Int)) = true := int_le_true hle
    clear hg hy hl
    go_enter Try.func59, Try.ntmps59
    go_wp2
    go_ret
    exact ⟨by rw [HG.out]; rfl, (Below.refl _ w).alloc (Nat.le_refl _) _⟩
  · have hg : guessN hi lo y = (hi * B64 + lo) / y := if_neg hle
    have HG := Lib.hid hg
    have hd : decide ((y : Int) ≤ (hi : Int)) = false := by simp; omega
    have HY := Lib.hid hy
    have HL := Lib.hid hl
    clear hg hy hl
    go_enter Try.func59, Try.ntmps59
    go_wp2
    go_quiet ((go_at_call 38; exact Calls.quiet_of (div64_any hi lo y HL.out HY.out (by omega) _)))
    go_wp2
    go_ret
    rw [HG.out]
    exact ⟨rfl, below_drewN ((Below.refl _ w).alloc (Nat.le_refl _) _) _⟩
end Go.Proofs.Ythenngajebkboaa
