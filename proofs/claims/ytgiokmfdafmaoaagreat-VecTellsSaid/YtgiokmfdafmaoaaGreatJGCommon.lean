import Derived.Test.YtgiokmfdafmaoaaGreatJNum
import Derived.Test.YtgiokmfdafmaoaaGreatJDLimb
import Derived.Test.YtgiokmfdafmaoaaGreatJRowL
import Derived.Deep.QuietTactic
import Derived.BigQuiet
import Derived.Test.YtgiokmfdafmaoaaGreatJDown
import Derived.Test.YtgiokmfdafmaoaaGreatJMSpec
import Derived.Test.YtgiokmfdafmaoaaGreatJDCode
import Derived.Test.YtgiokmfdafmaoaaGreatJDNames
import Derived.Test.YtgiokmfdafmaoaaGreatJRefCommon
import Derived.Test.YtgiokmfdafmaoaaGreatJGSpec
import Derived.Deep.RegionHeld3
import Derived.Test.YtgiokmfdafmaoaaGreatJRefGcd
/- Lehmer Sure Tops GLow GLower GCommon. -/
/- Euclid's steps on the highest bits (Lehmer, Collins): what sureSteps keeps, and what it gives. -/
namespace Go.Proofs.YtgiokmfdafmaoaaGreat
set_option linter.unusedVariables false

/-- The numbers of steps: tops t1, t2, with their shares (x1, y1), (x2, y2) of A and B; o: odd. -/
structure Lm (A B t1 x1 y1 t2 x2 y2 : Nat) (o : Bool) : Prop where
  det : if o then x2 * y1 = x1 * y2 + 1 else x1 * y2 = x2 * y1 + 1
  one : if o then t1 + x1 * A = y1 * B else t1 + y1 * B = x1 * A
  two : if o then t2 + y2 * B = x2 * A else t2 + x2 * A = y2 * B
  sa : y2 * t1 + y1 * t2 = A
  sb : x2 * t1 + x1 * t2 = B
  xy : x2 ≤ y2
  y2p : 1 ≤ y2
  le : t2 ≤ t1
  so : (y1 = 0 ∧ o = false ∧ x1 = 1 ∧ x2 = 0 ∧ y2 = 1 ∧ t1 = A ∧ t2 = B) ∨ (1 ≤ y1 ∧ x1 ≤ y1 ∧ y2 ≤ t2 ∧ y1 + y2 + t2 ≤ t1)

theorem Lm.start {A B : Nat} (h : B ≤ A) : Lm A B A 1 0 B 0 1 false :=
  ⟨by simp, by simp, by simp, by simp, by simp, by omega, by omega, h, .inl ⟨rfl, rfl, rfl, rfl, rfl, rfl, rfl⟩⟩

theorem Lm.next {A B t1 x1 y1 t2 x2 y2 t3 q : Nat} {o : Bool} (h : Lm A B t1 x1 y1 t2 x2 y2 o) (hq : q * t2 + t3 = t1) (hlt : t3 < t2) (h1 : y1 + q * y2 ≤ t3) (h2 : y2 + (y1 + q * y2) ≤ t2 - t3) :
    Lm A B t2 x2 y2 t3 (x1 + q * x2) (y1 + q * y2) (!o) := by
  have q1 : 1 ≤ q := by
    rcases Nat.eq_zero_or_pos q with hz | hp
    · subst hz
      have := h.le
      omega
    · exact hp
  have e1 : q * (y2 * t2) = y2 * (q * t2) := Nat.mul_left_comm _ _ _
  have e2 : q * (x2 * t2) = x2 * (q * t2) := Nat.mul_left_comm _ _ _
  have hA := h.sa
  have hB := h.sb
  rw [← hq, Nat.mul_add] at hA hB
  have hxq : q * x2 ≤ q * y2 := Nat.mul_le_mul_left q h.xy
  refine ⟨?_, ?_, ?_, ?_, ?_, ?_, ?_, by omega, ?_⟩
  · have hd := h.det
    cases o with
    | false =>
      simp only [Bool.not_false, if_true, Bool.false_eq_true, if_false] at hd ⊢
      rw [Nat.add_mul, Nat.mul_add, hd, Nat.mul_assoc, Nat.mul_left_comm x2 q y2]
      omega
    | true =>
      simp only [Bool.not_true, if_true, Bool.false_eq_true, if_false] at hd ⊢
      rw [Nat.add_mul, Nat.mul_add, hd, Nat.mul_assoc, Nat.mul_left_comm x2 q y2]
      omega
  · have hd := h.two
    cases o <;> simpa using hd
  · have h1' := h.one
    have h2' := h.two
    cases o with
    | false =>
      simp only [Bool.not_false, if_true, Bool.false_eq_true, if_false] at h1' h2' ⊢
      have ht := congrArg (q * ·) h2'
      simp only [Nat.mul_add] at ht
      rw [Nat.add_mul, Nat.add_mul, Nat.mul_assoc, Nat.mul_assoc]
      omega
    | true =>
      simp only [Bool.not_true, if_true, Bool.false_eq_true, if_false] at h1' h2' ⊢
      have ht := congrArg (q * ·) h2'
      simp only [Nat.mul_add] at ht
      rw [Nat.add_mul, Nat.add_mul, Nat.mul_assoc, Nat.mul_assoc]
      omega
  · rw [Nat.add_mul, Nat.mul_assoc, e1]
    omega
  · rw [Nat.add_mul, Nat.mul_assoc, e2]
    omega
  · have hx : x1 ≤ y1 + q * y2 - q * x2 := by
      rcases h.so with ⟨a, b, c, d, e, _⟩ | ⟨a, b, _⟩
      · subst a; subst c; subst d; subst e
        omega
      · omega
    omega
  · have : 1 * 1 ≤ q * y2 := Nat.mul_le_mul q1 h.y2p
    omega
  · refine .inr ⟨h.y2p, h.xy, h1, by omega⟩

/-- left's sums stay below the tops: no overflow. -/
theorem Lm.fits {A B t1 x1 y1 t2 x2 y2 : Nat} {o : Bool} (h : Lm A B t1 x1 y1 t2 x2 y2 o) (ht : 0 < t2) : y1 + t1 / t2 * y2 ≤ A ∧ x1 + t1 / t2 * x2 ≤ B := by
  have hq := Nat.div_mul_le_self t1 t2
  have hA := h.sa
  have hB := h.sb
  have e1 : (t1 / t2 * y2) * t2 ≤ y2 * t1 := by
    rw [Nat.mul_comm (t1 / t2) y2, Nat.mul_assoc]
    exact Nat.mul_le_mul_left _ hq
  have e2 : (t1 / t2 * x2) * t2 ≤ x2 * t1 := by
    rw [Nat.mul_comm (t1 / t2) x2, Nat.mul_assoc]
    exact Nat.mul_le_mul_left _ hq
  constructor
  · have : (y1 + t1 / t2 * y2) * t2 ≤ A := by rw [Nat.add_mul]; omega
    exact Nat.le_trans (Nat.le_mul_of_pos_right _ ht) this
  · have : (x1 + t1 / t2 * x2) * t2 ≤ B := by rw [Nat.add_mul]; omega
    exact Nat.le_trans (Nat.le_mul_of_pos_right _ ht) this
theorem Lm.small {A B t1 x1 y1 t2 x2 y2 : Nat} {o : Bool} (h : Lm A B t1 x1 y1 t2 x2 y2 o) (ht : 0 < t2) (hA : A < 18446744073709551616) (h1 : y1 + t1 / t2 * y2 ≤ t1 % t2) : y1 + t1 / t2 * y2 < 4294967296 := by
  have hq := Nat.div_mul_le_self t1 t2
  have hA2 := h.sa
  have e1 : (t1 / t2 * y2) * t2 ≤ y2 * t1 := by
    rw [Nat.mul_comm (t1 / t2) y2, Nat.mul_assoc]
    exact Nat.mul_le_mul_left _ hq
  have e2 : (y1 + t1 / t2 * y2) * t2 ≤ A := by rw [Nat.add_mul]; omega
  have h3 := Nat.mod_lt t1 ht
  rcases Nat.lt_or_ge (y1 + t1 / t2 * y2) 4294967296 with h4 | h4
  · exact h4
  · have := Nat.mul_le_mul h4 (show 4294967296 ≤ t2 by omega)
    omega
theorem Lm.y2le {A B t1 x1 y1 t2 x2 y2 : Nat} {o : Bool} (h : Lm A B t1 x1 y1 t2 x2 y2 o) (ht : 0 < t2) : y2 ≤ y1 + t1 / t2 * y2 := by
  have : 1 ≤ t1 / t2 := (Nat.le_div_iff_mul_le ht).2 (by rw [Nat.one_mul]; exact h.le)
  have := Nat.mul_le_mul_right y2 this
  omega

/-- What the steps make of the numbers themselves. -/
theorem Lm.real {A B t1 x1 y1 t2 x2 y2 K a0 b0 a b : Nat} {o : Bool} (h : Lm A B t1 x1 y1 t2 x2 y2 o) (hy : y1 ≠ 0) (ha : a = A * K + a0) (hb : b = B * K + b0) (ha0 : a0 < K) (hb0 : b0 < K) :
    ∃ r1 r2, r2 ≤ r1 ∧ a = y2 * r1 + y1 * r2 ∧ b = x2 * r1 + x1 * r2 ∧ 1 ≤ y1 ∧ 1 ≤ y2 ∧ (if o then r1 + x1 * a = y1 * b ∧ r2 + y2 * b = x2 * a else r1 + y1 * b = x1 * a ∧ r2 + x2 * a = y2 * b) := by
  rcases h.so with ⟨h0, _⟩ | ⟨p1, p2, p3, p4⟩
  · exact absurd h0 hy
  have hdet := h.det
  have h1 := h.one
  have h2 := h.two
  have xy := h.xy
  have y2p := h.y2p
  have mk : ∀ m n : Nat, m ≤ n → m * K ≤ n * K := fun m n hmn => Nat.mul_le_mul_right K hmn
  have lt0 : ∀ m : Nat, m * a0 ≤ m * K := fun m => Nat.mul_le_mul_left m (Nat.le_of_lt ha0)
  have lt1 : ∀ m : Nat, m * b0 ≤ m * K := fun m => Nat.mul_le_mul_left m (Nat.le_of_lt hb0)
  have xa : x1 * a = x1 * A * K + x1 * a0 := by rw [ha, Nat.mul_add, Nat.mul_assoc]
  have xa2 : x2 * a = x2 * A * K + x2 * a0 := by rw [ha, Nat.mul_add, Nat.mul_assoc]
  have yb : y1 * b = y1 * B * K + y1 * b0 := by rw [hb, Nat.mul_add, Nat.mul_assoc]
  have yb2 : y2 * b = y2 * B * K + y2 * b0 := by rw [hb, Nat.mul_add, Nat.mul_assoc]
  have k4 := mk _ _ p4
  rw [Nat.add_mul, Nat.add_mul] at k4
  have k3 := mk _ _ p3
  have k2 := mk _ _ p2
  have kx := mk _ _ xy
  have m1 := lt0 x1
  have m2 := lt0 x2
  have m3 := lt1 y1
  have m4 := lt1 y2
  cases o with
  | false =>
    simp only [Bool.false_eq_true, if_false] at hdet h1 h2 ⊢
    have g1 := congrArg (· * K) h1
    have g2 := congrArg (· * K) h2
    simp only [Nat.add_mul] at g1 g2
    have q1 : y1 * b ≤ x1 * a := by omega
    have q2 : x2 * a ≤ y2 * b := by omega
    obtain ⟨r1, hr1⟩ : ∃ r1, r1 + y1 * b = x1 * a := ⟨x1 * a - y1 * b, by omega⟩
    obtain ⟨r2, hr2⟩ : ∃ r2, r2 + x2 * a = y2 * b := ⟨y2 * b - x2 * a, by omega⟩
    refine ⟨r1, r2, by omega, ?_, ?_, p1, y2p, hr1, hr2⟩
    · have s1 := congrArg (y2 * ·) hr1
      have s2 := congrArg (y1 * ·) hr2
      simp only [Nat.mul_add] at s1 s2
      have s3 := congrArg (· * a) hdet
      simp only [Nat.add_mul, Nat.one_mul] at s3
      rw [Nat.mul_left_comm y2 y1 b] at s1
      rw [← Nat.mul_assoc y2 x1 a, Nat.mul_comm y2 x1] at s1
      rw [← Nat.mul_assoc y1 x2 a, Nat.mul_comm y1 x2] at s2
      omega
    · have s1 := congrArg (x2 * ·) hr1
      have s2 := congrArg (x1 * ·) hr2
      simp only [Nat.mul_add] at s1 s2
      have s3 := congrArg (· * b) hdet
      simp only [Nat.add_mul, Nat.one_mul] at s3
      rw [Nat.mul_left_comm x2 x1 a] at s1
      rw [← Nat.mul_assoc x2 y1 b] at s1
      rw [← Nat.mul_assoc x1 y2 b] at s2
      omega
  | true =>
    simp only [if_true] at hdet h1 h2 ⊢
    have g1 := congrArg (· * K) h1
    have g2 := congrArg (· * K) h2
    simp only [Nat.add_mul] at g1 g2
    have q1 : x1 * a ≤ y1 * b := by omega
    have q2 : y2 * b ≤ x2 * a := by omega
    obtain ⟨r1, hr1⟩ : ∃ r1, r1 + x1 * a = y1 * b := ⟨y1 * b - x1 * a, by omega⟩
    obtain ⟨r2, hr2⟩ : ∃ r2, r2 + y2 * b = x2 * a := ⟨x2 * a - y2 * b, by omega⟩
    refine ⟨r1, r2, by omega, ?_, ?_, p1, y2p, hr1, hr2⟩
    · have s1 := congrArg (y2 * ·) hr1
      have s2 := congrArg (y1 * ·) hr2
      simp only [Nat.mul_add] at s1 s2
      have s3 := congrArg (· * a) hdet
      simp only [Nat.add_mul, Nat.one_mul] at s3
      rw [Nat.mul_left_comm y2 y1 b] at s1
      rw [← Nat.mul_assoc y2 x1 a, Nat.mul_comm y2 x1] at s1
      rw [← Nat.mul_assoc y1 x2 a, Nat.mul_comm y1 x2] at s2
      omega
    · have s1 := congrArg (x2 * ·) hr1
      have s2 := congrArg (x1 * ·) hr2
      simp only [Nat.mul_add] at s1 s2
      have s3 := congrArg (· * b) hdet
      simp only [Nat.add_mul, Nat.one_mul] at s3
      rw [Nat.mul_left_comm x2 x1 a] at s1
      rw [← Nat.mul_assoc x2 y1 b] at s1
      rw [← Nat.mul_assoc x1 y2 b] at s2
      omega

/-- Two numbers that make a and b, and that a and b make, have a and b's greatest common divisor. -/
theorem Lm.gcd {x1 y1 x2 y2 a b r1 r2 : Nat} {o : Bool} (e1 : a = y2 * r1 + y1 * r2) (e2 : b = x2 * r1 + x1 * r2) (h : if o then r1 + x1 * a = y1 * b ∧ r2 + y2 * b = x2 * a else r1 + y1 * b = x1 * a ∧ r2 + x2 * a = y2 * b) : Nat.gcd r1 r2 = Nat.gcd a b := by
  have d1 := Nat.gcd_dvd_left r1 r2
  have d2 := Nat.gcd_dvd_right r1 r2
  have d3 := Nat.gcd_dvd_left a b
  have d4 := Nat.gcd_dvd_right a b
  apply Nat.dvd_antisymm
  · apply Nat.dvd_gcd
    · rw [e1]; exact Nat.dvd_add (Nat.dvd_trans d1 (Nat.dvd_mul_left _ _)) (Nat.dvd_trans d2 (Nat.dvd_mul_left _ _))
    · rw [e2]; exact Nat.dvd_add (Nat.dvd_trans d1 (Nat.dvd_mul_left _ _)) (Nat.dvd_trans d2 (Nat.dvd_mul_left _ _))
  · generalize Nat.gcd a b = d at d3 d4 ⊢
    have key : ∀ r u v m n : Nat, r + u * m = v * n → d ∣ m → d ∣ n → d ∣ r := fun r u v m n he hm hn => by
      have h1 : d ∣ r + u * m := by rw [he]; exact Nat.dvd_trans hn (Nat.dvd_mul_left _ _)
      exact (Nat.dvd_add_left (Nat.dvd_trans hm (Nat.dvd_mul_left _ _))).1 h1
    cases o with
    | false =>
      simp only [Bool.false_eq_true, if_false] at h
      exact Nat.dvd_gcd (key _ _ _ _ _ h.1 d4 d3) (key _ _ _ _ _ h.2 d3 d4)
    | true =>
      simp only [if_true] at h
      exact Nat.dvd_gcd (key _ _ _ _ _ h.1 d3 d4) (key _ _ _ _ _ h.2 d4 d3)
theorem Lm.less {x1 y1 x2 y2 a b r1 r2 : Nat} (e1 : a = y2 * r1 + y1 * r2) (h1 : 1 ≤ y1) (h2 : 1 ≤ y2) : r1 + r2 ≤ a := by
  have g1 := Nat.mul_le_mul_right r1 h2
  have g2 := Nat.mul_le_mul_right r2 h1
  omega
end Go.Proofs.YtgiokmfdafmaoaaGreat

/- gcd's sureSteps: Euclid's steps on the highest bits. -/
namespace Go.Proofs.YtgiokmfdafmaoaaGreat
open Go.RowKit Go.Shelf
set_option linter.unusedVariables false
set_option linter.unusedSimpArgs false

/-- A share, as a value. -/
def shr (t x y : Nat) : Value := .agg #[u64 t, u64 x, u64 y]

theorem u64_div {a b : Nat} (ha : a < B64) : IntKind.u64.wrap ((a : Int) / (b : Int)) = ((a / b : Nat) : Int) := by
  rw [← Int.natCast_ediv]
  exact wrap_fits (Nat.lt_of_le_of_lt (Nat.div_le_self _ _) ha)
theorem u64_mod {a b : Nat} (ha : a < B64) : IntKind.u64.wrap ((a : Int) % (b : Int)) = ((a % b : Nat) : Int) := by
  rw [← Int.natCast_emod]
  exact wrap_fits (Nat.lt_of_le_of_lt (Nat.mod_le _ _) ha)
theorem u64_mul {a b : Nat} (h : a * b < B64) : IntKind.u64.wrap ((a : Int) * (b : Int)) = ((a * b : Nat) : Int) := by
  rw [← Int.natCast_mul]
  exact wrap_fits h

set_option maxRecDepth 100000 in
set_option maxHeartbeats 2000000 in
/-- gcd.left. -/
theorem left_any (t1 x1 y1 t2 x2 y2 : Nat) (w : World) (h0 : 0 < t2) (h1 : t1 < B64) (hx : x1 + t1 / t2 * x2 < B64) (hy : y1 + t1 / t2 * y2 < B64) :
    Calls Tryz.prog 123 #[shr t1 x1 y1, shr t2 x2 y2] w fun e w' => e = .returned (shr (t1 % t2) (x1 + t1 / t2 * x2) (y1 + t1 / t2 * y2)) ∧ Below w.heap.size w w' := by
  unfold shr
  have hz : ¬ t2 = 0 := by omega
  have e1 := u64_div (b := t2) h1
  have e2 := u64_mod (b := t2) h1
  have e3 := u64_mul (a := t1 / t2) (b := x2) (by omega)
  have e4 := u64_mul (a := t1 / t2) (b := y2) (by omega)
  have e5 := dv_add hx
  have e6 := dv_add hy
  have E1 := Lib.hid e1
  have E2 := Lib.hid e2
  have E3 := Lib.hid e3
  have E4 := Lib.hid e4
  have E5 := Lib.hid e5
  have E6 := Lib.hid e6
  clear e1 e2 e3 e4 e5 e6 h0 h1 hx hy
  go_enter Tryz.func123, Tryz.ntmps123
  go_wp2
  obtain ⟨W, hW⟩ : ∃ W, ((w.alloc (.cells #[u64 t1, u64 x1, u64 y1] 114)).alloc (.cells #[u64 t2, u64 x2, u64 y2] 114)).alloc (.cells #[.int .u64 0, .int .u64 0, .int .u64 0] 114) = W := ⟨_, rfl⟩
  have k1 : W.heap[w.heap.size]? = some (.cells #[u64 t1, u64 x1, u64 y1] 114) := by rw [← hW, Below.heap_alloc _ _ _ (by simp; omega), Below.heap_alloc _ _ _ (by simp)]; exact World.alloc_heap_new _ _
  have k2 : W.heap[w.heap.size + 1]? = some (.cells #[u64 t2, u64 x2, u64 y2] 114) := by rw [← hW, Below.heap_alloc _ _ _ (by simp)]; have := World.alloc_heap_new (w.alloc (.cells #[u64 t1, u64 x1, u64 y1] 114)) (.cells #[u64 t2, u64 x2, u64 y2] 114); rwa [World.size_alloc] at this
  have k3 : W.heap[w.heap.size + 1 + 1]? = some (.cells #[.int .u64 0, .int .u64 0, .int .u64 0] 114) := by
    rw [← hW]
    have := World.alloc_heap_new ((w.alloc (.cells #[u64 t1, u64 x1, u64 y1] 114)).alloc (.cells #[u64 t2, u64 x2, u64 y2] 114)) (.cells #[.int .u64 0, .int .u64 0, .int .u64 0] 114)
    rwa [World.size_alloc, World.size_alloc] at this
  have a1 := cells_cell k1 (j := 0) rfl
  have a2 := cells_cell k1 (j := 1) rfl
  have a3 := cells_cell k1 (j := 2) rfl
  have b1 := cells_cell k2 (j := 0) rfl
  have b2 := cells_cell k2 (j := 1) rfl
  have b3 := cells_cell k2 (j := 2) rfl
  have hB : Below w.heap.size w W := by rw [← hW]; exact (((Below.refl _ w).alloc (Nat.le_refl _) _).alloc (by simp) _).alloc (by simp; omega) _
  rw [hW]
  have d1 := cells_cell k3 (j := 0) rfl
  have d2 := cells_cell k3 (j := 1) rfl
  have d3 := cells_cell k3 (j := 2) rfl
  have f1 := cells_frozen k3 (j := 0)
  have f2 := cells_frozen k3 (j := 1)
  have f3 := cells_frozen k3 (j := 2)
  have HB := Lib.hid hB
  clear hW hB
  have K3 := Lib.hid k3
  clear k1 k2 k3
  go_quiet (fail)
  go_wp2
  rw [E1.out, E3.out, E4.out, E5.out, E6.out, (Int.natCast_emod t1 t2).symm]
  refine bodyPost_ret (v := shr (t1 % t2) (x1 + t1 / t2 * x2) (y1 + t1 / t2 * y2)) (by simp [results, Tryz.results123, go_sem, d1, d2, d3, shr]) rfl ?_
  refine ⟨rfl, ?_⟩
  exact (((below_drewN HB.out _).setCell (p := ⟨w.heap.size + 1 + 1, 0, none⟩) (by show w.heap.size ≤ w.heap.size + 1 + 1; omega) _).setCell (p := ⟨w.heap.size + 1 + 1, 1, none⟩) (by show w.heap.size ≤ w.heap.size + 1 + 1; omega) _).setCell (p := ⟨w.heap.size + 1 + 1, 2, none⟩) (by show w.heap.size ≤ w.heap.size + 1 + 1; omega) _

/-- The steps that a block holds. -/
def StepsAt (w : World) (g t1 x1 y1 t2 x2 y2 : Nat) (o : Bool) : Prop := w.heap[g]? = some (.cells #[u64 t1, u64 x1, u64 y1, u64 t2, u64 x2, u64 y2, .bool o] 116)
def stp (t1 x1 y1 t2 x2 y2 : Nat) (o : Bool) : Value := .agg #[u64 t1, u64 x1, u64 y1, u64 t2, u64 x2, u64 y2, .bool o]
theorem StepsAt.below {w w' : World} {g t1 x1 y1 t2 x2 y2 : Nat} {o : Bool} (h : StepsAt w g t1 x1 y1 t2 x2 y2 o) {B : Nat} (hb : Below B w w') (hg : g < B) : StepsAt w' g t1 x1 y1 t2 x2 y2 o := (hb.block g hg).trans h
/-- The second one's top, in a block. -/
def topAt (w : World) (g : Nat) : Nat := match w.cell? ⟨g, 3, none⟩ with | some (.int _ n) => n.toNat | _ => 0
theorem StepsAt.top {w : World} {g t1 x1 y1 t2 x2 y2 : Nat} {o : Bool} (h : StepsAt w g t1 x1 y1 t2 x2 y2 o) : topAt w g = t2 := by
  have c := cells_cell h (j := 3) rfl
  unfold topAt
  rw [c]
  simp

theorem cells_set {w : World} {g i : Nat} {xs : Array Value} {T : TypeId} {u : Value} (h : w.heap[g]? = some (.cells xs T (0, 0))) : (w.setCell ⟨g, i, none⟩ u).heap[g]? = some (.cells (xs.set! i u) T (0, 0)) := by
  simp [World.setCell, Array.getElem?_modify, h]
theorem StepsAt.set {w : World} {g t1 x1 y1 t2 x2 y2 a1 b1 c1 a2 b2 c2 : Nat} {o p : Bool} (h : StepsAt w g t1 x1 y1 t2 x2 y2 o) :
    StepsAt (((((((w.setCell ⟨g, 0, none⟩ (u64 a1)).setCell ⟨g, 1, none⟩ (u64 b1)).setCell ⟨g, 2, none⟩ (u64 c1)).setCell ⟨g, 3, none⟩ (u64 a2)).setCell ⟨g, 4, none⟩ (u64 b2)).setCell ⟨g, 5, none⟩ (u64 c2)).setCell ⟨g, 6, none⟩ (.bool p)) g a1 b1 c1 a2 b2 c2 p := by
  have h7 := cells_set (i := 6) (u := .bool p) (cells_set (i := 5) (u := u64 c2) (cells_set (i := 4) (u := u64 b2) (cells_set (i := 3) (u := u64 a2) (cells_set (i := 2) (u := u64 c1) (cells_set (i := 1) (u := u64 b1) (cells_set (i := 0) (u := u64 a1) h))))))
  simpa [StepsAt] using h7
theorem below_set7 {w w' : World} {B g : Nat} (h : Below B w w') (hg : B ≤ g) (v0 v1 v2 v3 v4 v5 v6 : Value) :
    Below B w (((((((w'.setCell ⟨g, 0, none⟩ v0).setCell ⟨g, 1, none⟩ v1).setCell ⟨g, 2, none⟩ v2).setCell ⟨g, 3, none⟩ v3).setCell ⟨g, 4, none⟩ v4).setCell ⟨g, 5, none⟩ v5).setCell ⟨g, 6, none⟩ v6) :=
  ((((((h.setCell (p := ⟨g, 0, none⟩) hg _).setCell (p := ⟨g, 1, none⟩) hg _).setCell (p := ⟨g, 2, none⟩) hg _).setCell (p := ⟨g, 3, none⟩) hg _).setCell (p := ⟨g, 4, none⟩) hg _).setCell (p := ⟨g, 5, none⟩) hg _).setCell (p := ⟨g, 6, none⟩) hg _

set_option maxRecDepth 100000 in
set_option maxHeartbeats 4000000 in
/-- gcd.sureSteps. -/
theorem sure_any (A B : Nat) (w : World) (hA : A < B64) (hBA : B ≤ A) :
    Calls Tryz.prog 105 #[u64 A, u64 B] w fun e w' => ∃ t1 x1 y1 t2 x2 y2 o, e = .returned (stp t1 x1 y1 t2 x2 y2 o) ∧ Lm A B t1 x1 y1 t2 x2 y2 o ∧ Below w.heap.size w w' := by
  have hst := Lm.start hBA
  have HST := Lib.hid hst
  have HA := Lib.hid hA
  clear hst hA hBA
  go_enter Tryz.func105, Tryz.ntmps105
  go_wp2
  go_loopw [6] (fun _ wr => ∃ t1 x1 y1 t2 x2 y2 o, StepsAt wr (w.heap.size + 1) t1 x1 y1 t2 x2 y2 o ∧ Lm A B t1 x1 y1 t2 x2 y2 o ∧ wr.heap[w.heap.size]? = some (.cells #[.int .u64 0, .int .u64 0, .int .u64 0, .int .u64 0, .int .u64 0, .int .u64 0, .bool false] 116) ∧ Below w.heap.size w wr) (fun _ wr => topAt wr (w.heap.size + 1))
  case atStart =>
    refine ⟨A, 1, 0, B, 0, 1, false, ?_, HST.out, ?_, ((Below.refl _ w).alloc (Nat.le_refl _) _).alloc (by simp) _⟩
    · have h := World.alloc_heap_new (w.alloc (.cells #[.int .u64 0, .int .u64 0, .int .u64 0, .int .u64 0, .int .u64 0, .int .u64 0, .bool false] 116)) (.cells #[u64 A, .int .u64 1, .int .u64 0, u64 B, .int .u64 0, .int .u64 1, .bool false] 116)
      rw [World.size_alloc] at h
      exact h
    · rw [Below.heap_alloc _ _ _ (by simp)]
      exact World.alloc_heap_new _ _
  case round =>
    obtain ⟨t1, x1, y1, t2, x2, y2, o, hs, hL, hz, hB⟩ := hrel
    have g0 := cells_cell hs (j := 0) rfl
    have g1 := cells_cell hs (j := 1) rfl
    have g2 := cells_cell hs (j := 2) rfl
    have g3 := cells_cell hs (j := 3) rfl
    have g4 := cells_cell hs (j := 4) rfl
    have g5 := cells_cell hs (j := 5) rfl
    have g6 := cells_cell hs (j := 6) rfl
    have hsz : w.heap.size + 1 < wr.heap.size := (Array.getElem?_eq_some_iff.1 hs).1
    by_cases ht : t2 = 0
    · subst ht
      have z0 := cells_cell hz (j := 0) rfl
      have z1 := cells_cell hz (j := 1) rfl
      have z2 := cells_cell hz (j := 2) rfl
      have z3 := cells_cell hz (j := 3) rfl
      have z4 := cells_cell hz (j := 4) rfl
      have z5 := cells_cell hz (j := 5) rfl
      have z6 := cells_cell hz (j := 6) rfl
      have q0 := cells_frozen hz (j := 0)
      have q1 := cells_frozen hz (j := 1)
      have q2 := cells_frozen hz (j := 2)
      have q3 := cells_frozen hz (j := 3)
      have q4 := cells_frozen hz (j := 4)
      have q5 := cells_frozen hz (j := 5)
      have q6 := cells_frozen hz (j := 6)
      have HL := Lib.hid hL
      have HB := Lib.hid hB
      clear hs hL hz hB HA HST hsz
      go_wp2
      refine bodyPost_ret (v := stp t1 x1 y1 0 x2 y2 o) (by simp [results, Tryz.results105, go_sem, z0, z1, z2, z3, z4, z5, z6, stp]) rfl ?_
      exact ⟨t1, x1, y1, 0, x2, y2, o, rfl, HL.out, below_set7 HB.out (Nat.le_refl _) _ _ _ _ _ _ _⟩
    · have ht0 : 0 < t2 := Nat.pos_of_ne_zero ht
      have hfit := hL.fits ht0
      have hAb := HA.out
      have hyy := hL.y2le ht0
      have hsa := hL.sa
      have hle := hL.le
      have ht1 : t1 < B64 := by
        have := Nat.mul_le_mul_right t1 hL.y2p
        omega
      have hBA : B ≤ A := by
        have := Nat.mul_le_mul_right t1 hL.xy
        have h1 := hL.sb
        rcases hL.so with ⟨a, b, c, d, e, f, g⟩ | ⟨a, b, _⟩
        · omega
        · have := Nat.mul_le_mul_right t2 b
          omega
      have HC := Lib.hid (fun W => left_any t1 x1 y1 t2 x2 y2 W ht0 ht1 (by omega) (by omega))
      have hnext := fun h1 h2 => hL.next (q := t1 / t2) (t3 := t1 % t2) (by rw [Nat.mul_comm]; exact Nat.div_add_mod t1 t2) (Nat.mod_lt _ ht0) h1 h2
      have hlt3 : t1 % t2 < t2 := Nat.mod_lt _ ht0
      have hsm := hL.small ht0 (by rw [B64_eq] at hAb; exact hAb)
      obtain ⟨t3, e3⟩ : ∃ t3, t1 % t2 = t3 := ⟨_, rfl⟩
      obtain ⟨x3, f3⟩ : ∃ x3, x1 + t1 / t2 * x2 = x3 := ⟨_, rfl⟩
      obtain ⟨y3, h3⟩ : ∃ y3, y1 + t1 / t2 * y2 = y3 := ⟨_, rfl⟩
      rw [e3, f3, h3] at hnext
      rw [e3, h3] at hsm
      rw [e3, f3, h3] at HC
      rw [e3] at hlt3
      rw [h3] at hyy hfit
      have hgt : decide ((0 : Int) < (t2 : Int)) = true := by simp; omega
      have HNX := Lib.hid hnext
      have HSZ := Lib.hid hsz
      have HS := Lib.hid hs
      have HZ := Lib.hid hz
      have HL := Lib.hid hL
      have HB := Lib.hid hB
      have hfy := hfit.1
      have t2B : t2 < B64 := by omega
      have htop : topAt wr (w.heap.size + 1) = t2 := hs.top
      have HTOP := Lib.hid htop
      clear hnext hs hL hz hB HST hsz e3 f3 h3 hfit hsa hle ht1 ht htop
      by_cases c1 : t3 < y3
      · have d1 : decide ((t3 : Int) < (y3 : Int)) = true := by simp; omega
        clear hsm hBA hyy hlt3 hfy t2B hAb
        go_wp2_with fail
        refine (HC.out _).mono ?_
        unfold shr
        rintro e w2 ⟨rfl, hb2⟩
        have hb3 := below_then HB.out hb2
        have hs2 := HS.out.below hb2 (by have := HSZ.out; omega)
        have hz2 := (hb2.block w.heap.size (by have := HSZ.out; omega)).trans HZ.out
        clear g0 g1 g2 g3 g4 g5 g6
        have g0 := cells_cell hs2 (j := 0) rfl
        have g1 := cells_cell hs2 (j := 1) rfl
        have g2 := cells_cell hs2 (j := 2) rfl
        have g3 := cells_cell hs2 (j := 3) rfl
        have g4 := cells_cell hs2 (j := 4) rfl
        have g5 := cells_cell hs2 (j := 5) rfl
        have g6 := cells_cell hs2 (j := 6) rfl
        have z0 := cells_cell hz2 (j := 0) rfl
        have z1 := cells_cell hz2 (j := 1) rfl
        have z2 := cells_cell hz2 (j := 2) rfl
        have z3 := cells_cell hz2 (j := 3) rfl
        have z4 := cells_cell hz2 (j := 4) rfl
        have z5 := cells_cell hz2 (j := 5) rfl
        have z6 := cells_cell hz2 (j := 6) rfl
        have q0 := cells_frozen hz2 (j := 0)
        have q1 := cells_frozen hz2 (j := 1)
        have q2 := cells_frozen hz2 (j := 2)
        have q3 := cells_frozen hz2 (j := 3)
        have q4 := cells_frozen hz2 (j := 4)
        have q5 := cells_frozen hz2 (j := 5)
        have q6 := cells_frozen hz2 (j := 6)
        have HB3 := Lib.hid hb3
        have hne1 : w.heap.size < w2.heap.size := by have := hb2.size; have := HSZ.out; omega
        have hne2 : w.heap.size + 1 < w2.heap.size := by have := hb2.size; have := HSZ.out; omega
        clear hs2 hz2 hb2 hb3
        go_wp2
        refine bodyPost_ret (v := stp t1 x1 y1 t2 x2 y2 o) (by simp [results, Tryz.results105, go_sem, z0, z1, z2, z3, z4, z5, z6, stp, hne1]) rfl ?_
        refine ⟨t1, x1, y1, t2, x2, y2, o, rfl, HL.out, ?_⟩
        exact (below_set7 HB3.out (Nat.le_refl _) _ _ _ _ _ _ _).alloc (by simp; omega) _
      · by_cases c2 : t2 - t3 < y2 + y3
        · have d1 : decide ((t3 : Int) < (y3 : Int)) = false := by simp; omega
          obtain ⟨d, hd⟩ : ∃ d, t2 - t3 = d := ⟨_, rfl⟩
          obtain ⟨s, hs⟩ : ∃ s, y2 + y3 = s := ⟨_, rfl⟩
          have k1 : IntKind.u64.wrap ((t2 : Int) - (t3 : Int)) = (d : Int) := by rw [IntKind.wrap_u64]; rw [B64_eq] at *; omega
          have k2 : IntKind.u64.wrap ((y2 : Int) + (y3 : Int)) = (s : Int) := by
            have := hsm (by omega)
            rw [IntKind.wrap_u64]; rw [B64_eq] at *; omega
          have d2 : decide ((d : Int) < (s : Int)) = true := by simp; omega
          rw [hd, hs] at c2
          clear hsm hBA hyy hlt3 hfy t2B hAb hd hs
          go_wp2_with fail
          refine (HC.out _).mono ?_
          unfold shr
          rintro e w2 ⟨rfl, hb2⟩
          have hb3 := below_then HB.out hb2
          have hs2 := HS.out.below hb2 (by have := HSZ.out; omega)
          have hz2 := (hb2.block w.heap.size (by have := HSZ.out; omega)).trans HZ.out
          clear g0 g1 g2 g3 g4 g5 g6
          have g0 := cells_cell hs2 (j := 0) rfl
          have g1 := cells_cell hs2 (j := 1) rfl
          have g2 := cells_cell hs2 (j := 2) rfl
          have g3 := cells_cell hs2 (j := 3) rfl
          have g4 := cells_cell hs2 (j := 4) rfl
          have g5 := cells_cell hs2 (j := 5) rfl
          have g6 := cells_cell hs2 (j := 6) rfl
          have z0 := cells_cell hz2 (j := 0) rfl
          have z1 := cells_cell hz2 (j := 1) rfl
          have z2 := cells_cell hz2 (j := 2) rfl
          have z3 := cells_cell hz2 (j := 3) rfl
          have z4 := cells_cell hz2 (j := 4) rfl
          have z5 := cells_cell hz2 (j := 5) rfl
          have z6 := cells_cell hz2 (j := 6) rfl
          have q0 := cells_frozen hz2 (j := 0)
          have q1 := cells_frozen hz2 (j := 1)
          have q2 := cells_frozen hz2 (j := 2)
          have q3 := cells_frozen hz2 (j := 3)
          have q4 := cells_frozen hz2 (j := 4)
          have q5 := cells_frozen hz2 (j := 5)
          have q6 := cells_frozen hz2 (j := 6)
          have HB3 := Lib.hid hb3
          have hne1 : w.heap.size < w2.heap.size := by have := hb2.size; have := HSZ.out; omega
          have hne2 : w.heap.size + 1 < w2.heap.size := by have := hb2.size; have := HSZ.out; omega
          clear hs2 hz2 hb2 hb3
          go_wp2
          refine bodyPost_ret (v := stp t1 x1 y1 t2 x2 y2 o) (by simp [results, Tryz.results105, go_sem, z0, z1, z2, z3, z4, z5, z6, stp, hne1]) rfl ?_
          refine ⟨t1, x1, y1, t2, x2, y2, o, rfl, HL.out, ?_⟩
          exact (below_set7 HB3.out (Nat.le_refl _) _ _ _ _ _ _ _).alloc (by simp; omega) _
        · have d1 : decide ((t3 : Int) < (y3 : Int)) = false := by simp; omega
          have HN := Lib.hid (HNX.out (by omega) (by omega))
          obtain ⟨d, hd⟩ : ∃ d, t2 - t3 = d := ⟨_, rfl⟩
          obtain ⟨s, hs⟩ : ∃ s, y2 + y3 = s := ⟨_, rfl⟩
          have k1 : IntKind.u64.wrap ((t2 : Int) - (t3 : Int)) = (d : Int) := by rw [IntKind.wrap_u64]; rw [B64_eq] at *; omega
          have k2 : IntKind.u64.wrap ((y2 : Int) + (y3 : Int)) = (s : Int) := by
            have := hsm (by omega)
            rw [IntKind.wrap_u64]; rw [B64_eq] at *; omega
          have d2 : decide ((d : Int) < (s : Int)) = false := by simp; omega
          rw [hd, hs] at c2
          have HLT := Lib.hid hlt3
          clear hsm hBA hyy hlt3 hfy t2B hAb hd hs
          go_wp2_with fail
          refine (HC.out _).mono ?_
          unfold shr
          rintro e w2 ⟨rfl, hb2⟩
          have hb3 := below_then HB.out hb2
          have hs2 := HS.out.below hb2 (by have := HSZ.out; omega)
          clear g0 g1 g2 g3 g4 g5 g6
          have g0 := cells_cell hs2 (j := 0) rfl
          have g1 := cells_cell hs2 (j := 1) rfl
          have g2 := cells_cell hs2 (j := 2) rfl
          have g3 := cells_cell hs2 (j := 3) rfl
          have g4 := cells_cell hs2 (j := 4) rfl
          have g5 := cells_cell hs2 (j := 5) rfl
          have g6 := cells_cell hs2 (j := 6) rfl
          have q0 := cells_frozen hs2 (j := 0)
          have q1 := cells_frozen hs2 (j := 1)
          have q2 := cells_frozen hs2 (j := 2)
          have q3 := cells_frozen hs2 (j := 3)
          have q4 := cells_frozen hs2 (j := 4)
          have q5 := cells_frozen hs2 (j := 5)
          have q6 := cells_frozen hs2 (j := 6)
          have HB3 := Lib.hid hb3
          have HS2 := Lib.hid hs2
          have hne1 : w.heap.size < w2.heap.size := by have := hb2.size; have := HSZ.out; omega
          have hne2 : w.heap.size + 1 < w2.heap.size := by have := hb2.size; have := HSZ.out; omega
          have HZ2 := Lib.hid ((hb2.block w.heap.size (by have := HSZ.out; omega)).trans HZ.out)
          clear hs2 hb2 hb3
          go_wp2
          go_roundw
          case rel =>
            refine ⟨t2, x2, y2, t3, x3, y3, !o, ?_, HN.out, ?_, (below_set7 HB3.out (by omega) _ _ _ _ _ _ _).alloc (by simp; omega) _⟩
            · exact (Below.heap_alloc _ _ _ (by simp; omega)).trans HS2.out.set
            · rw [Below.heap_alloc _ _ _ (by simp; omega)]
              iterate 7 rw [Below.heap_setCell _ _ _ _ (by simp)]
              exact HZ2.out
          case measure =>
            have h1 : StepsAt _ (w.heap.size + 1) t2 x2 y2 t3 x3 y3 (!o) := HS2.out.set
            have h2 : StepsAt _ (w.heap.size + 1) t2 x2 y2 t3 x3 y3 (!o) := (Below.heap_alloc _ (.cells #[u64 t3, u64 x3, u64 y3] 114) _ (by simp; omega)).trans h1
            have h3 := h2.top
            rw [HTOP.out]
            exact Nat.lt_of_le_of_lt (Nat.le_of_eq h3) HLT.out
end Go.Proofs.YtgiokmfdafmaoaaGreat

/- gcd's tops: the highest bits of two numbers. -/
namespace Go.Proofs.YtgiokmfdafmaoaaGreat
open Go.RowKit Go.Shelf
set_option linter.unusedVariables false
set_option linter.unusedSimpArgs false

set_option maxHeartbeats 400000 in
/-- gcd.limb: the limb at a place, 0 beyond the last one. -/
theorem limbG_any (A : Option Addr) (n c : Nat) (l : List Nat) (i : Nat) (w : World) (h : Rd w A n l) (hi : i ≤ 9223372036854775807) (hn : n ≤ 9223372036854775807) :
    Calls Tryz.prog 126 #[.slice A n c, .int .i64 (i : Int)] w fun e w' => e = .returned (u64 (lim l i)) ∧ w' = w := by
  by_cases hlt : i < n
  · obtain ⟨b, off, rfl, hb, hc⟩ := h.cells (by omega)
    have hci := hc i hlt
    clear hc h
    go_enter Tryz.func126, Tryz.ntmps126
    go_wp2
    go_ret
    exact ⟨rfl, rfl⟩
  · have h0 : lim l i = 0 := lim_past (by rw [h.len]; omega)
    have H0 : Hid (lim l i = 0) := h0
    clear h0 h
    go_enter Tryz.func126, Tryz.ntmps126
    go_wp2
    go_ret
    exact ⟨by rw [H0.out]; rfl, rfl⟩

theorem top_word {x y s : Nat} {S R : Int} (hs : s ≤ 63) (hx : x < 2 ^ (64 - s)) (hy : y < B64) (hS : S = (s : Int)) (hR : R = ((64 - s : Nat) : Int)) :
    bits BinOp.or IntKind.u64 (IntKind.u64.wrap ((x : Int) * 2 ^ min S.toNat 64)) ((y : Int) / 2 ^ min R.toNat 64) = ((x * 2 ^ s + y / 2 ^ (64 - s) : Nat) : Int) := by
  have m1 : min S.toNat 64 = s := by omega
  have m2 : min R.toNat 64 = 64 - s := by omega
  have hB := B64_split (r := s) (by omega)
  have hX : x * 2 ^ s < B64 := by rw [hB]; exact Nat.mul_lt_mul_of_pos_right hx (Nat.two_pow_pos s)
  have hY : y / 2 ^ (64 - s) < 2 ^ s := by
    rw [Nat.div_lt_iff_lt_mul (Nat.two_pow_pos _), Nat.mul_comm, ← hB]
    exact hy
  have e1 : IntKind.u64.wrap ((x : Int) * 2 ^ s) = ((x * 2 ^ s : Nat) : Int) := by
    have := wrap_fits hX
    rw [← this, Int.natCast_mul, Int.natCast_pow]
    rfl
  have e2 : ((y : Int) / 2 ^ (64 - s)) = ((y / 2 ^ (64 - s) : Nat) : Int) := by
    rw [Int.natCast_ediv, Int.natCast_pow]
    rfl
  have hor := or_shl (x := x) (r := s) (y := y / 2 ^ (64 - s)) (by omega) hY
  rw [Nat.mod_eq_of_lt hX] at hor
  rw [m1, m2, e1, e2, bits_or_u64_nat _ _ hX (Nat.lt_of_le_of_lt (Nat.div_le_self _ _) hy), Nat.or_comm, hor, Nat.add_comm]
theorem limbG_z (A : Option Addr) (n c : Nat) (l : List Nat) (i : Nat) (z : Int) (w : World) (h : Rd w A n l) (hz : z = (i : Int)) (hi : i ≤ 9223372036854775807) (hn : n ≤ 9223372036854775807) :
    Calls Tryz.prog 126 #[.slice A n c, .int .i64 z] w fun e w' => e = .returned (u64 (lim l i)) ∧ w' = w := hz ▸ limbG_any A n c l i w h hi hn

set_option maxRecDepth 100000 in
set_option maxHeartbeats 2000000 in
/-- The function within tops. -/
theorem top_in (A : Option Addr) (n c : Nat) (l : List Nat) (k s b1 o1 b2 o2 : Nat) (K1 S : Int) (w : World) (h : Rd w A n l) (hn : n ≤ 9223372036854775807) (hk : k < 9223372036854775807) (hs : s ≤ 63) (hlim : lim l (k + 1) < 2 ^ (64 - s))
    (hK : K1 = ((k + 1 : Nat) : Int)) (hS : S = (s : Int)) (h1 : w.cell? ⟨b1, o1, none⟩ = some (.int .i64 K1)) (h2 : w.cell? ⟨b2, o2, none⟩ = some (.int .i64 S)) :
    Calls Tryz.prog 125 #[.slice A n c, .pointer (some ⟨b1, o1, none⟩), .pointer (some ⟨b2, o2, none⟩)] w fun e w' => e = .returned (u64 (lim l (k + 1) * 2 ^ s + lim l k / 2 ^ (64 - s))) ∧ ∃ m, w' = w.drewN m := by
  obtain ⟨K0, hK0⟩ : ∃ K0 : Int, K0 = (k : Int) := ⟨_, rfl⟩
  obtain ⟨R, hR⟩ : ∃ R : Int, R = ((64 - s : Nat) : Int) := ⟨_, rfl⟩
  have e0 : IntKind.i64.wrap (K1 - 1) = K0 := by rw [IntKind.wrap_i64]; omega
  have e1 : IntKind.i64.wrap (64 - S) = R := by rw [IntKind.wrap_i64]; omega
  have e2 : wrap64 (K1 - 1) = K0 := by unfold wrap64; omega
  have e3 : wrap64 (64 - S) = R := by unfold wrap64; omega
  have s1 : ¬ S < 0 := by omega
  have s2 : ¬ R < 0 := by omega
  have C1 := Lib.hid (fun m => limbG_z A n c l (k + 1) K1 _ (h.drewN m) hK (by omega) hn)
  have C0 := Lib.hid (fun m => limbG_z A n c l k K0 _ (h.drewN m) hK0 (by omega) hn)
  have HK := Lib.hid hK
  have HS := Lib.hid hS
  have HR := Lib.hid hR
  have HL := Lib.hid hlim
  have H0 := Lib.hid (h.words.get k)
  clear h hK hS hR hK0 hlim
  go_enter Tryz.func125, Tryz.ntmps125
  go_wp2
  go_quiet (first
    | (go_at_call_of 126 K1; exact Calls.quiet_of_same (C1.out _))
    | (go_at_call_of 126 K0; exact Calls.quiet_of_same (C0.out _)))
  go_wp2
  go_ret
  refine ⟨?_, _, rfl⟩
  rw [top_word hs HL.out H0.out HS.out HR.out]
  rfl

/-- The two highest limbs' highest bits. -/
def topOf (l : List Nat) (k s : Nat) : Nat := lim l (k + 1) * 2 ^ s + lim l k / 2 ^ (64 - s)

set_option maxRecDepth 100000 in
set_option maxHeartbeats 2000000 in
/-- gcd.tops. -/
theorem tops_any (A A2 : Option Addr) (k ca nb cb : Nat) (a b : List Nat) (w : World) (hra : Rd w A (k + 2) a) (hrb : Rd w A2 nb b) (hna : k ≤ 1000000) (hnb : nb ≤ k + 2) (h0 : lim a (k + 1) ≠ 0) (hle : lim b (k + 1) ≤ lim a (k + 1)) :
    Calls Tryz.prog 106 #[.slice A (k + 2) ca, .slice A2 nb cb] w fun e w' => (∃ s, s ≤ 63 ∧ lim a (k + 1) < 2 ^ (64 - s) ∧ 2 ^ (63 - s) ≤ lim a (k + 1) ∧ e = .returned (.tuple #[u64 (topOf a k s), u64 (topOf b k s)])) ∧ Below w.heap.size w w' := by
  unfold topOf
  have hx := hra.words.get (k + 1)
  obtain ⟨k1, k2, k3⟩ := Lib.bitLenAux_bounds 64 _ hx h0
  have hb : Lib.bitLen (lim a (k + 1)) ≤ 64 := Lib.bitLen_le _ 64 (Nat.le_refl _) hx
  have hlz := fun W => lead_any _ hx W
  obtain ⟨s, hs⟩ : ∃ s, 64 - Lib.bitLen (lim a (k + 1)) = s := ⟨_, rfl⟩
  have e1 : Lib.bitLenAux 64 (lim a (k + 1)) = 64 - s := by
    show Lib.bitLen _ = _
    omega
  rw [e1] at k1 k2 k3
  have hs63 : s ≤ 63 := by omega
  rw [show 64 - s - 1 = 63 - s by omega] at k2
  obtain ⟨ba, oa, rfl, hlt, hc⟩ := hra.cells (by omega)
  have hci := hc (k + 1) (by omega)
  obtain ⟨K1, hK⟩ : ∃ K1 : Int, K1 = ((k + 1 : Nat) : Int) := ⟨_, rfl⟩
  obtain ⟨S, hS⟩ : ∃ S : Int, S = (s : Int) := ⟨_, rfl⟩
  have q1 : wrap64 (((k + 2 : Nat) : Int) - 1) = K1 := by unfold wrap64; omega
  rw [hs, ← hS] at hlz
  have HLZ := Lib.hid hlz
  have HRA := Lib.hid hra
  have HRB := Lib.hid hrb
  have H1 := Lib.hid k2
  have H2 := Lib.hid k3
  have H3 := Lib.hid hs63
  have HK := Lib.hid hK
  have HS := Lib.hid hS
  have hlb : lim b (k + 1) < 2 ^ (64 - s) := Nat.lt_of_le_of_lt hle k3
  have hw2 : ∃ W, (w.alloc (.cells #[.int .i64 (↑k + 2 - 1)] 3)).alloc (.cells #[.int .i64 S] 3) = W := ⟨_, rfl⟩
  obtain ⟨W, hW⟩ := hw2
  have z1 : W.cell? ⟨w.heap.size, 0, none⟩ = some (.int .i64 (↑k + 2 - 1)) := by rw [← hW]; simp [go_sem]
  have z2 : W.cell? ⟨w.heap.size + 1, 0, none⟩ = some (.int .i64 S) := by rw [← hW]; simp [go_sem]
  have hB : Below w.heap.size w W := by rw [← hW]; exact ((Below.refl _ w).alloc (Nat.le_refl _) _).alloc (by simp) _
  have C1 := Lib.hid (top_in (some ⟨ba, oa, none⟩) (k + 2) ca a k s w.heap.size 0 (w.heap.size + 1) 0 _ _ W (hra.below hB) (by omega) (by omega) hs63 k3 (by omega) hS z1 z2)
  have C2 := Lib.hid (fun m => top_in A2 nb cb b k s w.heap.size 0 (w.heap.size + 1) 0 ((k : Int) + 2 - 1) S (W.drewN m) ((hrb.below hB).drewN m) (by omega) (by omega) hs63 hlb (by omega) hS z1 z2)
  have HB := Lib.hid hB
  have HW := Lib.hid hW
  clear hra hlb z1 z2 hB hW hrb hs e1 k1 k2 k3 hb hc hle h0 hx hS hs63 hlz
  go_enter Tryz.func106, Tryz.ntmps106
  go_wp2_with fail
  refine (HLZ.out _).mono ?_
  rintro e w1 ⟨rfl, rfl⟩
  go_wp2_with fail
  rw [HW.out]
  refine C1.out.mono ?_
  rintro e w2 ⟨rfl, m1, rfl⟩
  go_wp2_with fail
  refine (C2.out _).mono ?_
  rintro e w3 ⟨rfl, m2, rfl⟩
  go_wp2
  go_ret2
  exact ⟨⟨s, H3.out, H2.out, H1.out, rfl⟩, below_drewN HB.out _⟩
end Go.Proofs.YtgiokmfdafmaoaaGreat

/- gcd's less, lower, commonWord, mayBe. -/
namespace Go.Proofs.YtgiokmfdafmaoaaGreat
open Go.RowKit Go.Shelf
set_option linter.unusedVariables false
set_option linter.unusedSimpArgs false

set_option maxRecDepth 100000 in
set_option maxHeartbeats 1000000 in
/-- gcd.mayBe: OK, if all of these numbers may be. -/
theorem mayBeG_any (b off m c : Nat) (ls : List (List Nat)) (w : World) (h : Rows2 w b off ls) (hm : ls.length = m) (hm1 : m ≤ 1000) (hl : ∀ l ∈ ls, l.length ≤ 4294967296) :
    Calls Tryz.prog 65 #[.slice (some ⟨b, off, none⟩) m c] w fun e w' => e = .returned (.int .i64 (bad ls)) ∧ Below w.heap.size w w' := by
  go_enter Tryz.func65, Tryz.ntmps65
  go_wp2
  go_loopw [8] (fun i wr => ∃ k : Nat, k ≤ m ∧ i = .int .i64 (k : Int) ∧ (ls.take k).all may = true ∧ Below w.heap.size w wr) (fun i _ => m - (intOf i).toNat)
  case atStart => exact ⟨0, by omega, rfl, by simp, Below.refl _ _⟩
  case round =>
    obtain ⟨k, hk, rfl, hs, hB⟩ := hrel
    by_cases hlt : k < m
    · obtain ⟨A, n, c', hcell, hr, hn⟩ := h k ls[k] (List.getElem?_eq_getElem (by omega))
      have hcw : wr.cell? ⟨b, off + k, none⟩ = some (.slice A n c') := (hB.cell (p := ⟨b, off + k, none⟩) (lt_of_cell? hcell)).trans hcell
      have hn2 : n ≤ 4294967296 := by rw [← hr.len]; exact hl _ (List.getElem_mem _)
      have hr2 := hr.below hB
      have hnext : (ls.take (k + 1)).all may = ((ls.take k).all may && may ls[k]) := by
        rw [List.take_succ_eq_append_getElem (by omega), List.all_append]; simp
      have hbad : may ls[k] = false → bad ls = 8 := by
        intro hf
        unfold bad
        rw [if_neg]
        intro ha
        have := List.all_eq_true.1 ha ls[k] (List.getElem_mem _)
        rw [hf] at this; cases this
      cases hmk : may ls[k] with
      | true =>
        have HS : Hid ((ls.take (k + 1)).all may = true) := by rw [hnext, hs, hmk]; exact rfl
        have HB0 : Hid (bad [ls[k]] = 0) := bad_zero (by simp [hmk])
        clear hnext hbad hr h hs hmk hl hcell
        go_wp2_with (go_at_call 83; refine (check_any A n c' ls[k] wr hr2 hn2).mono ?_; rw [HB0.out]; rintro e w3 ⟨rfl, hb3⟩)
        go_roundw
        case rel => exact ⟨k + 1, by omega, by go_num, HS.out, below_then hB hb3⟩
        case measure => simp [intOf]; omega
      | false =>
        have HB : Hid (bad ls = 8) := hbad hmk
        have HB0 : Hid (bad [ls[k]] = 8) := bad_eight (by simp [hmk])
        clear hnext hbad hr h hs hmk hl hcell
        go_wp2_with (go_at_call 83; refine (check_any A n c' ls[k] wr hr2 hn2).mono ?_; rw [HB0.out]; rintro e w3 ⟨rfl, hb3⟩)
        go_ret
        exact ⟨by rw [HB.out]; rfl, below_then hB hb3⟩
    · have hk2 : k = m := by omega
      have HB : Hid (bad ls = 0) := by
        show bad ls = 0
        unfold bad
        rw [List.take_of_length_le (by omega)] at hs
        rw [if_pos hs]
      clear h hs hm hl
      go_wp2
      go_ret
      exact ⟨by rw [HB.out]; rfl, hB⟩

set_option maxRecDepth 100000 in
set_option maxHeartbeats 1000000 in
theorem wordG_any (x y : Nat) (hx : x < B64) (hy : y < B64) (w : World) :
    Calls Tryz.prog 86 #[wv x, wv y] w fun e w' => e = .returned (wv (Nat.gcd x y)) ∧ Below w.heap.size w w' := by
  go_enter Tryz.func86, Tryz.ntmps86
  go_wp2
  go_loopw [0, 1] (fun a b wr => ∃ p q : Nat, a = wv p ∧ b = wv q ∧ p < B64 ∧ q < B64 ∧ Nat.gcd p q = Nat.gcd x y ∧ Below w.heap.size w wr) (fun _ b _ => (intOf b).toNat)
  case atStart => exact ⟨x, y, rfl, rfl, hx, hy, rfl, Below.refl _ _⟩
  case round =>
    obtain ⟨p, q, rfl, rfl, hp, hq, hg, hB⟩ := hrel
    by_cases h0 : q = 0
    · subst h0
      rw [Nat.gcd_zero_right] at hg
      subst hg
      clear hp hq hx hy
      go_wp2
      go_ret
      exact ⟨rfl, hB⟩
    · obtain ⟨r, hr⟩ : ∃ r, p % q = r := ⟨_, rfl⟩
      have hrq : r < q := by rw [← hr]; exact Nat.mod_lt _ (by omega)
      have hgq : Nat.gcd q r = Nat.gcd x y := by rw [← hg, ← hr, Nat.gcd_comm q, ← Nat.gcd_rec, Nat.gcd_comm]
      obtain ⟨f1, f2, f3, f4, f5, f6, _, _⟩ := quo_word (x := p) (y := q) hp rfl hr
      have hq0 : (0 : Int) < (q : Int) := by omega
      have hq5 : 0 < q := by omega
      have hq6 : ¬ q = 0 := h0
      have hq1 : ¬ ((q : Int) = 0) := by omega
      have hq2 : ((q : Int) == 0) = false := by simp; omega
      have HG := Lib.hid hgq
      clear hg hgq hr hx hy f1 f2 f5
      go_wp2
      first
        | go_quiet (fail)
        | go_region
      go_wp2
      go_roundw
      case rel => exact ⟨q, r, rfl, rfl, hq, by omega, HG.out, by first | exact below_drewN hB _ | exact hB.drew⟩
      case measure => simp [intOf]; omega


/-- A number told by its highest bits: what is left is less than their place. -/
theorem top_div {l : List Nat} {k s : Nat} (hw : Words l) (hl : l.length ≤ k + 2) (hs : s ≤ 63) : ∃ r, r < B64 ^ k * 2 ^ (64 - s) ∧ val l = topOf l k s * (B64 ^ k * 2 ^ (64 - s)) + r := by
  have h1 := val_take_succ l (k + 1)
  have h2 := val_take_succ l k
  rw [val_take_all (l := l) (k := k + 1 + 1) (by omega)] at h1
  have h3 := val_lt (hw.take k)
  have h4 : B64 ^ (l.take k).length ≤ B64 ^ k := Nat.pow_le_pow_right B64_pos (by rw [List.length_take]; omega)
  have hm := Nat.div_add_mod (lim l k) (2 ^ (64 - s))
  have hr := Nat.mod_lt (lim l k) (Nat.two_pow_pos (64 - s))
  have hB := B64_split (r := s) (by omega)
  unfold topOf
  obtain ⟨x, hx⟩ : ∃ x, lim l (k + 1) = x := ⟨_, rfl⟩
  obtain ⟨y, hy⟩ : ∃ y, lim l k / 2 ^ (64 - s) = y := ⟨_, rfl⟩
  obtain ⟨z, hz⟩ : ∃ z, lim l k % 2 ^ (64 - s) = z := ⟨_, rfl⟩
  rw [hy, hz] at hm
  rw [hz] at hr
  rw [hx] at h1
  rw [hx, hy]
  rw [← hm] at h2
  generalize 2 ^ (64 - s) = P at *
  generalize 2 ^ s = R at *
  refine ⟨val (l.take k) + B64 ^ k * z, ?_, ?_⟩
  · have := Nat.mul_le_mul_left (B64 ^ k) (show z + 1 ≤ P from hr)
    rw [Nat.mul_add, Nat.mul_one] at this
    omega
  · rw [h1, h2, Nat.pow_succ, Nat.add_mul, Nat.mul_add (B64 ^ k) (P * y) z]
    generalize B64 ^ k = Q
    have e1 : Q * B64 * x = x * R * (Q * P) := by
      rw [hB, Nat.mul_comm (Q * (P * R)) x, Nat.mul_comm P R, ← Nat.mul_assoc Q R P, Nat.mul_comm Q R, Nat.mul_assoc R, Nat.mul_assoc x R]
    have e2 : Q * (P * y) = y * (Q * P) := by rw [← Nat.mul_assoc, Nat.mul_comm]
    rw [e1, e2]
    omega

section
variable (A A2 : Option Addr) (na ca nb cb v u : Nat) (w : World)
set_option maxRecDepth 100000 in
set_option maxHeartbeats 1000000 in
/-- gcd.less. -/
theorem lessG_nm (n m : Nat) (hva : Nm w A na ca v) (hub : Nm w A2 nb cb u) (hna : na ≤ 1000) (hnb : nb ≤ 1000) (hn : n < B64) (hm : m < B64) (hle : m * u ≤ n * v) :
    Calls Tryz.prog 108 #[.slice A na ca, wv n, .slice A2 nb cb, wv m] w fun e w' => ∃ A' k c, e = .returned (.slice A' k c) ∧ Own w' w.heap.size (.slice A' k c) (limbs (n * v - m * u)) ∧ Below w.heap.size w w' := by
  have l1 : (limbs n).length ≤ 1 := limbs_length_le (by rw [Nat.pow_one]; exact hn)
  have l2 : (limbs m).length ≤ 1 := limbs_length_le (by rw [Nat.pow_one]; exact hm)
  have HN := Lib.hid hn
  have HM := Lib.hid hm
  have HLE := Lib.hid hle
  have L1 := Lib.hid l1
  have L2 := Lib.hid l2
  clear hn hm hle l1 l2
  go_enter Tryz.func108, Tryz.ntmps108
  go_wp2_with fail
  refine (of_any n _ HN.out).mono ?_
  rintro e w1 ⟨A3, k3, c3, rfl, o3, hb1⟩
  have lk3 : k3 ≤ 1 := by have h1 := o3.rd.2.1; have h2 := L1.out; omega
  go_wp2_with fail
  refine (mul_nm A3 A k3 c3 na ca n v w1 o3.nm (hva.below hb1) (by omega) (by omega)).mono ?_
  rintro e w2 ⟨A4, k4, c4, rfl, o4, hb2⟩
  have lk4 : k4 ≤ k3 + na := by have h1 := o4.rd.2.1; have h2 := mul_len o3.nm (hva.below hb1); omega
  replace hb2 := below_then hb1 hb2
  replace o4 := own_mono o4 hb1.size
  clear hb1 o3
  go_wp2_with fail
  refine (of_any m _ HM.out).mono ?_
  rintro e w3 ⟨A5, k5, c5, rfl, o5, hb3⟩
  have lk5 : k5 ≤ 1 := by have h1 := o5.rd.2.1; have h2 := L2.out; omega
  replace o4 := o4.below hb3
  replace hb3 := below_then hb2 hb3
  clear hb2
  go_wp2_with fail
  refine (mul_nm A5 A2 k5 c5 nb cb m u w3 o5.nm (hub.below hb3) (by omega) (by omega)).mono ?_
  rintro e w4 ⟨A6, k6, c6, rfl, o6, hb4⟩
  have lk6 : k6 ≤ k5 + nb := by have h1 := o6.rd.2.1; have h2 := mul_len o5.nm (hub.below hb3); omega
  replace o4 := o4.below hb4
  replace hb4 := below_then hb3 hb4
  clear hb3 o5
  go_wp2_with fail
  refine (sub_ok A4 A6 k4 c4 k6 c6 (limbs (n * v)) (limbs (m * u)) w4 o4.rd.1 o6.rd.1 (by omega) (by omega) (by simp [may_limbs]) (by rw [val_limbs, val_limbs]; exact HLE.out)).mono ?_
  rw [val_limbs, val_limbs]
  rintro e w5 ⟨A7, k7, c7, rfl, o7, hb5⟩
  replace o7 := own_mono o7 hb4.size
  replace hb5 := below_then hb4 hb5
  clear hb4 o4 o6
  go_wp2
  go_ret
  exact ⟨_, _, _, rfl, o7, hb5⟩
end
end Go.Proofs.YtgiokmfdafmaoaaGreat

/- gcd's lower: some of Euclid's steps. -/
namespace Go.Proofs.YtgiokmfdafmaoaaGreat
open Go.RowKit Go.Shelf
set_option linter.unusedVariables false
set_option linter.unusedSimpArgs false

/-- What stays while lower's answers are made. -/
structure LowK (A A2 : Option Addr) (na ca nb cb v u : Nat) (w : World) : Prop where
  a : Nm w A na ca v
  b : Nm w A2 nb cb u
theorem LowK.below {A A2 : Option Addr} {na ca nb cb v u : Nat} {w w' : World} (h : LowK A A2 na ca nb cb v u w) (hb : Below w.heap.size w w') : LowK A A2 na ca nb cb v u w' := ⟨h.a.below hb, h.b.below hb⟩
theorem LowK.drew {A A2 : Option Addr} {na ca nb cb v u : Nat} {w : World} (h : LowK A A2 na ca nb cb v u w) : LowK A A2 na ca nb cb v u w.drew := h.below (Below.refl _ w).drew
theorem LowK.drewN {A A2 : Option Addr} {na ca nb cb v u : Nat} {w : World} (h : LowK A A2 na ca nb cb v u w) (k : Nat) : LowK A A2 na ca nb cb v u (w.drewN k) := h.below (below_drewN (Below.refl _ w) k)

theorem top_eq {q K r u : Nat} (hK : 0 < K) (hr : r < K) (e : u = q * K + r) : q = u / K := by
  rw [e, Nat.mul_comm, Nat.mul_add_div hK, Nat.div_eq_of_lt hr, Nat.add_zero]
section
variable {A A2 : Option Addr} {na ca nb cb v u : Nat} {w : World}
/-- less of a and b, and what stays; or of b and a. -/
theorem lessG_keep (n m : Nat) (p1 p2 p3 p4 : Addr) (u1 u2 u3 u4 : Value) (hk : LowK A A2 na ca nb cb v u w) (hna : na ≤ 1000) (hnb : nb ≤ 1000) (hn : n < B64) (hm : m < B64) (hle : m * u ≤ n * v)
    (h1 : w.cell? p1 = some u1) (h2 : w.cell? p2 = some u2) (h3 : w.cell? p3 = some u3) (h4 : w.cell? p4 = some u4) :
    Calls Tryz.prog 108 #[.slice A na ca, wv n, .slice A2 nb cb, wv m] w fun e w' => ∃ A' k c, e = .returned (.slice A' k c) ∧ Own w' w.heap.size (.slice A' k c) (limbs (n * v - m * u)) ∧ Below w.heap.size w w' ∧ LowK A A2 na ca nb cb v u w' ∧ w'.cell? p1 = some u1 ∧ w'.cell? p2 = some u2 ∧ w'.cell? p3 = some u3 ∧ w'.cell? p4 = some u4 :=
  (lessG_nm A A2 na ca nb cb v u w n m hk.a hk.b hna hnb hn hm hle).mono fun e w' ⟨A', k, c, he, ho, hb⟩ => ⟨A', k, c, he, ho, hb, hk.below hb, (hb.cell (cell_lt h1)).trans h1, (hb.cell (cell_lt h2)).trans h2, (hb.cell (cell_lt h3)).trans h3, (hb.cell (cell_lt h4)).trans h4⟩
theorem lessG_keep' (n m : Nat) (p1 p2 p3 p4 : Addr) (u1 u2 u3 u4 : Value) (hk : LowK A A2 na ca nb cb v u w) (hna : na ≤ 1000) (hnb : nb ≤ 1000) (hn : n < B64) (hm : m < B64) (hle : m * v ≤ n * u)
    (h1 : w.cell? p1 = some u1) (h2 : w.cell? p2 = some u2) (h3 : w.cell? p3 = some u3) (h4 : w.cell? p4 = some u4) :
    Calls Tryz.prog 108 #[.slice A2 nb cb, wv n, .slice A na ca, wv m] w fun e w' => ∃ A' k c, e = .returned (.slice A' k c) ∧ Own w' w.heap.size (.slice A' k c) (limbs (n * u - m * v)) ∧ Below w.heap.size w w' ∧ LowK A A2 na ca nb cb v u w' ∧ w'.cell? p1 = some u1 ∧ w'.cell? p2 = some u2 ∧ w'.cell? p3 = some u3 ∧ w'.cell? p4 = some u4 :=
  (lessG_nm A2 A nb cb na ca u v w n m hk.b hk.a hnb hna hn hm hle).mono fun e w' ⟨A', k, c, he, ho, hb⟩ => ⟨A', k, c, he, ho, hb, hk.below hb, (hb.cell (cell_lt h1)).trans h1, (hb.cell (cell_lt h2)).trans h2, (hb.cell (cell_lt h3)).trans h3, (hb.cell (cell_lt h4)).trans h4⟩
end

section
variable (A A2 : Option Addr) (na ca nb cb v u : Nat) (w : World)
/-- What lower answers. -/
def LowA (v u na : Nat) (w : World) (e : Ending) (w' : World) : Prop := ∃ (A3 : Option Addr) (k3 c3 : Nat) (A4 : Option Addr) (k4 c4 : Nat) (p q : Nat), e = .returned (.tuple #[.slice A3 k3 c3, .slice A4 k4 c4]) ∧ Nm w' A3 k3 c3 p ∧ Nm w' A4 k4 c4 q ∧ q ≤ p ∧ Nat.gcd p q = Nat.gcd v u ∧ p + q < v + u ∧ k3 ≤ na ∧ k4 ≤ na ∧ Below w.heap.size w w'

set_option maxRecDepth 100000 in
set_option maxHeartbeats 4000000 in
/-- gcd.lower. -/
theorem lower_nm (hva : Nm w A na ca v) (hub : Nm w A2 nb cb u) (hna : na ≤ 1000) (hle : u ≤ v) (h2 : 2 ≤ nb) :
    Calls Tryz.prog 84 #[.slice A na ca, .slice A2 nb cb] w (LowA v u na w) := by
  have hnb : nb ≤ na := by
    have h1 := length_of_le (words_limbs v) (n := u) (by rw [val_limbs]; exact hle)
    rw [hva.rd.len, hub.rd.len] at h1
    exact h1
  obtain ⟨k, rfl⟩ : ∃ k, na = k + 2 := ⟨na - 2, by omega⟩
  have hu0 : u ≠ 0 := fun h => by have := hub.zero.2 h; omega
  have hl0 : lim (limbs v) (k + 1) ≠ 0 := by
    have hne : limbs v ≠ [] := fun h => by have := hva.rd.len; rw [h] at this; simp at this
    have := may_last hne
    rw [hva.rd.len, may_limbs] at this
    simpa using this.symm
  have hlle : lim (limbs u) (k + 1) ≤ lim (limbs v) (k + 1) := by
    rw [lim_val (words_limbs u), lim_val (words_limbs v), val_limbs, val_limbs]
    have hv := hva.lt
    have h1 : v / B64 ^ (k + 1) < B64 := (Nat.div_lt_iff_lt_mul (Nat.pow_pos B64_pos)).2 (by rw [Nat.mul_comm, ← Nat.pow_succ]; exact hv)
    have h3 : u / B64 ^ (k + 1) ≤ v / B64 ^ (k + 1) := Nat.div_le_div_right hle
    rw [Nat.mod_eq_of_lt h1, Nat.mod_eq_of_lt (by omega)]
    exact h3
  have HT := Lib.hid (tops_any A A2 k ca nb cb (limbs v) (limbs u) w hva.rd hub.rd (by omega) (by omega) hl0 hlle)
  have HNB := Lib.hid hnb
  have HLE := Lib.hid hle
  have HU := Lib.hid hu0
  have HD := Lib.hid (fun W (h1 : Nm W A (k + 2) ca v) (h2 : Nm W A2 nb cb u) => div_nm (F := 107) A A2 (k + 2) ca nb cb v u W div_is h1 h2 hu0 hna (by omega))
  have HNA := Lib.hid hna
  clear hnb hle hu0 hl0 hlle h2 hna
  go_enter Tryz.func84, Tryz.ntmps84
  go_wp2_with fail
  refine HT.out.mono ?_
  rintro e w1 ⟨⟨s, hs, hs1, hs2, rfl⟩, hb1⟩
  obtain ⟨r1, hr1, e1⟩ := top_div (words_limbs v) (k := k) (s := s) (by rw [hva.rd.len]; exact Nat.le_refl _) hs
  obtain ⟨r2, hr2, e2⟩ := top_div (words_limbs u) (k := k) (s := s) (by rw [hub.rd.len]; exact HNB.out) hs
  rw [val_limbs] at e1 e2
  have tA : topOf (limbs v) k s < B64 := by
    have hB := B64_split (r := s) (by omega)
    have hy : lim (limbs v) k / 2 ^ (64 - s) < 2 ^ s := by
      rw [Nat.div_lt_iff_lt_mul (Nat.two_pow_pos _), Nat.mul_comm, ← hB]
      exact (words_limbs v).get k
    have := Nat.mul_le_mul_right (2 ^ s) (show lim (limbs v) (k + 1) + 1 ≤ 2 ^ (64 - s) from hs1)
    rw [← hB, Nat.add_mul, Nat.one_mul] at this
    unfold topOf
    omega
  have tB : topOf (limbs u) k s ≤ topOf (limbs v) k s := by
    have hK : 0 < B64 ^ k * 2 ^ (64 - s) := Nat.mul_pos (Nat.pow_pos B64_pos) (Nat.two_pow_pos _)
    have h1 : topOf (limbs u) k s = u / (B64 ^ k * 2 ^ (64 - s)) := by
      exact top_eq hK hr2 e2
    have h2 : topOf (limbs v) k s = v / (B64 ^ k * 2 ^ (64 - s)) := by
      exact top_eq hK hr1 e1
    rw [h1, h2]
    exact Nat.div_le_div_right HLE.out
  obtain ⟨TA, hTA⟩ : ∃ TA, topOf (limbs v) k s = TA := ⟨_, rfl⟩
  obtain ⟨TB, hTB⟩ : ∃ TB, topOf (limbs u) k s = TB := ⟨_, rfl⟩
  obtain ⟨K, hK⟩ : ∃ K, B64 ^ k * 2 ^ (64 - s) = K := ⟨_, rfl⟩
  rw [hTA, hK] at e1
  rw [hTB, hK] at e2
  rw [hK] at hr1 hr2
  rw [hTA] at tA tB
  rw [hTB] at tB
  rw [hTA, hTB]
  have HS := Lib.hid (fun W => sure_any TA TB W tA tB)
  have E1 := Lib.hid e1
  have E2 := Lib.hid e2
  have R1 := Lib.hid hr1
  have R2 := Lib.hid hr2
  replace hva := hva.below hb1
  replace hub := hub.below hb1
  have HTA := Lib.hid tA
  have HTB := Lib.hid tB
  clear hTA hTB hK e1 e2 hr1 hr2 tA tB hs hs1 hs2 HT
  go_wp2_with fail
  refine (HS.out _).mono ?_
  rintro e w2 ⟨t1, x1, y1, t2, x2, y2, o, rfl, hL, hb2⟩
  replace hva := hva.below hb2
  replace hub := hub.below hb2
  replace hb2 := below_then hb1 hb2
  clear hb1
  unfold stp
  have hnb1 : nb ≤ 1000 := by have := HNB.out; have := HNA.out; omega
  by_cases hy0 : y1 = 0
  · subst hy0
    clear hL
    go_wp2_with fail
    refine (HD.out _ ((hva.below ((Below.refl _ w2).alloc (Nat.le_refl _) _))) ((hub.below ((Below.refl _ w2).alloc (Nat.le_refl _) _)))).mono ?_
    rintro e w3 ⟨A3, k3, c3, A4, k4, c4, rfl, o3, o4, hb3⟩
    replace hb3 := below_new hb3
    replace hub := hub.below hb3
    replace hb3 := below_then hb2 hb3
    clear hva hb2 o3
    have hlk : k4 ≤ nb := by
      have h1 := o4.rd.2.1
      have h3 := length_of_le (words_limbs u) (n := v % u) (by rw [val_limbs]; exact Nat.le_of_lt (Nat.mod_lt _ (Nat.pos_of_ne_zero HU.out)))
      rw [hub.rd.len] at h3
      omega
    go_wp2
    go_ret2
    refine ⟨_, _, _, _, _, _, u, v % u, rfl, hub, o4.nm, Nat.le_of_lt (Nat.mod_lt _ (Nat.pos_of_ne_zero HU.out)), ?_, ?_, HNB.out, by have := HNB.out; omega, hb3⟩
    · rw [Nat.gcd_comm u, ← Nat.gcd_rec, Nat.gcd_comm]
    · have h1 := Nat.mod_lt v (Nat.pos_of_ne_zero HU.out)
      have h2 := HLE.out
      omega
  · obtain ⟨r1, r2, hr21, ea, eb, y1p, y2p, hE⟩ := hL.real hy0 E1.out E2.out R1.out R2.out
    have hgcd := Lm.gcd ea eb hE
    have hless := Lm.less (x1 := 0) (x2 := 0) (b := 0) ea y1p y2p
    have hbd : x1 < B64 ∧ y1 < B64 ∧ x2 < B64 ∧ y2 < B64 := by
      have h1 := hL.sa
      have h3 := Nat.mul_le_mul_right t1 y2p
      have h4 := HTA.out
      rcases hL.so with ⟨a, _⟩ | ⟨a, b, c, d⟩
      · exact absurd a hy0
      · have := hL.xy
        omega
    have hyt : ((y1 : Int) == 0) = false := by simp; omega
    have HG := Lib.hid hgcd
    have HLS := Lib.hid hless
    have HR := Lib.hid hr21
    have HB1 := Lib.hid hbd
    have HB2 := Lib.hid hb2
    have HK := Lib.hid (LowK.mk hva hub |>.below ((Below.refl _ w2).alloc (Nat.le_refl _) (.cells #[u64 t1, u64 x1, u64 y1, u64 t2, u64 x2, u64 y2, .bool o] 116)))
    have ha1 : r1 ≤ v := by omega
    have ha2 : r2 ≤ v := by omega
    have HA1 := Lib.hid ha1
    have HA2 := Lib.hid ha2
    have zh := World.alloc_heap_new w2 (.cells #[u64 t1, u64 x1, u64 y1, u64 t2, u64 x2, u64 y2, .bool o] 116)
    have Z1 := Lib.hid (cells_cell zh (j := 1) rfl)
    have Z2 := Lib.hid (cells_cell zh (j := 2) rfl)
    have Z3 := Lib.hid (cells_cell zh (j := 4) rfl)
    have Z4 := Lib.hid (cells_cell zh (j := 5) rfl)
    clear zh
    have HV := Lib.hid hva
    clear hL hgcd hless hr21 hbd hb2 hva hub ea eb y1p y2p ha1 ha2
    cases o with
    | false =>
      simp only [Bool.false_eq_true, if_false] at hE
      have q1 : y1 * u ≤ x1 * v ∧ x2 * v ≤ y2 * u := by omega
      have v1 : x1 * v - y1 * u = r1 ∧ y2 * u - x2 * v = r2 := by omega
      have HE := Lib.hid q1
      have HV1 := Lib.hid v1
      clear hE q1 v1
      go_wp2
      go_region_held3 (fun w' => w'.cell? ⟨w2.heap.size, 1, none⟩ = some (u64 x1) ∧ w'.cell? ⟨w2.heap.size, 2, none⟩ = some (u64 y1) ∧ w'.cell? ⟨w2.heap.size, 4, none⟩ = some (u64 x2) ∧ w'.cell? ⟨w2.heap.size, 5, none⟩ = some (u64 y2)) (go_keep)
        (first
          | (go_at_call_of 108 (u64 x1); refine (lessG_keep (v := v) (u := u) x1 y1 ⟨w2.heap.size, 1, none⟩ ⟨w2.heap.size, 2, none⟩ ⟨w2.heap.size, 4, none⟩ ⟨w2.heap.size, 5, none⟩ (u64 x1) (u64 y1) (u64 x2) (u64 y2) ?_ HNA.out hnb1 ?_ ?_ ?_ ?_ ?_ ?_ ?_).mono ?_; (first | exact HK.out.drew | exact HK.out.drewN _ | assumption); (exact HB1.out.1); (exact HB1.out.2.1); (exact HE.out.1); (first | exact Z1.out | assumption); (first | exact Z2.out | assumption); (first | exact Z3.out | assumption); (first | exact Z4.out | assumption); rintro e w4 ⟨A4, k4, c4, rfl, o4, hb4, hk4, s1, s2, s3, s4⟩)
          | (go_at_call_of 108 (u64 y2); refine (lessG_keep' (v := v) (u := u) y2 x2 ⟨w2.heap.size, 1, none⟩ ⟨w2.heap.size, 2, none⟩ ⟨w2.heap.size, 4, none⟩ ⟨w2.heap.size, 5, none⟩ (u64 x1) (u64 y1) (u64 x2) (u64 y2) ?_ HNA.out hnb1 ?_ ?_ ?_ ?_ ?_ ?_ ?_).mono ?_; (first | exact HK.out.drew | exact HK.out.drewN _ | assumption); (exact HB1.out.2.2.2); (exact HB1.out.2.2.1); (exact HE.out.2); (first | exact Z1.out | assumption); (first | exact Z2.out | assumption); (first | exact Z3.out | assumption); (first | exact Z4.out | assumption); rintro e w5 ⟨A5, k5, c5, rfl, o5, hb5, hk5, s5, s6, s7, s8⟩))
      all_goals
        have b0 : Below w.heap.size w (w2.alloc (.cells #[u64 t1, u64 x1, u64 y1, u64 t2, u64 x2, u64 y2, .bool false] 116)).drew := (HB2.out.alloc HB2.out.size _).drew
        have b1 := below_then (below_then b0 hb4) hb5
        have ow4 := o4.below hb5
        rw [HV1.out.1] at ow4
        rw [HV1.out.2] at o5
        have k4l := length_of_le (words_limbs v) (n := r1) (by rw [val_limbs]; exact HA1.out)
        have k5l := length_of_le (words_limbs v) (n := r2) (by rw [val_limbs]; exact HA2.out)
        rw [HV.out.rd.len] at k4l k5l
        have k4e := ow4.rd.2.1
        have k5e := o5.rd.2.1
        have hup := Nat.pos_of_ne_zero HU.out
        clear hb4 hb5 o4 b0 hk4 hk5 s1 s2 s3 s4 s5 s6 s7 s8
        have K4 := Lib.hid k4l
        have K5 := Lib.hid k5l
        have L4 := Lib.hid k4e
        have L5 := Lib.hid k5e
        clear k4l k5l k4e k5e
        go_wp2
        go_ret2
        refine ⟨_, _, _, _, _, _, r1, r2, rfl, ow4.nm, o5.nm, HR.out, HG.out, ?_, ?_, ?_, b1⟩
        · have := HLS.out; omega
        · have := K4.out; have := L4.out; omega
        · have := K5.out; have := L5.out; omega

    | true =>
      simp only [if_true] at hE
      have q1 : x1 * v ≤ y1 * u ∧ y2 * u ≤ x2 * v := by omega
      have v1 : y1 * u - x1 * v = r1 ∧ x2 * v - y2 * u = r2 := by omega
      have HE := Lib.hid q1
      have HV1 := Lib.hid v1
      clear hE q1 v1
      go_wp2
      go_region_held3 (fun w' => w'.cell? ⟨w2.heap.size, 1, none⟩ = some (u64 x1) ∧ w'.cell? ⟨w2.heap.size, 2, none⟩ = some (u64 y1) ∧ w'.cell? ⟨w2.heap.size, 4, none⟩ = some (u64 x2) ∧ w'.cell? ⟨w2.heap.size, 5, none⟩ = some (u64 y2)) (go_keep)
        (first
          | (go_at_call_of 108 (u64 y1); refine (lessG_keep' (v := v) (u := u) y1 x1 ⟨w2.heap.size, 1, none⟩ ⟨w2.heap.size, 2, none⟩ ⟨w2.heap.size, 4, none⟩ ⟨w2.heap.size, 5, none⟩ (u64 x1) (u64 y1) (u64 x2) (u64 y2) ?_ HNA.out hnb1 ?_ ?_ ?_ ?_ ?_ ?_ ?_).mono ?_; (first | exact HK.out.drew | exact HK.out.drewN _ | assumption); (exact HB1.out.2.1); (exact HB1.out.1); (exact HE.out.1); (first | exact Z1.out | assumption); (first | exact Z2.out | assumption); (first | exact Z3.out | assumption); (first | exact Z4.out | assumption); rintro e w4 ⟨A4, k4, c4, rfl, o4, hb4, hk4, s1, s2, s3, s4⟩)
          | (go_at_call_of 108 (u64 x2); refine (lessG_keep (v := v) (u := u) x2 y2 ⟨w2.heap.size, 1, none⟩ ⟨w2.heap.size, 2, none⟩ ⟨w2.heap.size, 4, none⟩ ⟨w2.heap.size, 5, none⟩ (u64 x1) (u64 y1) (u64 x2) (u64 y2) ?_ HNA.out hnb1 ?_ ?_ ?_ ?_ ?_ ?_ ?_).mono ?_; (first | exact HK.out.drew | exact HK.out.drewN _ | assumption); (exact HB1.out.2.2.1); (exact HB1.out.2.2.2); (exact HE.out.2); (first | exact Z1.out | assumption); (first | exact Z2.out | assumption); (first | exact Z3.out | assumption); (first | exact Z4.out | assumption); rintro e w5 ⟨A5, k5, c5, rfl, o5, hb5, hk5, s5, s6, s7, s8⟩))
      all_goals
        have b0 : Below w.heap.size w (w2.alloc (.cells #[u64 t1, u64 x1, u64 y1, u64 t2, u64 x2, u64 y2, .bool true] 116)).drew := (HB2.out.alloc HB2.out.size _).drew
        have b1 := below_then (below_then b0 hb4) hb5
        have ow4 := o4.below hb5
        rw [HV1.out.1] at ow4
        rw [HV1.out.2] at o5
        have k4l := length_of_le (words_limbs v) (n := r1) (by rw [val_limbs]; exact HA1.out)
        have k5l := length_of_le (words_limbs v) (n := r2) (by rw [val_limbs]; exact HA2.out)
        rw [HV.out.rd.len] at k4l k5l
        have k4e := ow4.rd.2.1
        have k5e := o5.rd.2.1
        have hup := Nat.pos_of_ne_zero HU.out
        clear hb4 hb5 o4 b0 hk4 hk5 s1 s2 s3 s4 s5 s6 s7 s8
        have K4 := Lib.hid k4l
        have K5 := Lib.hid k5l
        have L4 := Lib.hid k4e
        have L5 := Lib.hid k5e
        clear k4l k5l k4e k5e
        go_wp2
        go_ret2
        refine ⟨_, _, _, _, _, _, r1, r2, rfl, ow4.nm, o5.nm, HR.out, HG.out, ?_, ?_, ?_, b1⟩
        · have := HLS.out; omega
        · have := K4.out; have := L4.out; omega
        · have := K5.out; have := L5.out; omega

end
end Go.Proofs.YtgiokmfdafmaoaaGreat

/- gcd's common, Gcd and Lcm: greatest common divisors and least common multiples, as they landed. -/
namespace Go.Proofs.YtgiokmfdafmaoaaGreat
open Go.RowKit Go.Shelf
set_option linter.unusedVariables false
set_option linter.unusedSimpArgs false

section
variable (A A2 : Option Addr) (na ca nb cb v u : Nat) (w : World)

/-- common, behind its first test. -/
def ComA (v u : Nat) (w : World) (e : Ending) (w' : World) : Prop := ∃ (A3 : Option Addr) (k3 c3 : Nat), e = .returned (.slice A3 k3 c3) ∧ Own w' w.heap.size (.slice A3 k3 c3) (limbs (Nat.gcd v u)) ∧ Below w.heap.size w w'

set_option maxRecDepth 100000 in
set_option maxHeartbeats 4000000 in
/-- gcd.common. -/
theorem common_nm (hva : Nm w A na ca v) (hub : Nm w A2 nb cb u) (hna : na ≤ 1000) (hnb : nb ≤ 1000) :
    Calls Tryz.prog 66 #[.slice A na ca, .slice A2 nb cb] w (ComA v u w) := by
  have HC := Lib.hid (cmp_nm A A2 na ca nb cb v u w hva hub hna hnb)
  by_cases hlt : v < u
  · rw [cmp3_lt hlt] at HC
    go_enter Tryz.func66, Tryz.ntmps66
    go_wp2_with fail
    refine HC.out.mono ?_
    rintro e w1 ⟨rfl, hb1⟩
    replace hva := hva.below hb1
    replace hub := hub.below hb1
    clear HC
    go_wp2
    go_loopw [0, 1] (fun a b wr => ∃ (p q : Nat) (A3 : Option Addr) (n3 c3 : Nat) (A4 : Option Addr) (n4 c4 : Nat), a = .slice A3 n3 c3 ∧ b = .slice A4 n4 c4 ∧ Nm wr A3 n3 c3 p ∧ Nm wr A4 n4 c4 q ∧ q ≤ p ∧ n3 ≤ 1000 ∧ n4 ≤ 1000 ∧ Nat.gcd p q = Nat.gcd v u ∧ Below w.heap.size w wr) (fun a b wr => numOf wr a + numOf wr b)
    case atStart => exact ⟨u, v, A2, nb, cb, A, na, ca, rfl, rfl, hub, hva, by omega, hnb, hna, Nat.gcd_comm _ _, hb1⟩
    case round =>
      clear hva hub hb1 hna hnb
      obtain ⟨p, q, A3, n3, c3, A4, n4, c4, rfl, rfl, hp, hq, hqp, l3, l4, hg, hB⟩ := hrel
      by_cases h1 : 1 < n4
      · have hd : decide ((1 : Int) < (n4 : Int)) = true := by simp; omega
        have HLW := Lib.hid (lower_nm A3 A4 n3 c3 n4 c4 p q wr hp hq l3 hqp (by omega))
        have hm0 : numOf wr (.slice A3 n3 c3) + numOf wr (.slice A4 n4 c4) = p + q := by rw [numOf_is hp, numOf_is hq]
        have HM := Lib.hid hm0
        have HG := Lib.hid hg
        clear hm0 hg hp hq hqp
        go_wp2_with fail
        refine HLW.out.mono ?_
        rintro e w2 ⟨A5, k5, c5, A6, k6, c6, p2, q2, rfl, hp2, hq2, hqp2, hg2, hls, hk5, hk6, hb2⟩
        replace hb2 := below_then hB hb2
        have HLS := Lib.hid hls
        have HK := Lib.hid (And.intro hk5 hk6)
        have HG2 := Lib.hid hg2
        have L3 := Lib.hid l3
        clear hls hk5 hk6 hB hg2 l3 l4 h1 hd
        go_wp2_with fail
        go_roundw
        case rel => exact ⟨p2, q2, A5, k5, c5, A6, k6, c6, rfl, rfl, hp2, hq2, hqp2, by have := HK.out; have := L3.out; omega, by have := HK.out; have := L3.out; omega, HG2.out.trans HG.out, hb2⟩
        case measure =>
          rw [HM.out, numOf_is hp2, numOf_is hq2]
          exact HLS.out
      · by_cases h0 : n4 = 0
        · subst h0
          have hq0 : q = 0 := hq.zero.1 rfl
          subst hq0
          rw [Nat.gcd_zero_right] at hg
          subst hg
          have HCL := Lib.hid (clone_any A3 n3 c3 _ wr hp.rd l3)
          clear hp hq hqp h1
          go_wp2_with fail
          refine HCL.out.mono ?_
          rintro e w2 ⟨A5, k5, c5, rfl, o5, hb2⟩
          replace o5 := own_mono o5 hB.size
          replace hb2 := below_then hB hb2
          clear HCL hB
          go_wp2
          go_ret
          exact ⟨_, _, _, rfl, o5, hb2⟩
        · obtain rfl : n4 = 1 := by omega
          obtain ⟨x, hx⟩ := one_limb hq.rd.len
          have hqx : q = x := by rw [← val_limbs q, hx]; simp [val]
          subst hqx
          have hqw : q < B64 := by have := (words_limbs q); rw [hx] at this; exact this.head
          have hq0 : q ≠ 0 := fun h => by have := hq.zero.2 h; omega
          obtain ⟨b4, o4, rfl, hl4, hc4⟩ := hq.rd.cells (by omega)
          have hc := hc4 0 (by omega)
          rw [Nat.add_zero, hx, show lim [q] 0 = q from rfl] at hc
          have hw := word_is A3 n3 c3 (limbs p) q wr hp.rd hqw l3 ⟨hp.nc, hp.cm⟩
          have hE : divE (limbs p) (limbs q) = 0 := divE_ok (may_limbs p) (may_limbs q) (fun h => hq0 (limbs_eq_nil.1 h))
          rw [quoL_ok hE, remL_ok hE, hE, val_limbs, val_limbs, val_limbs] at hw
          have HW := Lib.hid hw
          have hmw : p % q < B64 := Nat.lt_trans (Nat.mod_lt _ (Nat.pos_of_ne_zero hq0)) hqw
          have hgg : Nat.gcd q (p % q) = Nat.gcd v u := by rw [← hg, Nat.gcd_comm p q, Nat.gcd_comm q (p % q), ← Nat.gcd_rec]
          have hgw : Nat.gcd q (p % q) < B64 := Nat.lt_of_le_of_lt (Nat.gcd_le_left _ (Nat.pos_of_ne_zero hq0)) hqw
          obtain ⟨r, hr⟩ : ∃ r, p % q = r := ⟨_, rfl⟩
          rw [hr] at hmw hgg hgw HW
          have HCW := Lib.hid (fun W => wordG_any q r hqw hmw W)
          rw [hgg] at HCW hgw
          have HOF := Lib.hid (fun W => of_any (Nat.gcd v u) W hgw)
          clear hw hE hmw hgg hgw hr hqw hq0 hc4 hx hp hq hqp hg h0 h1
          go_wp2_with fail
          refine HW.out.mono ?_
          rintro e w2 ⟨A5, k5, c5, rfl, o5, hb2⟩
          have hcw : w2.cell? ⟨b4, o4, none⟩ = some (u64 q) := (hb2.cell (cell_lt hc)).trans hc
          replace hb2 := below_then hB hb2
          clear HW hB o5 hc
          go_wp2_with fail
          refine (HCW.out _).mono ?_
          rintro e w3 ⟨rfl, hb3⟩
          replace hb3 := below_then hb2 hb3
          clear hb2 hcw
          go_wp2_with fail
          refine (HOF.out _).mono ?_
          rintro e w4 ⟨A6, k6, c6, rfl, o6, hb4⟩
          replace o6 := own_mono o6 hb3.size
          replace hb4 := below_then hb3 hb4
          clear hb3
          go_wp2
          go_ret
          exact ⟨_, _, _, rfl, o6, hb4⟩
  · obtain ⟨c, hc, hc0⟩ : ∃ c : Int, cmp3 v u = c ∧ ¬ c < 0 := ⟨_, rfl, by unfold cmp3; split <;> (try split) <;> omega⟩
    rw [hc] at HC
    clear hc
    have hcd : decide (c < 0) = false := by simp; omega
    go_enter Tryz.func66, Tryz.ntmps66
    go_wp2_with fail
    refine HC.out.mono ?_
    rintro e w1 ⟨rfl, hb1⟩
    replace hva := hva.below hb1
    replace hub := hub.below hb1
    clear HC
    go_wp2
    go_loopw [0, 1] (fun a b wr => ∃ (p q : Nat) (A3 : Option Addr) (n3 c3 : Nat) (A4 : Option Addr) (n4 c4 : Nat), a = .slice A3 n3 c3 ∧ b = .slice A4 n4 c4 ∧ Nm wr A3 n3 c3 p ∧ Nm wr A4 n4 c4 q ∧ q ≤ p ∧ n3 ≤ 1000 ∧ n4 ≤ 1000 ∧ Nat.gcd p q = Nat.gcd v u ∧ Below w.heap.size w wr) (fun a b wr => numOf wr a + numOf wr b)
    case atStart => exact ⟨v, u, A, na, ca, A2, nb, cb, rfl, rfl, hva, hub, by omega, hna, hnb, rfl, hb1⟩
    case round =>
      clear hva hub hb1 hna hnb
      obtain ⟨p, q, A3, n3, c3, A4, n4, c4, rfl, rfl, hp, hq, hqp, l3, l4, hg, hB⟩ := hrel
      by_cases h1 : 1 < n4
      · have hd : decide ((1 : Int) < (n4 : Int)) = true := by simp; omega
        have HLW := Lib.hid (lower_nm A3 A4 n3 c3 n4 c4 p q wr hp hq l3 hqp (by omega))
        have hm0 : numOf wr (.slice A3 n3 c3) + numOf wr (.slice A4 n4 c4) = p + q := by rw [numOf_is hp, numOf_is hq]
        have HM := Lib.hid hm0
        have HG := Lib.hid hg
        clear hm0 hg hp hq hqp
        go_wp2_with fail
        refine HLW.out.mono ?_
        rintro e w2 ⟨A5, k5, c5, A6, k6, c6, p2, q2, rfl, hp2, hq2, hqp2, hg2, hls, hk5, hk6, hb2⟩
        replace hb2 := below_then hB hb2
        have HLS := Lib.hid hls
        have HK := Lib.hid (And.intro hk5 hk6)
        have HG2 := Lib.hid hg2
        have L3 := Lib.hid l3
        clear hls hk5 hk6 hB hg2 l3 l4 h1 hd
        go_wp2_with fail
        go_roundw
        case rel => exact ⟨p2, q2, A5, k5, c5, A6, k6, c6, rfl, rfl, hp2, hq2, hqp2, by have := HK.out; have := L3.out; omega, by have := HK.out; have := L3.out; omega, HG2.out.trans HG.out, hb2⟩
        case measure =>
          rw [HM.out, numOf_is hp2, numOf_is hq2]
          exact HLS.out
      · by_cases h0 : n4 = 0
        · subst h0
          have hq0 : q = 0 := hq.zero.1 rfl
          subst hq0
          rw [Nat.gcd_zero_right] at hg
          subst hg
          have HCL := Lib.hid (clone_any A3 n3 c3 _ wr hp.rd l3)
          clear hp hq hqp h1
          go_wp2_with fail
          refine HCL.out.mono ?_
          rintro e w2 ⟨A5, k5, c5, rfl, o5, hb2⟩
          replace o5 := own_mono o5 hB.size
          replace hb2 := below_then hB hb2
          clear HCL hB
          go_wp2
          go_ret
          exact ⟨_, _, _, rfl, o5, hb2⟩
        · obtain rfl : n4 = 1 := by omega
          obtain ⟨x, hx⟩ := one_limb hq.rd.len
          have hqx : q = x := by rw [← val_limbs q, hx]; simp [val]
          subst hqx
          have hqw : q < B64 := by have := (words_limbs q); rw [hx] at this; exact this.head
          have hq0 : q ≠ 0 := fun h => by have := hq.zero.2 h; omega
          obtain ⟨b4, o4, rfl, hl4, hc4⟩ := hq.rd.cells (by omega)
          have hc := hc4 0 (by omega)
          rw [Nat.add_zero, hx, show lim [q] 0 = q from rfl] at hc
          have hw := word_is A3 n3 c3 (limbs p) q wr hp.rd hqw l3 ⟨hp.nc, hp.cm⟩
          have hE : divE (limbs p) (limbs q) = 0 := divE_ok (may_limbs p) (may_limbs q) (fun h => hq0 (limbs_eq_nil.1 h))
          rw [quoL_ok hE, remL_ok hE, hE, val_limbs, val_limbs, val_limbs] at hw
          have HW := Lib.hid hw
          have hmw : p % q < B64 := Nat.lt_trans (Nat.mod_lt _ (Nat.pos_of_ne_zero hq0)) hqw
          have hgg : Nat.gcd q (p % q) = Nat.gcd v u := by rw [← hg, Nat.gcd_comm p q, Nat.gcd_comm q (p % q), ← Nat.gcd_rec]
          have hgw : Nat.gcd q (p % q) < B64 := Nat.lt_of_le_of_lt (Nat.gcd_le_left _ (Nat.pos_of_ne_zero hq0)) hqw
          obtain ⟨r, hr⟩ : ∃ r, p % q = r := ⟨_, rfl⟩
          rw [hr] at hmw hgg hgw HW
          have HCW := Lib.hid (fun W => wordG_any q r hqw hmw W)
          rw [hgg] at HCW hgw
          have HOF := Lib.hid (fun W => of_any (Nat.gcd v u) W hgw)
          clear hw hE hmw hgg hgw hr hqw hq0 hc4 hx hp hq hqp hg h0 h1
          go_wp2_with fail
          refine HW.out.mono ?_
          rintro e w2 ⟨A5, k5, c5, rfl, o5, hb2⟩
          have hcw : w2.cell? ⟨b4, o4, none⟩ = some (u64 q) := (hb2.cell (cell_lt hc)).trans hc
          replace hb2 := below_then hB hb2
          clear HW hB o5 hc
          go_wp2_with fail
          refine (HCW.out _).mono ?_
          rintro e w3 ⟨rfl, hb3⟩
          replace hb3 := below_then hb2 hb3
          clear hb2 hcw
          go_wp2_with fail
          refine (HOF.out _).mono ?_
          rintro e w4 ⟨A6, k6, c6, rfl, o6, hb4⟩
          replace o6 := own_mono o6 hb3.size
          replace hb4 := below_then hb3 hb4
          clear hb3
          go_wp2
          go_ret
          exact ⟨_, _, _, rfl, o6, hb4⟩
end

theorem two_lens {a b : List Nat} {na nb : Nat} (h1 : a.length = na) (h2 : b.length = nb) (h3 : na ≤ 1000) (h4 : nb ≤ 1000) : ∀ l ∈ [a, b], l.length ≤ 4294967296 := by
  intro l h
  rcases List.mem_cons.1 h with rfl | h
  · omega
  · rcases List.mem_cons.1 h with rfl | h
    · omega
    · cases h

set_option maxRecDepth 100000 in
set_option maxHeartbeats 1000000 in
theorem gcd_is : GcdIs 35 := fun A A2 na ca nb cb a b w hra hrb hna hnb hca hcb => by
  have HR := Lib.hid (rows2_two (ca := ca) (cb := cb) hra hrb (by omega) (by omega) 23)
  have HL := Lib.hid (two_lens hra.len hrb.len (by omega) (by omega))
  cases hm : both a b with
  | false =>
    have e1 : gcdL a b = [] := by simp [gcdL, hm]
    have e2 : err2 a b = 8 := by simp [err2, hm]
    have HM := Lib.hid (show [a, b].all may = false by rw [both_all]; exact hm)
    rw [e1, e2]
    clear hra hrb e1 e2 hm
    go_enter Tryz.func35, Tryz.ntmps35
    go_wp2_with fail
    refine (mayBeG_any w.heap.size 0 2 2 [a, b] _ HR.out rfl (by omega) HL.out).mono ?_
    rw [bad_eight HM.out]
    rintro e w1 ⟨rfl, hb1⟩
    replace hb1 := below_new hb1
    clear HR HL
    go_wp2
    go_ret2
    exact answers_nil hb1
  | true =>
    have e1 : gcdL a b = limbs (Nat.gcd (val a) (val b)) := by simp [gcdL, hm]
    have e2 : err2 a b = 0 := by simp [err2, hm]
    have hmm : may a = true ∧ may b = true := by simpa [both] using hm
    have HM := Lib.hid (show [a, b].all may = true by rw [both_all]; exact hm)
    have hva := nm_of hra hmm.1 hca.1 hca.2
    have hub := nm_of hrb hmm.2 hcb.1 hcb.2
    rw [e1, e2]
    clear hra hrb e1 e2 hm hmm
    go_enter Tryz.func35, Tryz.ntmps35
    go_wp2_with fail
    refine (mayBeG_any w.heap.size 0 2 2 [a, b] _ HR.out rfl (by omega) HL.out).mono ?_
    rw [bad_zero HM.out]
    rintro e w1 ⟨rfl, hb1⟩
    replace hb1 := below_new hb1
    replace hva := hva.below hb1
    replace hub := hub.below hb1
    clear HR HL
    go_wp2_with fail
    refine (common_nm A A2 na ca nb cb (val a) (val b) w1 hva hub (by omega) (by omega)).mono ?_
    rintro e w2 ⟨A3, k3, c3, rfl, o3, hb2⟩
    replace o3 := own_mono o3 hb1.size
    replace hb2 := below_then hb1 hb2
    clear hb1
    go_wp2
    go_ret2
    exact ⟨_, _, _, rfl, o3, hb2⟩

end Go.Proofs.YtgiokmfdafmaoaaGreat
