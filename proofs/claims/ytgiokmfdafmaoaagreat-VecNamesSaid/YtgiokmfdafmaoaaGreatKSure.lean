import Derived.Test.YtgiokmfdafmaoaaGreatKNum
import Derived.Test.YtgiokmfdafmaoaaGreatKDLimb
import Derived.Test.YtgiokmfdafmaoaaGreatKRowL
import Derived.Deep.QuietTactic
import Derived.BigQuiet
/- Lehmer Sure. -/
/- Euclid's steps on the highest bits (Lehmer, Collins): what sureSteps keeps, and what it gives. -/
namespace Go.Proofs.YtgiokmfdafmaoaaGreat
set_option linter.unusedVariables false

/-- The numbers of steps: tops t1, t2, with their shares (x1, y1), (x2, y2) of A and B; o: odd. -/
structure Lm (A B t1 x1 y1 t2 x2 y2 : Nat) (o : Bool) : Prop where
  det : if o then x2 * y1 = x1 * y2 + 1 else x1 * y2 = x2 * y1 + 1
  one : if o then t1 + x1 * A = y1 * B else t1 + y1 * B = x1 * A
  two : if o then t2 + y2 * B = x2 * A else t2 + x2 * A = y2 * B
  sa : y2 * t1 + y1 * t2 = A
  sb : x2 * t1 + x1 * t2 = B
  xy : x2 ≤ y2
  y2p : 1 ≤ y2
  le : t2 ≤ t1
  so : (y1 = 0 ∧ o = false ∧ x1 = 1 ∧ x2 = 0 ∧ y2 = 1 ∧ t1 = A ∧ t2 = B) ∨ (1 ≤ y1 ∧ x1 ≤ y1 ∧ y2 ≤ t2 ∧ y1 + y2 + t2 ≤ t1)

theorem Lm.start {A B : Nat} (h : B ≤ A) : Lm A B A 1 0 B 0 1 false :=
  ⟨by simp, by simp, by simp, by simp, by simp, by omega, by omega, h, .inl ⟨rfl, rfl, rfl, rfl, rfl, rfl, rfl⟩⟩

theorem Lm.next {A B t1 x1 y1 t2 x2 y2 t3 q : Nat} {o : Bool} (h : Lm A B t1 x1 y1 t2 x2 y2 o) (hq : q * t2 + t3 = t1) (hlt : t3 < t2) (h1 : y1 + q * y2 ≤ t3) (h2 : y2 + (y1 + q * y2) ≤ t2 - t3) :
    Lm A B t2 x2 y2 t3 (x1 + q * x2) (y1 + q * y2) (!o) := by
  have q1 : 1 ≤ q := by
    rcases Nat.eq_zero_or_pos q with hz | hp
    · subst hz
      have := h.le
      omega
    · exact hp
  have e1 : q * (y2 * t2) = y2 * (q * t2) := Nat.mul_left_comm _ _ _
  have e2 : q * (x2 * t2) = x2 * (q * t2) := Nat.mul_left_comm _ _ _
  have hA := h.sa
  have hB := h.sb
  rw [← hq, Nat.mul_add] at hA hB
  have hxq : q * x2 ≤ q * y2 := Nat.mul_le_mul_left q h.xy
  refine ⟨?_, ?_, ?_, ?_, ?_, ?_, ?_, by omega, ?_⟩
  · have hd := h.det
    cases o with
    | false =>
      simp only [Bool.not_false, if_true, Bool.false_eq_true, if_false] at hd ⊢
      rw [Nat.add_mul, Nat.mul_add, hd, Nat.mul_assoc, Nat.mul_left_comm x2 q y2]
      omega
    | true =>
      simp only [Bool.not_true, if_true, Bool.false_eq_true, if_false] at hd ⊢
      rw [Nat.add_mul, Nat.mul_add, hd, Nat.mul_assoc, Nat.mul_left_comm x2 q y2]
      omega
  · have hd := h.two
    cases o <;> simpa using hd
  · have h1' := h.one
    have h2' := h.two
    cases o with
    | false =>
      simp only [Bool.not_false, if_true, Bool.false_eq_true, if_false] at h1' h2' ⊢
      have ht := congrArg (q * ·) h2'
      simp only [Nat.mul_add] at ht
      rw [Nat.add_mul, Nat.add_mul, Nat.mul_assoc, Nat.mul_assoc]
      omega
    | true =>
      simp only [Bool.not_true, if_true, Bool.false_eq_true, if_false] at h1' h2' ⊢
      have ht := congrArg (q * ·) h2'
      simp only [Nat.mul_add] at ht
      rw [Nat.add_mul, Nat.add_mul, Nat.mul_assoc, Nat.mul_assoc]
      omega
  · rw [Nat.add_mul, Nat.mul_assoc, e1]
    omega
  · rw [Nat.add_mul, Nat.mul_assoc, e2]
    omega
  · have hx : x1 ≤ y1 + q * y2 - q * x2 := by
      rcases h.so with ⟨a, b, c, d, e, _⟩ | ⟨a, b, _⟩
      · subst a; subst c; subst d; subst e
        omega
      · omega
    omega
  · have : 1 * 1 ≤ q * y2 := Nat.mul_le_mul q1 h.y2p
    omega
  · refine .inr ⟨h.y2p, h.xy, h1, by omega⟩

/-- left's sums stay below the tops: no overflow. -/
theorem Lm.fits {A B t1 x1 y1 t2 x2 y2 : Nat} {o : Bool} (h : Lm A B t1 x1 y1 t2 x2 y2 o) (ht : 0 < t2) : y1 + t1 / t2 * y2 ≤ A ∧ x1 + t1 / t2 * x2 ≤ B := by
  have hq := Nat.div_mul_le_self t1 t2
  have hA := h.sa
  have hB := h.sb
  have e1 : (t1 / t2 * y2) * t2 ≤ y2 * t1 := by
    rw [Nat.mul_comm (t1 / t2) y2, Nat.mul_assoc]
    exact Nat.mul_le_mul_left _ hq
  have e2 : (t1 / t2 * x2) * t2 ≤ x2 * t1 := by
    rw [Nat.mul_comm (t1 / t2) x2, Nat.mul_assoc]
    exact Nat.mul_le_mul_left _ hq
  constructor
  · have : (y1 + t1 / t2 * y2) * t2 ≤ A := by rw [Nat.add_mul]; omega
    exact Nat.le_trans (Nat.le_mul_of_pos_right _ ht) this
  · have : (x1 + t1 / t2 * x2) * t2 ≤ B := by rw [Nat.add_mul]; omega
    exact Nat.le_trans (Nat.le_mul_of_pos_right _ ht) this
theorem Lm.small {A B t1 x1 y1 t2 x2 y2 : Nat} {o : Bool} (h : Lm A B t1 x1 y1 t2 x2 y2 o) (ht : 0 < t2) (hA : A < 18446744073709551616) (h1 : y1 + t1 / t2 * y2 ≤ t1 % t2) : y1 + t1 / t2 * y2 < 4294967296 := by
  have hq := Nat.div_mul_le_self t1 t2
  have hA2 := h.sa
  have e1 : (t1 / t2 * y2) * t2 ≤ y2 * t1 := by
    rw [Nat.mul_comm (t1 / t2) y2, Nat.mul_assoc]
    exact Nat.mul_le_mul_left _ hq
  have e2 : (y1 + t1 / t2 * y2) * t2 ≤ A := by rw [Nat.add_mul]; omega
  have h3 := Nat.mod_lt t1 ht
  rcases Nat.lt_or_ge (y1 + t1 / t2 * y2) 4294967296 with h4 | h4
  · exact h4
  · have := Nat.mul_le_mul h4 (show 4294967296 ≤ t2 by omega)
    omega
theorem Lm.y2le {A B t1 x1 y1 t2 x2 y2 : Nat} {o : Bool} (h : Lm A B t1 x1 y1 t2 x2 y2 o) (ht : 0 < t2) : y2 ≤ y1 + t1 / t2 * y2 := by
  have : 1 ≤ t1 / t2 := (Nat.le_div_iff_mul_le ht).2 (by rw [Nat.one_mul]; exact h.le)
  have := Nat.mul_le_mul_right y2 this
  omega

/-- What the steps make of the numbers themselves. -/
theorem Lm.real {A B t1 x1 y1 t2 x2 y2 K a0 b0 a b : Nat} {o : Bool} (h : Lm A B t1 x1 y1 t2 x2 y2 o) (hy : y1 ≠ 0) (ha : a = A * K + a0) (hb : b = B * K + b0) (ha0 : a0 < K) (hb0 : b0 < K) :
    ∃ r1 r2, r2 ≤ r1 ∧ a = y2 * r1 + y1 * r2 ∧ b = x2 * r1 + x1 * r2 ∧ 1 ≤ y1 ∧ 1 ≤ y2 ∧ (if o then r1 + x1 * a = y1 * b ∧ r2 + y2 * b = x2 * a else r1 + y1 * b = x1 * a ∧ r2 + x2 * a = y2 * b) := by
  rcases h.so with ⟨h0, _⟩ | ⟨p1, p2, p3, p4⟩
  · exact absurd h0 hy
  have hdet := h.det
  have h1 := h.one
  have h2 := h.two
  have xy := h.xy
  have y2p := h.y2p
  have mk : ∀ m n : Nat, m ≤ n → m * K ≤ n * K := fun m n hmn => Nat.mul_le_mul_right K hmn
  have lt0 : ∀ m : Nat, m * a0 ≤ m * K := fun m => Nat.mul_le_mul_left m (Nat.le_of_lt ha0)
  have lt1 : ∀ m : Nat, m * b0 ≤ m * K := fun m => Nat.mul_le_mul_left m (Nat.le_of_lt hb0)
  have xa : x1 * a = x1 * A * K + x1 * a0 := by rw [ha, Nat.mul_add, Nat.mul_assoc]
  have xa2 : x2 * a = x2 * A * K + x2 * a0 := by rw [ha, Nat.mul_add, Nat.mul_assoc]
  have yb : y1 * b = y1 * B * K + y1 * b0 := by rw [hb, Nat.mul_add, Nat.mul_assoc]
  have yb2 : y2 * b = y2 * B * K + y2 * b0 := by rw [hb, Nat.mul_add, Nat.mul_assoc]
  have k4 := mk _ _ p4
  rw [Nat.add_mul, Nat.add_mul] at k4
  have k3 := mk _ _ p3
  have k2 := mk _ _ p2
  have kx := mk _ _ xy
  have m1 := lt0 x1
  have m2 := lt0 x2
  have m3 := lt1 y1
  have m4 := lt1 y2
  cases o with
  | false =>
    simp only [Bool.false_eq_true, if_false] at hdet h1 h2 ⊢
    have g1 := congrArg (· * K) h1
    have g2 := congrArg (· * K) h2
    simp only [Nat.add_mul] at g1 g2
    have q1 : y1 * b ≤ x1 * a := by omega
    have q2 : x2 * a ≤ y2 * b := by omega
    obtain ⟨r1, hr1⟩ : ∃ r1, r1 + y1 * b = x1 * a := ⟨x1 * a - y1 * b, by omega⟩
    obtain ⟨r2, hr2⟩ : ∃ r2, r2 + x2 * a = y2 * b := ⟨y2 * b - x2 * a, by omega⟩
    refine ⟨r1, r2, by omega, ?_, ?_, p1, y2p, hr1, hr2⟩
    · have s1 := congrArg (y2 * ·) hr1
      have s2 := congrArg (y1 * ·) hr2
      simp only [Nat.mul_add] at s1 s2
      have s3 := congrArg (· * a) hdet
      simp only [Nat.add_mul, Nat.one_mul] at s3
      rw [Nat.mul_left_comm y2 y1 b] at s1
      rw [← Nat.mul_assoc y2 x1 a, Nat.mul_comm y2 x1] at s1
      rw [← Nat.mul_assoc y1 x2 a, Nat.mul_comm y1 x2] at s2
      omega
    · have s1 := congrArg (x2 * ·) hr1
      have s2 := congrArg (x1 * ·) hr2
      simp only [Nat.mul_add] at s1 s2
      have s3 := congrArg (· * b) hdet
      simp only [Nat.add_mul, Nat.one_mul] at s3
      rw [Nat.mul_left_comm x2 x1 a] at s1
      rw [← Nat.mul_assoc x2 y1 b] at s1
      rw [← Nat.mul_assoc x1 y2 b] at s2
      omega
  | true =>
    simp only [if_true] at hdet h1 h2 ⊢
    have g1 := congrArg (· * K) h1
    have g2 := congrArg (· * K) h2
    simp only [Nat.add_mul] at g1 g2
    have q1 : x1 * a ≤ y1 * b := by omega
    have q2 : y2 * b ≤ x2 * a := by omega
    obtain ⟨r1, hr1⟩ : ∃ r1, r1 + x1 * a = y1 * b := ⟨y1 * b - x1 * a, by omega⟩
    obtain ⟨r2, hr2⟩ : ∃ r2, r2 + y2 * b = x2 * a := ⟨x2 * a - y2 * b, by omega⟩
    refine ⟨r1, r2, by omega, ?_, ?_, p1, y2p, hr1, hr2⟩
    · have s1 := congrArg (y2 * ·) hr1
      have s2 := congrArg (y1 * ·) hr2
      simp only [Nat.mul_add] at s1 s2
      have s3 := congrArg (· * a) hdet
      simp only [Nat.add_mul, Nat.one_mul] at s3
      rw [Nat.mul_left_comm y2 y1 b] at s1
      rw [← Nat.mul_assoc y2 x1 a, Nat.mul_comm y2 x1] at s1
      rw [← Nat.mul_assoc y1 x2 a, Nat.mul_comm y1 x2] at s2
      omega
    · have s1 := congrArg (x2 * ·) hr1
      have s2 := congrArg (x1 * ·) hr2
      simp only [Nat.mul_add] at s1 s2
      have s3 := congrArg (· * b) hdet
      simp only [Nat.add_mul, Nat.one_mul] at s3
      rw [Nat.mul_left_comm x2 x1 a] at s1
      rw [← Nat.mul_assoc x2 y1 b] at s1
      rw [← Nat.mul_assoc x1 y2 b] at s2
      omega

/-- Two numbers that make a and b, and that a and b make, have a and b's greatest common divisor. -/
theorem Lm.gcd {x1 y1 x2 y2 a b r1 r2 : Nat} {o : Bool} (e1 : a = y2 * r1 + y1 * r2) (e2 : b = x2 * r1 + x1 * r2) (h : if o then r1 + x1 * a = y1 * b ∧ r2 + y2 * b = x2 * a else r1 + y1 * b = x1 * a ∧ r2 + x2 * a = y2 * b) : Nat.gcd r1 r2 = Nat.gcd a b := by
  have d1 := Nat.gcd_dvd_left r1 r2
  have d2 := Nat.gcd_dvd_right r1 r2
  have d3 := Nat.gcd_dvd_left a b
  have d4 := Nat.gcd_dvd_right a b
  apply Nat.dvd_antisymm
  · apply Nat.dvd_gcd
    · rw [e1]; exact Nat.dvd_add (Nat.dvd_trans d1 (Nat.dvd_mul_left _ _)) (Nat.dvd_trans d2 (Nat.dvd_mul_left _ _))
    · rw [e2]; exact Nat.dvd_add (Nat.dvd_trans d1 (Nat.dvd_mul_left _ _)) (Nat.dvd_trans d2 (Nat.dvd_mul_left _ _))
  · generalize Nat.gcd a b = d at d3 d4 ⊢
    have key : ∀ r u v m n : Nat, r + u * m = v * n → d ∣ m → d ∣ n → d ∣ r := fun r u v m n he hm hn => by
      have h1 : d ∣ r + u * m := by rw [he]; exact Nat.dvd_trans hn (Nat.dvd_mul_left _ _)
      exact (Nat.dvd_add_left (Nat.dvd_trans hm (Nat.dvd_mul_left _ _))).1 h1
    cases o with
    | false =>
      simp only [Bool.false_eq_true, if_false] at h
      exact Nat.dvd_gcd (key _ _ _ _ _ h.1 d4 d3) (key _ _ _ _ _ h.2 d3 d4)
    | true =>
      simp only [if_true] at h
      exact Nat.dvd_gcd (key _ _ _ _ _ h.1 d3 d4) (key _ _ _ _ _ h.2 d4 d3)
theorem Lm.less {x1 y1 x2 y2 a b r1 r2 : Nat} (e1 : a = y2 * r1 + y1 * r2) (h1 : 1 ≤ y1) (h2 : 1 ≤ y2) : r1 + r2 ≤ a := by
  have g1 := Nat.mul_le_mul_right r1 h2
  have g2 := Nat.mul_le_mul_right r2 h1
  omega
end Go.Proofs.YtgiokmfdafmaoaaGreat

/- gcd's sureSteps: Euclid's steps on the highest bits. -/
namespace Go.Proofs.YtgiokmfdafmaoaaGreat
open Go.RowKit Go.Shelf
set_option linter.unusedVariables false
set_option linter.unusedSimpArgs false

/-- A share, as a value. -/
def shr (t x y : Nat) : Value := .agg #[u64 t, u64 x, u64 y]

theorem u64_div {a b : Nat} (ha : a < B64) : IntKind.u64.wrap ((a : Int) / (b : Int)) = ((a / b : Nat) : Int) := by
  rw [← Int.natCast_ediv]
  exact wrap_fits (Nat.lt_of_le_of_lt (Nat.div_le_self _ _) ha)
theorem u64_mod {a b : Nat} (ha : a < B64) : IntKind.u64.wrap ((a : Int) % (b : Int)) = ((a % b : Nat) : Int) := by
  rw [← Int.natCast_emod]
  exact wrap_fits (Nat.lt_of_le_of_lt (Nat.mod_le _ _) ha)
theorem u64_mul {a b : Nat} (h : a * b < B64) : IntKind.u64.wrap ((a : Int) * (b : Int)) = ((a * b : Nat) : Int) := by
  rw [← Int.natCast_mul]
  exact wrap_fits h

set_option maxRecDepth 100000 in
set_option maxHeartbeats 2000000 in
/-- gcd.left. -/
theorem left_any (t1 x1 y1 t2 x2 y2 : Nat) (w : World) (h0 : 0 < t2) (h1 : t1 < B64) (hx : x1 + t1 / t2 * x2 < B64) (hy : y1 + t1 / t2 * y2 < B64) :
    Calls Tryz.prog 123 #[shr t1 x1 y1, shr t2 x2 y2] w fun e w' => e = .returned (shr (t1 % t2) (x1 + t1 / t2 * x2) (y1 + t1 / t2 * y2)) ∧ Below w.heap.size w w' := by
  unfold shr
  have hz : ¬ t2 = 0 := by omega
  have e1 := u64_div (b := t2) h1
  have e2 := u64_mod (b := t2) h1
  have e3 := u64_mul (a := t1 / t2) (b := x2) (by omega)
  have e4 := u64_mul (a := t1 / t2) (b := y2) (by omega)
  have e5 := dv_add hx
  have e6 := dv_add hy
  have E1 := Lib.hid e1
  have E2 := Lib.hid e2
  have E3 := Lib.hid e3
  have E4 := Lib.hid e4
  have E5 := Lib.hid e5
  have E6 := Lib.hid e6
  clear e1 e2 e3 e4 e5 e6 h0 h1 hx hy
  go_enter Tryz.func123, Tryz.ntmps123
  go_wp2
  obtain ⟨W, hW⟩ : ∃ W, ((w.alloc (.cells #[u64 t1, u64 x1, u64 y1] 114)).alloc (.cells #[u64 t2, u64 x2, u64 y2] 114)).alloc (.cells #[.int .u64 0, .int .u64 0, .int .u64 0] 114) = W := ⟨_, rfl⟩
  have k1 : W.heap[w.heap.size]? = some (.cells #[u64 t1, u64 x1, u64 y1] 114) := by rw [← hW, Below.heap_alloc _ _ _ (by simp; omega), Below.heap_alloc _ _ _ (by simp)]; exact World.alloc_heap_new _ _
  have k2 : W.heap[w.heap.size + 1]? = some (.cells #[u64 t2, u64 x2, u64 y2] 114) := by rw [← hW, Below.heap_alloc _ _ _ (by simp)]; have := World.alloc_heap_new (w.alloc (.cells #[u64 t1, u64 x1, u64 y1] 114)) (.cells #[u64 t2, u64 x2, u64 y2] 114); rwa [World.size_alloc] at this
  have k3 : W.heap[w.heap.size + 1 + 1]? = some (.cells #[.int .u64 0, .int .u64 0, .int .u64 0] 114) := by
    rw [← hW]
    have := World.alloc_heap_new ((w.alloc (.cells #[u64 t1, u64 x1, u64 y1] 114)).alloc (.cells #[u64 t2, u64 x2, u64 y2] 114)) (.cells #[.int .u64 0, .int .u64 0, .int .u64 0] 114)
    rwa [World.size_alloc, World.size_alloc] at this
  have a1 := cells_cell k1 (j := 0) rfl
  have a2 := cells_cell k1 (j := 1) rfl
  have a3 := cells_cell k1 (j := 2) rfl
  have b1 := cells_cell k2 (j := 0) rfl
  have b2 := cells_cell k2 (j := 1) rfl
  have b3 := cells_cell k2 (j := 2) rfl
  have hB : Below w.heap.size w W := by rw [← hW]; exact (((Below.refl _ w).alloc (Nat.le_refl _) _).alloc (by simp) _).alloc (by simp; omega) _
  rw [hW]
  have d1 := cells_cell k3 (j := 0) rfl
  have d2 := cells_cell k3 (j := 1) rfl
  have d3 := cells_cell k3 (j := 2) rfl
  have f1 := cells_frozen k3 (j := 0)
  have f2 := cells_frozen k3 (j := 1)
  have f3 := cells_frozen k3 (j := 2)
  have HB := Lib.hid hB
  clear hW hB
  have K3 := Lib.hid k3
  clear k1 k2 k3
  go_quiet (fail)
  go_wp2
  rw [E1.out, E3.out, E4.out, E5.out, E6.out, (Int.natCast_emod t1 t2).symm]
  refine bodyPost_ret (v := shr (t1 % t2) (x1 + t1 / t2 * x2) (y1 + t1 / t2 * y2)) (by simp [results, Tryz.results123, go_sem, d1, d2, d3, shr]) rfl ?_
  refine ⟨rfl, ?_⟩
  exact (((below_drewN HB.out _).setCell (p := ⟨w.heap.size + 1 + 1, 0, none⟩) (by show w.heap.size ≤ w.heap.size + 1 + 1; omega) _).setCell (p := ⟨w.heap.size + 1 + 1, 1, none⟩) (by show w.heap.size ≤ w.heap.size + 1 + 1; omega) _).setCell (p := ⟨w.heap.size + 1 + 1, 2, none⟩) (by show w.heap.size ≤ w.heap.size + 1 + 1; omega) _

/-- The steps that a block holds. -/
def StepsAt (w : World) (g t1 x1 y1 t2 x2 y2 : Nat) (o : Bool) : Prop := w.heap[g]? = some (.cells #[u64 t1, u64 x1, u64 y1, u64 t2, u64 x2, u64 y2, .bool o] 116)
def stp (t1 x1 y1 t2 x2 y2 : Nat) (o : Bool) : Value := .agg #[u64 t1, u64 x1, u64 y1, u64 t2, u64 x2, u64 y2, .bool o]
theorem StepsAt.below {w w' : World} {g t1 x1 y1 t2 x2 y2 : Nat} {o : Bool} (h : StepsAt w g t1 x1 y1 t2 x2 y2 o) {B : Nat} (hb : Below B w w') (hg : g < B) : StepsAt w' g t1 x1 y1 t2 x2 y2 o := (hb.block g hg).trans h
/-- The second one's top, in a block. -/
def topAt (w : World) (g : Nat) : Nat := match w.cell? ⟨g, 3, none⟩ with | some (.int _ n) => n.toNat | _ => 0
theorem StepsAt.top {w : World} {g t1 x1 y1 t2 x2 y2 : Nat} {o : Bool} (h : StepsAt w g t1 x1 y1 t2 x2 y2 o) : topAt w g = t2 := by
  have c := cells_cell h (j := 3) rfl
  unfold topAt
  rw [c]
  simp

theorem cells_set {w : World} {g i : Nat} {xs : Array Value} {T : TypeId} {u : Value} (h : w.heap[g]? = some (.cells xs T (0, 0))) : (w.setCell ⟨g, i, none⟩ u).heap[g]? = some (.cells (xs.set! i u) T (0, 0)) := by
  simp [World.setCell, Array.getElem?_modify, h]
theorem StepsAt.set {w : World} {g t1 x1 y1 t2 x2 y2 a1 b1 c1 a2 b2 c2 : Nat} {o p : Bool} (h : StepsAt w g t1 x1 y1 t2 x2 y2 o) :
    StepsAt (((((((w.setCell ⟨g, 0, none⟩ (u64 a1)).setCell ⟨g, 1, none⟩ (u64 b1)).setCell ⟨g, 2, none⟩ (u64 c1)).setCell ⟨g, 3, none⟩ (u64 a2)).setCell ⟨g, 4, none⟩ (u64 b2)).setCell ⟨g, 5, none⟩ (u64 c2)).setCell ⟨g, 6, none⟩ (.bool p)) g a1 b1 c1 a2 b2 c2 p := by
  have h7 := cells_set (i := 6) (u := .bool p) (cells_set (i := 5) (u := u64 c2) (cells_set (i := 4) (u := u64 b2) (cells_set (i := 3) (u := u64 a2) (cells_set (i := 2) (u := u64 c1) (cells_set (i := 1) (u := u64 b1) (cells_set (i := 0) (u := u64 a1) h))))))
  simpa [StepsAt] using h7
theorem below_set7 {w w' : World} {B g : Nat} (h : Below B w w') (hg : B ≤ g) (v0 v1 v2 v3 v4 v5 v6 : Value) :
    Below B w (((((((w'.setCell ⟨g, 0, none⟩ v0).setCell ⟨g, 1, none⟩ v1).setCell ⟨g, 2, none⟩ v2).setCell ⟨g, 3, none⟩ v3).setCell ⟨g, 4, none⟩ v4).setCell ⟨g, 5, none⟩ v5).setCell ⟨g, 6, none⟩ v6) :=
  ((((((h.setCell (p := ⟨g, 0, none⟩) hg _).setCell (p := ⟨g, 1, none⟩) hg _).setCell (p := ⟨g, 2, none⟩) hg _).setCell (p := ⟨g, 3, none⟩) hg _).setCell (p := ⟨g, 4, none⟩) hg _).setCell (p := ⟨g, 5, none⟩) hg _).setCell (p := ⟨g, 6, none⟩) hg _

set_option maxRecDepth 100000 in
set_option maxHeartbeats 4000000 in
/-- gcd.sureSteps. -/
theorem sure_any (A B : Nat) (w : World) (hA : A < B64) (hBA : B ≤ A) :
    Calls Tryz.prog 105 #[u64 A, u64 B] w fun e w' => ∃ t1 x1 y1 t2 x2 y2 o, e = .returned (stp t1 x1 y1 t2 x2 y2 o) ∧ Lm A B t1 x1 y1 t2 x2 y2 o ∧ Below w.heap.size w w' := by
  have hst := Lm.start hBA
  have HST := Lib.hid hst
  have HA := Lib.hid hA
  clear hst hA hBA
  go_enter Tryz.func105, Tryz.ntmps105
  go_wp2
  go_loopw [6] (fun _ wr => ∃ t1 x1 y1 t2 x2 y2 o, StepsAt wr (w.heap.size + 1) t1 x1 y1 t2 x2 y2 o ∧ Lm A B t1 x1 y1 t2 x2 y2 o ∧ wr.heap[w.heap.size]? = some (.cells #[.int .u64 0, .int .u64 0, .int .u64 0, .int .u64 0, .int .u64 0, .int .u64 0, .bool false] 116) ∧ Below w.heap.size w wr) (fun _ wr => topAt wr (w.heap.size + 1))
  case atStart =>
    refine ⟨A, 1, 0, B, 0, 1, false, ?_, HST.out, ?_, ((Below.refl _ w).alloc (Nat.le_refl _) _).alloc (by simp) _⟩
    · have h := World.alloc_heap_new (w.alloc (.cells #[.int .u64 0, .int .u64 0, .int .u64 0, .int .u64 0, .int .u64 0, .int .u64 0, .bool false] 116)) (.cells #[u64 A, .int .u64 1, .int .u64 0, u64 B, .int .u64 0, .int .u64 1, .bool false] 116)
      rw [World.size_alloc] at h
      exact h
    · rw [Below.heap_alloc _ _ _ (by simp)]
      exact World.alloc_heap_new _ _
  case round =>
    obtain ⟨t1, x1, y1, t2, x2, y2, o, hs, hL, hz, hB⟩ := hrel
    have g0 := cells_cell hs (j := 0) rfl
    have g1 := cells_cell hs (j := 1) rfl
    have g2 := cells_cell hs (j := 2) rfl
    have g3 := cells_cell hs (j := 3) rfl
    have g4 := cells_cell hs (j := 4) rfl
    have g5 := cells_cell hs (j := 5) rfl
    have g6 := cells_cell hs (j := 6) rfl
    have hsz : w.heap.size + 1 < wr.heap.size := (Array.getElem?_eq_some_iff.1 hs).1
    by_cases ht : t2 = 0
    · subst ht
      have z0 := cells_cell hz (j := 0) rfl
      have z1 := cells_cell hz (j := 1) rfl
      have z2 := cells_cell hz (j := 2) rfl
      have z3 := cells_cell hz (j := 3) rfl
      have z4 := cells_cell hz (j := 4) rfl
      have z5 := cells_cell hz (j := 5) rfl
      have z6 := cells_cell hz (j := 6) rfl
      have q0 := cells_frozen hz (j := 0)
      have q1 := cells_frozen hz (j := 1)
      have q2 := cells_frozen hz (j := 2)
      have q3 := cells_frozen hz (j := 3)
      have q4 := cells_frozen hz (j := 4)
      have q5 := cells_frozen hz (j := 5)
      have q6 := cells_frozen hz (j := 6)
      have HL := Lib.hid hL
      have HB := Lib.hid hB
      clear hs hL hz hB HA HST hsz
      go_wp2
      refine bodyPost_ret (v := stp t1 x1 y1 0 x2 y2 o) (by simp [results, Tryz.results105, go_sem, z0, z1, z2, z3, z4, z5, z6, stp]) rfl ?_
      exact ⟨t1, x1, y1, 0, x2, y2, o, rfl, HL.out, below_set7 HB.out (Nat.le_refl _) _ _ _ _ _ _ _⟩
    · have ht0 : 0 < t2 := Nat.pos_of_ne_zero ht
      have hfit := hL.fits ht0
      have hAb := HA.out
      have hyy := hL.y2le ht0
      have hsa := hL.sa
      have hle := hL.le
      have ht1 : t1 < B64 := by
        have := Nat.mul_le_mul_right t1 hL.y2p
        omega
      have hBA : B ≤ A := by
        have := Nat.mul_le_mul_right t1 hL.xy
        have h1 := hL.sb
        rcases hL.so with ⟨a, b, c, d, e, f, g⟩ | ⟨a, b, _⟩
        · omega
        · have := Nat.mul_le_mul_right t2 b
          omega
      have HC := Lib.hid (fun W => left_any t1 x1 y1 t2 x2 y2 W ht0 ht1 (by omega) (by omega))
      have hnext := fun h1 h2 => hL.next (q := t1 / t2) (t3 := t1 % t2) (by rw [Nat.mul_comm]; exact Nat.div_add_mod t1 t2) (Nat.mod_lt _ ht0) h1 h2
      have hlt3 : t1 % t2 < t2 := Nat.mod_lt _ ht0
      have hsm := hL.small ht0 (by rw [B64_eq] at hAb; exact hAb)
      obtain ⟨t3, e3⟩ : ∃ t3, t1 % t2 = t3 := ⟨_, rfl⟩
      obtain ⟨x3, f3⟩ : ∃ x3, x1 + t1 / t2 * x2 = x3 := ⟨_, rfl⟩
      obtain ⟨y3, h3⟩ : ∃ y3, y1 + t1 / t2 * y2 = y3 := ⟨_, rfl⟩
      rw [e3, f3, h3] at hnext
      rw [e3, h3] at hsm
      rw [e3, f3, h3] at HC
      rw [e3] at hlt3
      rw [h3] at hyy hfit
      have hgt : decide ((0 : Int) < (t2 : Int)) = true := by simp; omega
      have HNX := Lib.hid hnext
      have HSZ := Lib.hid hsz
      have HS := Lib.hid hs
      have HZ := Lib.hid hz
      have HL := Lib.hid hL
      have HB := Lib.hid hB
      have hfy := hfit.1
      have t2B : t2 < B64 := by omega
      have htop : topAt wr (w.heap.size + 1) = t2 := hs.top
      have HTOP := Lib.hid htop
      clear hnext hs hL hz hB HST hsz e3 f3 h3 hfit hsa hle ht1 ht htop
      by_cases c1 : t3 < y3
      · have d1 : decide ((t3 : Int) < (y3 : Int)) = true := by simp; omega
        clear hsm hBA hyy hlt3 hfy t2B hAb
        go_wp2_with fail
        refine (HC.out _).mono ?_
        unfold shr
        rintro e w2 ⟨rfl, hb2⟩
        have hb3 := below_then HB.out hb2
        have hs2 := HS.out.below hb2 (by have := HSZ.out; omega)
        have hz2 := (hb2.block w.heap.size (by have := HSZ.out; omega)).trans HZ.out
        clear g0 g1 g2 g3 g4 g5 g6
        have g0 := cells_cell hs2 (j := 0) rfl
        have g1 := cells_cell hs2 (j := 1) rfl
        have g2 := cells_cell hs2 (j := 2) rfl
        have g3 := cells_cell hs2 (j := 3) rfl
        have g4 := cells_cell hs2 (j := 4) rfl
        have g5 := cells_cell hs2 (j := 5) rfl
        have g6 := cells_cell hs2 (j := 6) rfl
        have z0 := cells_cell hz2 (j := 0) rfl
        have z1 := cells_cell hz2 (j := 1) rfl
        have z2 := cells_cell hz2 (j := 2) rfl
        have z3 := cells_cell hz2 (j := 3) rfl
        have z4 := cells_cell hz2 (j := 4) rfl
        have z5 := cells_cell hz2 (j := 5) rfl
        have z6 := cells_cell hz2 (j := 6) rfl
        have q0 := cells_frozen hz2 (j := 0)
        have q1 := cells_frozen hz2 (j := 1)
        have q2 := cells_frozen hz2 (j := 2)
        have q3 := cells_frozen hz2 (j := 3)
        have q4 := cells_frozen hz2 (j := 4)
        have q5 := cells_frozen hz2 (j := 5)
        have q6 := cells_frozen hz2 (j := 6)
        have HB3 := Lib.hid hb3
        have hne1 : w.heap.size < w2.heap.size := by have := hb2.size; have := HSZ.out; omega
        have hne2 : w.heap.size + 1 < w2.heap.size := by have := hb2.size; have := HSZ.out; omega
        clear hs2 hz2 hb2 hb3
        go_wp2
        refine bodyPost_ret (v := stp t1 x1 y1 t2 x2 y2 o) (by simp [results, Tryz.results105, go_sem, z0, z1, z2, z3, z4, z5, z6, stp, hne1]) rfl ?_
        refine ⟨t1, x1, y1, t2, x2, y2, o, rfl, HL.out, ?_⟩
        exact (below_set7 HB3.out (Nat.le_refl _) _ _ _ _ _ _ _).alloc (by simp; omega) _
      · by_cases c2 : t2 - t3 < y2 + y3
        · have d1 : decide ((t3 : Int) < (y3 : Int)) = false := by simp; omega
          obtain ⟨d, hd⟩ : ∃ d, t2 - t3 = d := ⟨_, rfl⟩
          obtain ⟨s, hs⟩ : ∃ s, y2 + y3 = s := ⟨_, rfl⟩
          have k1 : IntKind.u64.wrap ((t2 : Int) - (t3 : Int)) = (d : Int) := by rw [IntKind.wrap_u64]; rw [B64_eq] at *; omega
          have k2 : IntKind.u64.wrap ((y2 : Int) + (y3 : Int)) = (s : Int) := by
            have := hsm (by omega)
            rw [IntKind.wrap_u64]; rw [B64_eq] at *; omega
          have d2 : decide ((d : Int) < (s : Int)) = true := by simp; omega
          rw [hd, hs] at c2
          clear hsm hBA hyy hlt3 hfy t2B hAb hd hs
          go_wp2_with fail
          refine (HC.out _).mono ?_
          unfold shr
          rintro e w2 ⟨rfl, hb2⟩
          have hb3 := below_then HB.out hb2
          have hs2 := HS.out.below hb2 (by have := HSZ.out; omega)
          have hz2 := (hb2.block w.heap.size (by have := HSZ.out; omega)).trans HZ.out
          clear g0 g1 g2 g3 g4 g5 g6
          have g0 := cells_cell hs2 (j := 0) rfl
          have g1 := cells_cell hs2 (j := 1) rfl
          have g2 := cells_cell hs2 (j := 2) rfl
          have g3 := cells_cell hs2 (j := 3) rfl
          have g4 := cells_cell hs2 (j := 4) rfl
          have g5 := cells_cell hs2 (j := 5) rfl
          have g6 := cells_cell hs2 (j := 6) rfl
          have z0 := cells_cell hz2 (j := 0) rfl
          have z1 := cells_cell hz2 (j := 1) rfl
          have z2 := cells_cell hz2 (j := 2) rfl
          have z3 := cells_cell hz2 (j := 3) rfl
          have z4 := cells_cell hz2 (j := 4) rfl
          have z5 := cells_cell hz2 (j := 5) rfl
          have z6 := cells_cell hz2 (j := 6) rfl
          have q0 := cells_frozen hz2 (j := 0)
          have q1 := cells_frozen hz2 (j := 1)
          have q2 := cells_frozen hz2 (j := 2)
          have q3 := cells_frozen hz2 (j := 3)
          have q4 := cells_frozen hz2 (j := 4)
          have q5 := cells_frozen hz2 (j := 5)
          have q6 := cells_frozen hz2 (j := 6)
          have HB3 := Lib.hid hb3
          have hne1 : w.heap.size < w2.heap.size := by have := hb2.size; have := HSZ.out; omega
          have hne2 : w.heap.size + 1 < w2.heap.size := by have := hb2.size; have := HSZ.out; omega
          clear hs2 hz2 hb2 hb3
          go_wp2
          refine bodyPost_ret (v := stp t1 x1 y1 t2 x2 y2 o) (by simp [results, Tryz.results105, go_sem, z0, z1, z2, z3, z4, z5, z6, stp, hne1]) rfl ?_
          refine ⟨t1, x1, y1, t2, x2, y2, o, rfl, HL.out, ?_⟩
          exact (below_set7 HB3.out (Nat.le_refl _) _ _ _ _ _ _ _).alloc (by simp; omega) _
        · have d1 : decide ((t3 : Int) < (y3 : Int)) = false := by simp; omega
          have HN := Lib.hid (HNX.out (by omega) (by omega))
          obtain ⟨d, hd⟩ : ∃ d, t2 - t3 = d := ⟨_, rfl⟩
          obtain ⟨s, hs⟩ : ∃ s, y2 + y3 = s := ⟨_, rfl⟩
          have k1 : IntKind.u64.wrap ((t2 : Int) - (t3 : Int)) = (d : Int) := by rw [IntKind.wrap_u64]; rw [B64_eq] at *; omega
          have k2 : IntKind.u64.wrap ((y2 : Int) + (y3 : Int)) = (s : Int) := by
            have := hsm (by omega)
            rw [IntKind.wrap_u64]; rw [B64_eq] at *; omega
          have d2 : decide ((d : Int) < (s : Int)) = false := by simp; omega
          rw [hd, hs] at c2
          have HLT := Lib.hid hlt3
          clear hsm hBA hyy hlt3 hfy t2B hAb hd hs
          go_wp2_with fail
          refine (HC.out _).mono ?_
          unfold shr
          rintro e w2 ⟨rfl, hb2⟩
          have hb3 := below_then HB.out hb2
          have hs2 := HS.out.below hb2 (by have := HSZ.out; omega)
          clear g0 g1 g2 g3 g4 g5 g6
          have g0 := cells_cell hs2 (j := 0) rfl
          have g1 := cells_cell hs2 (j := 1) rfl
          have g2 := cells_cell hs2 (j := 2) rfl
          have g3 := cells_cell hs2 (j := 3) rfl
          have g4 := cells_cell hs2 (j := 4) rfl
          have g5 := cells_cell hs2 (j := 5) rfl
          have g6 := cells_cell hs2 (j := 6) rfl
          have q0 := cells_frozen hs2 (j := 0)
          have q1 := cells_frozen hs2 (j := 1)
          have q2 := cells_frozen hs2 (j := 2)
          have q3 := cells_frozen hs2 (j := 3)
          have q4 := cells_frozen hs2 (j := 4)
          have q5 := cells_frozen hs2 (j := 5)
          have q6 := cells_frozen hs2 (j := 6)
          have HB3 := Lib.hid hb3
          have HS2 := Lib.hid hs2
          have hne1 : w.heap.size < w2.heap.size := by have := hb2.size; have := HSZ.out; omega
          have hne2 : w.heap.size + 1 < w2.heap.size := by have := hb2.size; have := HSZ.out; omega
          have HZ2 := Lib.hid ((hb2.block w.heap.size (by have := HSZ.out; omega)).trans HZ.out)
          clear hs2 hb2 hb3
          go_wp2
          go_roundw
          case rel =>
            refine ⟨t2, x2, y2, t3, x3, y3, !o, ?_, HN.out, ?_, (below_set7 HB3.out (by omega) _ _ _ _ _ _ _).alloc (by simp; omega) _⟩
            · exact (Below.heap_alloc _ _ _ (by simp; omega)).trans HS2.out.set
            · rw [Below.heap_alloc _ _ _ (by simp; omega)]
              iterate 7 rw [Below.heap_setCell _ _ _ _ (by simp)]
              exact HZ2.out
          case measure =>
            have h1 : StepsAt _ (w.heap.size + 1) t2 x2 y2 t3 x3 y3 (!o) := HS2.out.set
            have h2 : StepsAt _ (w.heap.size + 1) t2 x2 y2 t3 x3 y3 (!o) := (Below.heap_alloc _ (.cells #[u64 t3, u64 x3, u64 y3] 114) _ (by simp; omega)).trans h1
            have h3 := h2.top
            rw [HTOP.out]
            exact Nat.lt_of_le_of_lt (Nat.le_of_eq h3) HLT.out
end Go.Proofs.YtgiokmfdafmaoaaGreat
