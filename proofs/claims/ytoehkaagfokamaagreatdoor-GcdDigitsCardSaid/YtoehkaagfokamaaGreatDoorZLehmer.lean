import Derived.Test.YtoehkaagfokamaaGreatDoorZNum
/- Lehmer. -/
/- Euclid's steps on the highest bits (Lehmer, Collins): what sureSteps keeps, and what it gives. -/
namespace Go.Proofs.YtoehkaagfokamaaGreatDoor
set_option linter.unusedVariables false

/-- The numbers of steps: tops t1, t2, with their shares (x1, y1), (x2, y2) of A and B; o: odd. -/
structure Lm (A B t1 x1 y1 t2 x2 y2 : Nat) (o : Bool) : Prop where
  det : if o then x2 * y1 = x1 * y2 + 1 else x1 * y2 = x2 * y1 + 1
  one : if o then t1 + x1 * A = y1 * B else t1 + y1 * B = x1 * A
  two : if o then t2 + y2 * B = x2 * A else t2 + x2 * A = y2 * B
  sa : y2 * t1 + y1 * t2 = A
  sb : x2 * t1 + x1 * t2 = B
  xy : x2 ≤ y2
  y2p : 1 ≤ y2
  le : t2 ≤ t1
  so : (y1 = 0 ∧ o = false ∧ x1 = 1 ∧ x2 = 0 ∧ y2 = 1 ∧ t1 = A ∧ t2 = B) ∨ (1 ≤ y1 ∧ x1 ≤ y1 ∧ y2 ≤ t2 ∧ y1 + y2 + t2 ≤ t1)

theorem Lm.start {A B : Nat} (h : B ≤ A) : Lm A B A 1 0 B 0 1 false :=
  ⟨by simp, by simp, by simp, by simp, by simp, by omega, by omega, h, .inl ⟨rfl, rfl, rfl, rfl, rfl, rfl, rfl⟩⟩

theorem Lm.next {A B t1 x1 y1 t2 x2 y2 t3 q : Nat} {o : Bool} (h : Lm A B t1 x1 y1 t2 x2 y2 o) (hq : q * t2 + t3 = t1) (hlt : t3 < t2) (h1 : y1 + q * y2 ≤ t3) (h2 : y2 + (y1 + q * y2) ≤ t2 - t3) :
    Lm A B t2 x2 y2 t3 (x1 + q * x2) (y1 + q * y2) (!o) := by
  have q1 : 1 ≤ q := by
    rcases Nat.eq_zero_or_pos q with hz | hp
    · subst hz
      have := h.le
      omega
    · exact hp
  have e1 : q * (y2 * t2) = y2 * (q * t2) := Nat.mul_left_comm _ _ _
  have e2 : q * (x2 * t2) = x2 * (q * t2) := Nat.mul_left_comm _ _ _
  have hA := h.sa
  have hB := h.sb
  rw [← hq, Nat.mul_add] at hA hB
  have hxq : q * x2 ≤ q * y2 := Nat.mul_le_mul_left q h.xy
  refine ⟨?_, ?_, ?_, ?_, ?_, ?_, ?_, by omega, ?_⟩
  · have hd := h.det
    cases o with
    | false =>
      simp only [Bool.not_false, if_true, Bool.false_eq_true, if_false] at hd ⊢
      rw [Nat.add_mul, Nat.mul_add, hd, Nat.mul_assoc, Nat.mul_left_comm x2 q y2]
      omega
    | true =>
      simp only [Bool.not_true, if_true, Bool.false_eq_true, if_false] at hd ⊢
      rw [Nat.add_mul, Nat.mul_add, hd, Nat.mul_assoc, Nat.mul_left_comm x2 q y2]
      omega
  · have hd := h.two
    cases o <;> simpa using hd
  · have h1' := h.one
    have h2' := h.two
    cases o with
    | false =>
      simp only [Bool.not_false, if_true, Bool.false_eq_true, if_false] at h1' h2' ⊢
      have ht := congrArg (q * ·) h2'
      simp only [Nat.mul_add] at ht
      rw [Nat.add_mul, Nat.add_mul, Nat.mul_assoc, Nat.mul_assoc]
      omega
    | true =>
      simp only [Bool.not_true, if_true, Bool.false_eq_true, if_false] at h1' h2' ⊢
      have ht := congrArg (q * ·) h2'
      simp only [Nat.mul_add] at ht
      rw [Nat.add_mul, Nat.add_mul, Nat.mul_assoc, Nat.mul_assoc]
      omega
  · rw [Nat.add_mul, Nat.mul_assoc, e1]
    omega
  · rw [Nat.add_mul, Nat.mul_assoc, e2]
    omega
  · have hx : x1 ≤ y1 + q * y2 - q * x2 := by
      rcases h.so with ⟨a, b, c, d, e, _⟩ | ⟨a, b, _⟩
      · subst a; subst c; subst d; subst e
        omega
      · omega
    omega
  · have : 1 * 1 ≤ q * y2 := Nat.mul_le_mul q1 h.y2p
    omega
  · refine .inr ⟨h.y2p, h.xy, h1, by omega⟩

/-- left's sums stay below the tops: no overflow. -/
theorem Lm.fits {A B t1 x1 y1 t2 x2 y2 : Nat} {o : Bool} (h : Lm A B t1 x1 y1 t2 x2 y2 o) (ht : 0 < t2) : y1 + t1 / t2 * y2 ≤ A ∧ x1 + t1 / t2 * x2 ≤ B := by
  have hq := Nat.div_mul_le_self t1 t2
  have hA := h.sa
  have hB := h.sb
  have e1 : (t1 / t2 * y2) * t2 ≤ y2 * t1 := by
    rw [Nat.mul_comm (t1 / t2) y2, Nat.mul_assoc]
    exact Nat.mul_le_mul_left _ hq
  have e2 : (t1 / t2 * x2) * t2 ≤ x2 * t1 := by
    rw [Nat.mul_comm (t1 / t2) x2, Nat.mul_assoc]
    exact Nat.mul_le_mul_left _ hq
  constructor
  · have : (y1 + t1 / t2 * y2) * t2 ≤ A := by rw [Nat.add_mul]; omega
    exact Nat.le_trans (Nat.le_mul_of_pos_right _ ht) this
  · have : (x1 + t1 / t2 * x2) * t2 ≤ B := by rw [Nat.add_mul]; omega
    exact Nat.le_trans (Nat.le_mul_of_pos_right _ ht) this
theorem Lm.small {A B t1 x1 y1 t2 x2 y2 : Nat} {o : Bool} (h : Lm A B t1 x1 y1 t2 x2 y2 o) (ht : 0 < t2) (hA : A < 18446744073709551616) (h1 : y1 + t1 / t2 * y2 ≤ t1 % t2) : y1 + t1 / t2 * y2 < 4294967296 := by
  have hq := Nat.div_mul_le_self t1 t2
  have hA2 := h.sa
  have e1 : (t1 / t2 * y2) * t2 ≤ y2 * t1 := by
    rw [Nat.mul_comm (t1 / t2) y2, Nat.mul_assoc]
    exact Nat.mul_le_mul_left _ hq
  have e2 : (y1 + t1 / t2 * y2) * t2 ≤ A := by rw [Nat.add_mul]; omega
  have h3 := Nat.mod_lt t1 ht
  rcases Nat.lt_or_ge (y1 + t1 / t2 * y2) 4294967296 with h4 | h4
  · exact h4
  · have := Nat.mul_le_mul h4 (show 4294967296 ≤ t2 by omega)
    omega
theorem Lm.y2le {A B t1 x1 y1 t2 x2 y2 : Nat} {o : Bool} (h : Lm A B t1 x1 y1 t2 x2 y2 o) (ht : 0 < t2) : y2 ≤ y1 + t1 / t2 * y2 := by
  have : 1 ≤ t1 / t2 := (Nat.le_div_iff_mul_le ht).2 (by rw [Nat.one_mul]; exact h.le)
  have := Nat.mul_le_mul_right y2 this
  omega

/-- What the steps make of the numbers themselves. -/
theorem Lm.real {A B t1 x1 y1 t2 x2 y2 K a0 b0 a b : Nat} {o : Bool} (h : Lm A B t1 x1 y1 t2 x2 y2 o) (hy : y1 ≠ 0) (ha : a = A * K + a0) (hb : b = B * K + b0) (ha0 : a0 < K) (hb0 : b0 < K) :
    ∃ r1 r2, r2 ≤ r1 ∧ a = y2 * r1 + y1 * r2 ∧ b = x2 * r1 + x1 * r2 ∧ 1 ≤ y1 ∧ 1 ≤ y2 ∧ (if o then r1 + x1 * a = y1 * b ∧ r2 + y2 * b = x2 * a else r1 + y1 * b = x1 * a ∧ r2 + x2 * a = y2 * b) := by
  rcases h.so with ⟨h0, _⟩ | ⟨p1, p2, p3, p4⟩
  · exact absurd h0 hy
  have hdet := h.det
  have h1 := h.one
  have h2 := h.two
  have xy := h.xy
  have y2p := h.y2p
  have mk : ∀ m n : Nat, m ≤ n → m * K ≤ n * K := fun m n hmn => Nat.mul_le_mul_right K hmn
  have lt0 : ∀ m : Nat, m * a0 ≤ m * K := fun m => Nat.mul_le_mul_left m (Nat.le_of_lt ha0)
  have lt1 : ∀ m : Nat, m * b0 ≤ m * K := fun m => Nat.mul_le_mul_left m (Nat.le_of_lt hb0)
  have xa : x1 * a = x1 * A * K + x1 * a0 := by rw [ha, Nat.mul_add, Nat.mul_assoc]
  have xa2 : x2 * a = x2 * A * K + x2 * a0 := by rw [ha, Nat.mul_add, Nat.mul_assoc]
  have yb : y1 * b = y1 * B * K + y1 * b0 := by rw [hb, Nat.mul_add, Nat.mul_assoc]
  have yb2 : y2 * b = y2 * B * K + y2 * b0 := by rw [hb, Nat.mul_add, Nat.mul_assoc]
  have k4 := mk _ _ p4
  rw [Nat.add_mul, Nat.add_mul] at k4
  have k3 := mk _ _ p3
  have k2 := mk _ _ p2
  have kx := mk _ _ xy
  have m1 := lt0 x1
  have m2 := lt0 x2
  have m3 := lt1 y1
  have m4 := lt1 y2
  cases o with
  | false =>
    simp only [Bool.false_eq_true, if_false] at hdet h1 h2 ⊢
    have g1 := congrArg (· * K) h1
    have g2 := congrArg (· * K) h2
    simp only [Nat.add_mul] at g1 g2
    have q1 : y1 * b ≤ x1 * a := by omega
    have q2 : x2 * a ≤ y2 * b := by omega
    obtain ⟨r1, hr1⟩ : ∃ r1, r1 + y1 * b = x1 * a := ⟨x1 * a - y1 * b, by omega⟩
    obtain ⟨r2, hr2⟩ : ∃ r2, r2 + x2 * a = y2 * b := ⟨y2 * b - x2 * a, by omega⟩
    refine ⟨r1, r2, by omega, ?_, ?_, p1, y2p, hr1, hr2⟩
    · have s1 := congrArg (y2 * ·) hr1
      have s2 := congrArg (y1 * ·) hr2
      simp only [Nat.mul_add] at s1 s2
      have s3 := congrArg (· * a) hdet
      simp only [Nat.add_mul, Nat.one_mul] at s3
      rw [Nat.mul_left_comm y2 y1 b] at s1
      rw [← Nat.mul_assoc y2 x1 a, Nat.mul_comm y2 x1] at s1
      rw [← Nat.mul_assoc y1 x2 a, Nat.mul_comm y1 x2] at s2
      omega
    · have s1 := congrArg (x2 * ·) hr1
      have s2 := congrArg (x1 * ·) hr2
      simp only [Nat.mul_add] at s1 s2
      have s3 := congrArg (· * b) hdet
      simp only [Nat.add_mul, Nat.one_mul] at s3
      rw [Nat.mul_left_comm x2 x1 a] at s1
      rw [← Nat.mul_assoc x2 y1 b] at s1
      rw [← Nat.mul_assoc x1 y2 b] at s2
      omega
  | true =>
    simp only [if_true] at hdet h1 h2 ⊢
    have g1 := congrArg (· * K) h1
    have g2 := congrArg (· * K) h2
    simp only [Nat.add_mul] at g1 g2
    have q1 : x1 * a ≤ y1 * b := by omega
    have q2 : y2 * b ≤ x2 * a := by omega
    obtain ⟨r1, hr1⟩ : ∃ r1, r1 + x1 * a = y1 * b := ⟨y1 * b - x1 * a, by omega⟩
    obtain ⟨r2, hr2⟩ : ∃ r2, r2 + y2 * b = x2 * a := ⟨x2 * a - y2 * b, by omega⟩
    refine ⟨r1, r2, by omega, ?_, ?_, p1, y2p, hr1, hr2⟩
    · have s1 := congrArg (y2 * ·) hr1
      have s2 := congrArg (y1 * ·) hr2
      simp only [Nat.mul_add] at s1 s2
      have s3 := congrArg (· * a) hdet
      simp only [Nat.add_mul, Nat.one_mul] at s3
      rw [Nat.mul_left_comm y2 y1 b] at s1
      rw [← Nat.mul_assoc y2 x1 a, Nat.mul_comm y2 x1] at s1
      rw [← Nat.mul_assoc y1 x2 a, Nat.mul_comm y1 x2] at s2
      omega
    · have s1 := congrArg (x2 * ·) hr1
      have s2 := congrArg (x1 * ·) hr2
      simp only [Nat.mul_add] at s1 s2
      have s3 := congrArg (· * b) hdet
      simp only [Nat.add_mul, Nat.one_mul] at s3
      rw [Nat.mul_left_comm x2 x1 a] at s1
      rw [← Nat.mul_assoc x2 y1 b] at s1
      rw [← Nat.mul_assoc x1 y2 b] at s2
      omega

/-- Two numbers that make a and b, and that a and b make, have a and b's greatest common divisor. -/
theorem Lm.gcd {x1 y1 x2 y2 a b r1 r2 : Nat} {o : Bool} (e1 : a = y2 * r1 + y1 * r2) (e2 : b = x2 * r1 + x1 * r2) (h : if o then r1 + x1 * a = y1 * b ∧ r2 + y2 * b = x2 * a else r1 + y1 * b = x1 * a ∧ r2 + x2 * a = y2 * b) : Nat.gcd r1 r2 = Nat.gcd a b := by
  have d1 := Nat.gcd_dvd_left r1 r2
  have d2 := Nat.gcd_dvd_right r1 r2
  have d3 := Nat.gcd_dvd_left a b
  have d4 := Nat.gcd_dvd_right a b
  apply Nat.dvd_antisymm
  · apply Nat.dvd_gcd
    · rw [e1]; exact Nat.dvd_add (Nat.dvd_trans d1 (Nat.dvd_mul_left _ _)) (Nat.dvd_trans d2 (Nat.dvd_mul_left _ _))
    · rw [e2]; exact Nat.dvd_add (Nat.dvd_trans d1 (Nat.dvd_mul_left _ _)) (Nat.dvd_trans d2 (Nat.dvd_mul_left _ _))
  · generalize Nat.gcd a b = d at d3 d4 ⊢
    have key : ∀ r u v m n : Nat, r + u * m = v * n → d ∣ m → d ∣ n → d ∣ r := fun r u v m n he hm hn => by
      have h1 : d ∣ r + u * m := by rw [he]; exact Nat.dvd_trans hn (Nat.dvd_mul_left _ _)
      exact (Nat.dvd_add_left (Nat.dvd_trans hm (Nat.dvd_mul_left _ _))).1 h1
    cases o with
    | false =>
      simp only [Bool.false_eq_true, if_false] at h
      exact Nat.dvd_gcd (key _ _ _ _ _ h.1 d4 d3) (key _ _ _ _ _ h.2 d3 d4)
    | true =>
      simp only [if_true] at h
      exact Nat.dvd_gcd (key _ _ _ _ _ h.1 d3 d4) (key _ _ _ _ _ h.2 d4 d3)
theorem Lm.less {x1 y1 x2 y2 a b r1 r2 : Nat} (e1 : a = y2 * r1 + y1 * r2) (h1 : 1 ≤ y1) (h2 : 1 ≤ y2) : r1 + r2 ≤ a := by
  have g1 := Nat.mul_le_mul_right r1 h2
  have g2 := Nat.mul_le_mul_right r2 h1
  omega
end Go.Proofs.YtoehkaagfokamaaGreatDoor
