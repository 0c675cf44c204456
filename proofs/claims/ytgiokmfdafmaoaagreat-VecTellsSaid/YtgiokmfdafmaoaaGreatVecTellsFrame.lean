/- VecTells holds: for any two rows and two numbers, also such as may not be, the law answers true: products, sums, scales, mixes, contents, lowest terms, which is ahead, what may be and sameness, or the errors, are the document answers, and what is handed in stays. No condition. -/
import Derived.Test.YtgiokmfdafmaoaaGreatJVTells
import Derived.WalkKit
import Derived.ProofKit
import Derived.OpenShut
import Derived.ShutString
import Derived.ChangeOld
import Derived.Below
namespace Go.Proofs.YtgiokmfdafmaoaaGreat.vecTells
open Go.ChangeShapes Go.WideShapes Go.ChangeAt Go.RowKit
open Go.ChangeMaps (open_string shut_string)
set_option linter.unusedVariables false

theorem own : ownKnob Tryz.prog.godebug = none := by kernel_rfl
theorem laidOut : laidOutB Tryz.prog = true := by kernel_rfl

theorem walk (a0 : Option Addr) (len0 cap0 : Nat) (l0 : List ZE) (a1 : Option Addr) (len1 cap1 : Nat) (l1 : List ZE) (s2 : Bool) (a2 : Option Addr) (len2 cap2 : Nat) (l2 : List Nat) (s3 : Bool) (a3 : Option Addr) (len3 cap3 : Nat) (l3 : List Nat) (w : World) (r0 : RdV w a0 len0 l0) (c0 : len0 ≤ cap0) (m0 : cap0 ≤ 9223372036854775807) (n0 : a0 = none → len0 = 0 ∧ cap0 = 0) (e0 : ∀ e, e ∈ l0 → e.A = none → e.n = 0 ∧ e.c = 0) (r1 : RdV w a1 len1 l1) (c1 : len1 ≤ cap1) (m1 : cap1 ≤ 9223372036854775807) (n1 : a1 = none → len1 = 0 ∧ cap1 = 0) (e1 : ∀ e, e ∈ l1 → e.A = none → e.n = 0 ∧ e.c = 0) (r2 : Rd w a2 len2 l2) (c2 : len2 ≤ cap2) (m2 : cap2 ≤ 9223372036854775807) (r3 : Rd w a3 len3 l3) (c3 : len3 ≤ cap3) (m3 : cap3 ≤ 9223372036854775807) :
    Calls Tryz.prog 4 #[.slice a0 len0 cap0, .slice a1 len1 cap1, .agg #[.bool s2, .slice a2 len2 cap2], .agg #[.bool s3, .slice a3 len3 cap3]] w fun e w' => e = .returned (.bool true) ∧ Below w.heap.size w w' := by
  exact vtells_any a0 a1 a2 a3 len0 cap0 len1 cap1 len2 cap2 len3 cap3 l0 l1 s2 s3 w l2 l3 ⟨r0, c0, m0, e0⟩ ⟨r1, c1, m1, e1⟩ r2 r3 ⟨c2, m2⟩ ⟨c3, m3⟩

set_option maxRecDepth 100000 in
theorem lifted (os : Os) (started : os.Started) (H : Type) (enc : TypeId × Value → H) :
    ReturnsInHanded {} Tryz.checked os 4 .any (Rows.vecTellsSpec.pre6 enc Tryz.prog Tryz.f4 Rows.vecTellsRow.domain false) (Rows.vecTellsSpec.post enc Tryz.prog Tryz.f4 false true false false) := by
  refine returnsInHanded_of_change (C := Tryz.checked) own started (by kernel_rfl) Tryz.func4
    (ChangeSpec.witness6 (enc := enc) (C := Tryz.checked) false ⟨#[], #[.slice none 0 0, .slice none 0 0, .agg #[.bool false, .slice none 0 0], .agg #[.bool false, .slice none 0 0]], []⟩ 8 (by kernel_rfl) (by kernel_rfl) (by kernel_rfl) (by kernel_rfl)) ?_
  intro W base args ds gs before hval0 hW hcnd _
  have hval : ∀ (j : Nat) t v, Tryz.f4.params[j]? = some t → args[j]? = some v → Value.okWide Tryz.prog W .any base t v := hval0
  have hW' := hW
  obtain ⟨p, q, hA0, hV, rfl, hfz, hnd⟩ := hW
  have hA : DataW.TrodAll enc Tryz.prog W 0 (fun _ => true) true Tryz.f4.params.toList args.toList ds p := hA0
  rw [Tryz.params4] at hA hval
  obtain ⟨v0, vs0, d0, ds0, p0, q0, hargs, rfl, rfl, h0, r0⟩ := trodAll_cons hA
  obtain ⟨v1, vs1, d1, ds1, p1, q1, rfl, rfl, rfl, h1, r1⟩ := trodAll_cons r0
  obtain ⟨v2, vs2, d2, ds2, p2, q2, rfl, rfl, rfl, h2, r2⟩ := trodAll_cons r1
  obtain ⟨v3, vs3, d3, ds3, p3, q3, rfl, rfl, rfl, h3, r3⟩ := trodAll_cons r2
  obtain ⟨rfl, rfl, rfl⟩ := trodAll_nil r3
  obtain rfl : args = #[v0, v1, v2, v3] := by cases args; simp_all
  obtain ⟨rfl, rfl⟩ := trodVars_none hV
  have k0 := h0
  have lt0 : ∀ x ∈ p0, x.block < W.heap.size := by obtain ⟨m, hm⟩ := k0; exact DataW.trod_lt m _ _ _ hm
  obtain ⟨a0, len0, cap0, l0, rfl, u0, c0, m0, n0, e0⟩ := open_v Tryz.underlying28 (hval 0 28 v0 rfl rfl) h0
  have k1 := h1
  have lt1 : ∀ x ∈ p1, x.block < W.heap.size := by obtain ⟨m, hm⟩ := k1; exact DataW.trod_lt m _ _ _ hm
  obtain ⟨a1, len1, cap1, l1, rfl, u1, c1, m1, n1, e1⟩ := open_v Tryz.underlying28 (hval 1 28 v1 rfl rfl) h1
  have k2 := h2
  have lt2 : ∀ x ∈ p2, x.block < W.heap.size := by obtain ⟨m, hm⟩ := k2; exact DataW.trod_lt m _ _ _ hm
  obtain ⟨s2, a2, len2, cap2, l2, rfl, u2, c2, m2⟩ := open_z (hval 2 41 v2 rfl rfl) h2
  have k3 := h3
  have lt3 : ∀ x ∈ p3, x.block < W.heap.size := by obtain ⟨m, hm⟩ := k3; exact DataW.trod_lt m _ _ _ hm
  obtain ⟨s3, a3, len3, cap3, l3, rfl, u3, c3, m3⟩ := open_z (hval 3 41 v3 rfl rfl) h3
  clear hA0 hval0
  refine (walk a0 len0 cap0 l0 a1 len1 cap1 l1 s2 a2 len2 cap2 l2 s3 a3 len3 cap3 l3 W u0 c0 m0 n0 e0 u1 c1 m1 n1 e1 u2 c2 m2 u3 c3 m3).mono fun e W' ⟨he, bel⟩ => ?_
  subst he
  exact ⟨_, rfl, _, _, _, [], _, [], hW', trodAll_mk1 (shut_bool Tryz.underlying4 _), (trodAll_cons_mk (Below.trod laidOut (by kernel_rfl) (of_decide_eq_true (by kernel_rfl)) k0 bel lt0) (trodAll_cons_mk (Below.trod laidOut (by kernel_rfl) (of_decide_eq_true (by kernel_rfl)) k1 bel lt1) (trodAll_cons_mk (Below.trod laidOut (by kernel_rfl) (of_decide_eq_true (by kernel_rfl)) k2 bel lt2) (trodAll_cons_mk (Below.trod laidOut (by kernel_rfl) (of_decide_eq_true (by kernel_rfl)) k3 bel lt3) trodAll_mk0)))), rfl, bel.frame _, fun h => by cases h⟩

theorem over : Rows.vecTellsRow.holds Tryz.pinned (OpenSpec.ofChange Rows.vecTellsSpec) :=
  OpenClaim.holds_of_wide 4 Tryz.f4 rfl rfl rfl rfl rfl rfl rfl ⟨rfl, rfl, rfl, rfl, rfl⟩ rfl rfl rfl rfl rfl (by kernel_rfl) Tryz.func4 (by kernel_rfl)
    (of_decide_eq_true (by kernel_rfl)) (by unfold Func.isWrapper; first | (rw [if_pos (by decide +kernel)]; kernel_rfl) | (rw [if_neg (by decide +kernel)]; exact ⟨rfl, rfl⟩))
    (fun os started H enc _ => lifted os started H enc)

/-- ████ THE STATEMENT ████ -/
theorem proved : Rows.VecTellsSaid := over
#print axioms proved
end Go.Proofs.YtgiokmfdafmaoaaGreat.vecTells
