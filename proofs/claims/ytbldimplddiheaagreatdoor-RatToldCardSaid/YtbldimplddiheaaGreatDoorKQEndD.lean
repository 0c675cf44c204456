import Derived.Test.YtbldimplddiheaaGreatDoorKZHeld
import Derived.Test.YtbldimplddiheaaGreatDoorKQWords
import Derived.Test.YtbldimplddiheaaGreatDoorKQJ
import Derived.Test.YtbldimplddiheaaGreatDoorKQG
/- ZRing QTold QEndD. -/
/- The law WholeRing. -/
namespace Go.Proofs.YtbldimplddiheaaGreatDoor
open Go.RowKit Go.Shelf
set_option linter.unusedVariables false
set_option linter.unusedSimpArgs false

/-- The world behind three boxes. -/
structure Thr (w W : World) (p : Bool) (A : Option Addr) (na ca : Nat) (q : Bool) (A2 : Option Addr) (nb cb : Nat) (r : Bool) (A3 : Option Addr) (nc cc : Nat) : Prop where
  t : Two w W p A na ca q A2 nb cb
  z : BoxZ W (w.heap.size + 1 + 1) r A3 nc cc
theorem Thr.next {w W W' : World} {p : Bool} {A : Option Addr} {na ca : Nat} {q : Bool} {A2 : Option Addr} {nb cb : Nat} {r : Bool} {A3 : Option Addr} {nc cc : Nat} (h : Thr w W p A na ca q A2 nb cb r A3 nc cc) (hb : Below W.heap.size W W') : Thr w W' p A na ca q A2 nb cb r A3 nc cc :=
  ⟨h.t.next hb, h.z.below hb (Array.getElem?_eq_some_iff.1 h.z).1⟩
theorem thr_box (w : World) (p : Bool) (A : Option Addr) (na ca : Nat) (q : Bool) (A2 : Option Addr) (nb cb : Nat) (r : Bool) (A3 : Option Addr) (nc cc : Nat) : Thr w (((w.alloc (zo p A na ca)).alloc (zo q A2 nb cb)).alloc (zo r A3 nc cc)) p A na ca q A2 nb cb r A3 nc cc := by
  refine ⟨(two_box w p A na ca q A2 nb cb).next (bxb _ _), ?_⟩
  have h := World.alloc_heap_new ((w.alloc (zo p A na ca)).alloc (zo q A2 nb cb)) (zo r A3 nc cc)
  rw [World.size_alloc, World.size_alloc] at h
  exact h
section
variable (A A2 A3 : Option Addr) (na ca nb cb nc cc : Nat) (p q r : Bool) (a b c : List Nat) (w : World)
end
end Go.Proofs.YtbldimplddiheaaGreatDoor

/- The law RatTold, from what the calls of rat are. -/
namespace Go.Proofs.YtbldimplddiheaaGreatDoor
open Go.RowKit Go.Shelf
set_option linter.unusedVariables false
set_option linter.unusedSimpArgs false

theorem sameQTd {w : World} {v v2 : QV} {x y : Rat} {F : Nat} (hF : SameQIs F) (h1 : QNm w v x) (h2 : QNm w v2 y) (l1 : v.n ≤ 60) (l2 : v.m ≤ 60) (l3 : v2.n ≤ 60) (l4 : v2.m ≤ 60) (e : x = y) : Calls Tryz.prog F #[v.v, v2.v] w fun e w' => e = .returned (.bool true) ∧ Below w.heap.size w w' := by
  have h := sameQN hF h1 h2 l1 l2 l3 l4
  rwa [decide_eq_true e] at h
theorem boxq_newT (w : World) : BoxQ (w.alloc qz) w.heap.size QV.zero := World.alloc_heap_new _ _
theorem BdQ.divInt {k m : Nat} {z u : Int} (h1 : Bd k z) (h2 : Bd m u) (hu : u ≠ 0) : BdQ k m (Rat.divInt z u) := by
  rw [← of_rat z u hu]
  refine BdQ.mk ?_ h2 (by omega)
  split
  · exact h1.neg
  · exact h1
theorem mulM {A A2 : Option Addr} {na ca nb cb : Nat} {w : World} {z y t : Int} (h1 : ZNm w A na ca z) (h2 : ZNm w A2 nb cb y) (l1 : na ≤ 400) (l2 : nb ≤ 400) (e : t = z * y) : Calls Tryz.prog 35 #[.agg #[.bool (decide (z < 0)), .slice A na ca], .agg #[.bool (decide (y < 0)), .slice A2 nb cb]] w (ZAns w t 0) := by
  subst e
  exact mulN h1 h2 l1 l2
section
variable {w : World} {v : QV} {x : Rat} {F : Nat}
/-- The fraction of a fraction's own two numbers. -/
theorem ofOwn (hF : OfQIs F) (h : QNm w v x) (l1 : v.n ≤ 60) (l2 : v.m ≤ 60) : Calls Tryz.prog F #[.agg #[.bool v.p, .slice v.A v.n v.c], .agg #[.bool false, .slice v.D v.m v.d]] w fun e w' => ∃ vr : QV, e = .returned (.tuple #[vr.v, .int .i64 0]) ∧ QOwn w' w.heap.size vr x ∧ Below w.heap.size w w' := by
  have hd : ZNm w v.D v.m v.d (x.den : Int) := by show Nm _ _ _ _ ((x.den : Int)).natAbs; rw [Int.natAbs_natCast]; exact h.d
  have h2 := ofQN (x := x) hF h.a hd (by omega) (by omega) (by have := x.den_nz; omega) (self_rat x)
  rw [← h.s, show decide ((x.den : Int) < 0) = false from decide_eq_false (by omega)] at h2
  exact h2
end
set_option maxRecDepth 100000 in
set_option maxHeartbeats 20000000 in
theorem toldQ_ok (A A2 A3 : Option Addr) (na ca nb cb nc cc : Nat) (z y x : Int) (w : World) (hz : ZNm w A na ca z) (hy : ZNm w A2 nb cb y) (hx : ZNm w A3 nc cc x) (m1 : na ≤ 8) (m2 : nb ≤ 8) (m3 : nc ≤ 8) (hy0 : y ≠ 0) (hx0 : x ≠ 0)
    (hAl : ∀ W, Calls Tryz.prog 17 #[] W fun e w' => e = .returned (.bool true) ∧ Below W.heap.size W w') (hOf : OfQIs 8) (hCheck : CheckQIs 19) :
    Calls Tryz.prog 6 #[zV z A na ca, zV y A2 nb cb, zV x A3 nc cc] w fun e w' => e = .returned (.bool true) ∧ Below w.heap.size w w' := by
  have Lz : Hid (Bd 8 z) := Bd.of hz m1
  have Ly : Hid (Bd 8 y) := Bd.of hy m2
  have Lx : Hid (Bd 8 x) := Bd.of hx m3
  have lz : na ≤ 400 := by omega
  have ly : nb ≤ 400 := by omega
  have lx : nc ≤ 400 := by omega
  have HAl := Lib.hid hAl
  have HOf := Lib.hid hOf
  have HCheck := Lib.hid hCheck
  have HY0 := Lib.hid hy0
  have HX0 := Lib.hid hx0
  clear hAl hOf hCheck hy0 hx0
  have HSame : Hid (SameQIs 28) := fun _ _ _ _ _ _ _ h1 h2 => rSameQ_any h1 h2
  obtain ⟨q, eq⟩ : ∃ s : Rat, s = Rat.divInt z y := ⟨_, rfl⟩
  have Lq : Hid (BdQ 8 8 q) := by show BdQ _ _ _; rw [eq]; exact BdQ.divInt Lz.out Ly.out HY0.out
  have Eq := Lib.hid eq
  clear eq
  obtain ⟨zx, ezx⟩ : ∃ s : Int, s = z * x := ⟨_, rfl⟩
  have Lzx : Hid (Bd 16 zx) := by show Bd _ _; rw [ezx]; exact Lz.out.mul Lx.out
  have Ezx := Lib.hid ezx
  clear ezx
  obtain ⟨yx, eyx⟩ : ∃ s : Int, s = y * x := ⟨_, rfl⟩
  have Lyx : Hid (Bd 16 yx) := by show Bd _ _; rw [eyx]; exact Ly.out.mul Lx.out
  have Eyx := Lib.hid eyx
  clear eyx
  have HYX : Hid (yx ≠ 0) := by show _ ≠ _; rw [Eyx.out]; exact Int.mul_ne_zero HY0.out HX0.out
  have HQ : Hid (Rat.divInt zx yx = q) := by show _ = _; rw [Ezx.out, Eyx.out, Eq.out]; exact Rat.divInt_mul_right HX0.out
  have hnc : ((nc : Int) == 0) = false := by have h1 : nc ≠ 0 := fun e => HX0.out (by have := Nm.zero (v := x.natAbs) hx; omega); simpa using h1
  have HNC := Lib.hid hnc
  clear hnc
  have G8 : Hid (¬ (8 : Int) < (na : Int) ∧ ¬ (8 : Int) < (nb : Int) ∧ ¬ (8 : Int) < (nc : Int)) := by show _ ∧ _ ∧ _; omega
  have K0 := heldq_nil w
  have J0 := held_nil w
  have D0 := Below.refl w.heap.size w
  have K1 := K0.next (bxb _ (zo (decide (z < 0)) A na ca))
  have J1 := (J0.next (bxb _ (zo (decide (z < 0)) A na ca))).cons (It.param (hz) lz)
  have D1 := below_then D0 (bxb _ (zo (decide (z < 0)) A na ca))
  have K2 := K1.next (bxb _ (zo (decide (y < 0)) A2 nb cb))
  have J2 := (J1.next (bxb _ (zo (decide (y < 0)) A2 nb cb))).cons (It.param (hy.below D1) ly)
  have D2 := below_then D1 (bxb _ (zo (decide (y < 0)) A2 nb cb))
  have K3 := K2.next (bxb _ (zo (decide (x < 0)) A3 nc cc))
  have J3 := (J2.next (bxb _ (zo (decide (x < 0)) A3 nc cc))).cons (It.param (hx.below D2) lx)
  have D3 := below_then D2 (bxb _ (zo (decide (x < 0)) A3 nc cc))
  try simp only [World.size_alloc] at K3
  try simp only [World.size_alloc] at J3
  have HH0 := Lib.hid K3
  have HZ0 := Lib.hid J3
  have HB0 := Lib.hid D3
  clear K0 J0 D0 K1 J1 D1 K2 J2 D2 K3 J3 D3
  clear hz hy hx
  clear m1 m2 m3
  have g8 := G8.out.1
  have g9 := G8.out.2.1
  have g10 := G8.out.2.2
  unfold zV zv
  try dsimp only [QV.v, zv, zV]
  go_enter Tryz.func6, Tryz.ntmps6
  go_wp2_with fail
  refine (HAl.out _).mono ?_
  rintro e v1_ ⟨rfl, hb⟩
  have HH1 := Lib.hid (HH0.out.next hb)
  have HZ1 := Lib.hid (HZ0.out.next hb)
  have HB1 := Lib.hid (below_then HB0.out hb)
  clear HH0 HZ0 HB0
  clear hb
  have xz0 := (HZ1.out _ (.tail _ (.tail _ (.head _)))).b.c0
  have xz1 := (HZ1.out _ (.tail _ (.tail _ (.head _)))).b.c1
  have xy0 := (HZ1.out _ (.tail _ (.head _))).b.c0
  have xy1 := (HZ1.out _ (.tail _ (.head _))).b.c1
  have xx0 := (HZ1.out _ (.head _)).b.c0
  have xx1 := (HZ1.out _ (.head _)).b.c1
  go_wp2_with fail
  refine (ofQN (x := q) HOf.out (HZ1.out _ (.tail _ (.tail _ (.head _)))).m (HZ1.out _ (.tail _ (.head _))).m (HZ1.out _ (.tail _ (.tail _ (.head _)))).l (HZ1.out _ (.tail _ (.head _))).l HY0.out Eq.out.symm).mono ?_
  rintro e v2_ ⟨q2, rfl, o2, hb⟩
  have HL := Lib.hid (Lq.out.len o2)
  have HH2 : Hid (HeldQ (v2_.alloc (.cells #[.bool q2.p, .slice q2.A q2.n q2.c, .slice q2.D q2.m q2.d] qT)) [⟨v2_.heap.size, q2, q⟩]) := Lib.hid ((HH1.out.next (below_then hb (bxb _ q2.o))).cons (IQ.fresh o2 (by have := HL.out; omega) (by have := HL.out; omega)))
  have HZ2 : Hid (Held (v2_.alloc (.cells #[.bool q2.p, .slice q2.A q2.n q2.c, .slice q2.D q2.m q2.d] qT)) [⟨w.heap.size + 1 + 1, x, A3, nc, cc⟩, ⟨w.heap.size + 1, y, A2, nb, cb⟩, ⟨w.heap.size, z, A, na, ca⟩]) := Lib.hid (HZ1.out.next (below_then hb (bxb _ q2.o)))
  have HB2 : Hid (Below w.heap.size w (v2_.alloc (.cells #[.bool q2.p, .slice q2.A q2.n q2.c, .slice q2.D q2.m q2.d] qT))) := Lib.hid (below_then HB1.out (below_then hb (bxb _ q2.o)))
  clear hb o2 HL HH1 HZ1 HB1
  unfold QV.v
  clear xz0 xz1 xy0 xy1 xx0 xx1
  have xz0 := (HZ2.out _ (.tail _ (.tail _ (.head _)))).b.c0
  have xz1 := (HZ2.out _ (.tail _ (.tail _ (.head _)))).b.c1
  have xx0 := (HZ2.out _ (.head _)).b.c0
  have xx1 := (HZ2.out _ (.head _)).b.c1
  go_wp2_with fail
  refine (mulM (HZ2.out _ (.tail _ (.tail _ (.head _)))).m (HZ2.out _ (.head _)).m (HZ2.out _ (.tail _ (.tail _ (.head _)))).l (HZ2.out _ (.head _)).l Ezx.out).mono ?_
  rintro e v3_ ⟨N3, n3, d3, rfl, o3, hb⟩
  have HL := Lib.hid (Lzx.out.len o3)
  have HZ3 : Hid (Held (v3_.alloc (.cells #[.bool (decide (zx < 0)), .slice N3 n3 d3] zT)) [⟨v3_.heap.size, zx, N3, n3, d3⟩, ⟨w.heap.size + 1 + 1, x, A3, nc, cc⟩, ⟨w.heap.size + 1, y, A2, nb, cb⟩, ⟨w.heap.size, z, A, na, ca⟩]) := Lib.hid ((HZ2.out.next (below_then hb (bxb _ (zo (decide (zx < 0)) N3 n3 d3)))).cons (It.fresh o3 (by have := HL.out; omega)))
  have HH3 : Hid (HeldQ (v3_.alloc (.cells #[.bool (decide (zx < 0)), .slice N3 n3 d3] zT)) [⟨v2_.heap.size, q2, q⟩]) := Lib.hid (HH2.out.next (below_then hb (bxb _ (zo (decide (zx < 0)) N3 n3 d3))))
  have HB3 : Hid (Below w.heap.size w (v3_.alloc (.cells #[.bool (decide (zx < 0)), .slice N3 n3 d3] zT))) := Lib.hid (below_then HB2.out (below_then hb (bxb _ (zo (decide (zx < 0)) N3 n3 d3))))
  clear hb o3 HL HH2 HZ2 HB2
  unfold zV zv
  clear xz0 xz1 xx0 xx1
  have xy0 := (HZ3.out _ (.tail _ (.tail _ (.head _)))).b.c0
  have xy1 := (HZ3.out _ (.tail _ (.tail _ (.head _)))).b.c1
  have xx0 := (HZ3.out _ (.tail _ (.head _))).b.c0
  have xx1 := (HZ3.out _ (.tail _ (.head _))).b.c1
  go_wp2_with fail
  refine (mulM (HZ3.out _ (.tail _ (.tail _ (.head _)))).m (HZ3.out _ (.tail _ (.head _))).m (HZ3.out _ (.tail _ (.tail _ (.head _)))).l (HZ3.out _ (.tail _ (.head _))).l Eyx.out).mono ?_
  rintro e v4_ ⟨N4, n4, d4, rfl, o4, hb⟩
  have HL := Lib.hid (Lyx.out.len o4)
  have HZ4 : Hid (Held (v4_.alloc (.cells #[.bool (decide (yx < 0)), .slice N4 n4 d4] zT)) [⟨v4_.heap.size, yx, N4, n4, d4⟩, ⟨v3_.heap.size, zx, N3, n3, d3⟩, ⟨w.heap.size + 1 + 1, x, A3, nc, cc⟩, ⟨w.heap.size + 1, y, A2, nb, cb⟩, ⟨w.heap.size, z, A, na, ca⟩]) := Lib.hid ((HZ3.out.next (below_then hb (bxb _ (zo (decide (yx < 0)) N4 n4 d4)))).cons (It.fresh o4 (by have := HL.out; omega)))
  have HH4 : Hid (HeldQ (v4_.alloc (.cells #[.bool (decide (yx < 0)), .slice N4 n4 d4] zT)) [⟨v2_.heap.size, q2, q⟩]) := Lib.hid (HH3.out.next (below_then hb (bxb _ (zo (decide (yx < 0)) N4 n4 d4))))
  have HB4 : Hid (Below w.heap.size w (v4_.alloc (.cells #[.bool (decide (yx < 0)), .slice N4 n4 d4] zT))) := Lib.hid (below_then HB3.out (below_then hb (bxb _ (zo (decide (yx < 0)) N4 n4 d4))))
  clear hb o4 HL HH3 HZ3 HB3
  unfold zV zv
  clear xy0 xy1 xx0 xx1
  have xzx0 := (HZ4.out _ (.tail _ (.head _))).b.c0
  have xzx1 := (HZ4.out _ (.tail _ (.head _))).b.c1
  have xyx0 := (HZ4.out _ (.head _)).b.c0
  have xyx1 := (HZ4.out _ (.head _)).b.c1
  go_wp2_with fail
  refine (ofQN (x := q) HOf.out (HZ4.out _ (.tail _ (.head _))).m (HZ4.out _ (.head _)).m (HZ4.out _ (.tail _ (.head _))).l (HZ4.out _ (.head _)).l HYX.out HQ.out).mono ?_
  rintro e v5_ ⟨q5, rfl, o5, hb⟩
  have HL := Lib.hid (Lq.out.len o5)
  have HH5 : Hid (HeldQ (v5_.alloc (.cells #[.bool q5.p, .slice q5.A q5.n q5.c, .slice q5.D q5.m q5.d] qT)) [⟨v5_.heap.size, q5, q⟩, ⟨v2_.heap.size, q2, q⟩]) := Lib.hid ((HH4.out.next (below_then hb (bxb _ q5.o))).cons (IQ.fresh o5 (by have := HL.out; omega) (by have := HL.out; omega)))
  have HZ5 : Hid (Held (v5_.alloc (.cells #[.bool q5.p, .slice q5.A q5.n q5.c, .slice q5.D q5.m q5.d] qT)) [⟨v4_.heap.size, yx, N4, n4, d4⟩, ⟨v3_.heap.size, zx, N3, n3, d3⟩, ⟨w.heap.size + 1 + 1, x, A3, nc, cc⟩, ⟨w.heap.size + 1, y, A2, nb, cb⟩, ⟨w.heap.size, z, A, na, ca⟩]) := Lib.hid (HZ4.out.next (below_then hb (bxb _ q5.o)))
  have HB5 : Hid (Below w.heap.size w (v5_.alloc (.cells #[.bool q5.p, .slice q5.A q5.n q5.c, .slice q5.D q5.m q5.d] qT))) := Lib.hid (below_then HB4.out (below_then hb (bxb _ q5.o)))
  clear hb o5 HL HH4 HZ4 HB4
  unfold QV.v
  clear xzx0 xzx1 xyx0 xyx1
  have cq0 := (HH5.out _ (.tail _ (.head _))).b.c0
  have cq1 := (HH5.out _ (.tail _ (.head _))).b.c1
  have cq2 := (HH5.out _ (.tail _ (.head _))).b.c2
  go_wp2_with fail
  refine (ofOwn HOf.out (HH5.out _ (.tail _ (.head _))).m (HH5.out _ (.tail _ (.head _))).ln (HH5.out _ (.tail _ (.head _))).ld).mono ?_
  rintro e v6_ ⟨q6, rfl, o6, hb⟩
  have HL := Lib.hid (Lq.out.len o6)
  have HH6 : Hid (HeldQ (v6_.alloc (.cells #[.bool q6.p, .slice q6.A q6.n q6.c, .slice q6.D q6.m q6.d] qT)) [⟨v6_.heap.size, q6, q⟩, ⟨v5_.heap.size, q5, q⟩, ⟨v2_.heap.size, q2, q⟩]) := Lib.hid ((HH5.out.next (below_then hb (bxb _ q6.o))).cons (IQ.fresh o6 (by have := HL.out; omega) (by have := HL.out; omega)))
  have HZ6 : Hid (Held (v6_.alloc (.cells #[.bool q6.p, .slice q6.A q6.n q6.c, .slice q6.D q6.m q6.d] qT)) [⟨v4_.heap.size, yx, N4, n4, d4⟩, ⟨v3_.heap.size, zx, N3, n3, d3⟩, ⟨w.heap.size + 1 + 1, x, A3, nc, cc⟩, ⟨w.heap.size + 1, y, A2, nb, cb⟩, ⟨w.heap.size, z, A, na, ca⟩]) := Lib.hid (HZ5.out.next (below_then hb (bxb _ q6.o)))
  have HB6 : Hid (Below w.heap.size w (v6_.alloc (.cells #[.bool q6.p, .slice q6.A q6.n q6.c, .slice q6.D q6.m q6.d] qT))) := Lib.hid (below_then HB5.out (below_then hb (bxb _ q6.o)))
  clear hb o6 HL HH5 HZ5 HB5
  unfold QV.v
  clear cq0 cq1 cq2
  have cown0 := (HH6.out _ (.head _)).b.c0
  have cown1 := (HH6.out _ (.head _)).b.c1
  have cown2 := (HH6.out _ (.head _)).b.c2
  have cq0 := (HH6.out _ (.tail _ (.tail _ (.head _)))).b.c0
  have cq1 := (HH6.out _ (.tail _ (.tail _ (.head _)))).b.c1
  have cq2 := (HH6.out _ (.tail _ (.tail _ (.head _)))).b.c2
  go_wp2_with fail
  refine (sameQTd HSame.out (HH6.out _ (.head _)).m (HH6.out _ (.tail _ (.tail _ (.head _)))).m (HH6.out _ (.head _)).ln (HH6.out _ (.head _)).ld (HH6.out _ (.tail _ (.tail _ (.head _)))).ln (HH6.out _ (.tail _ (.tail _ (.head _)))).ld rfl).mono ?_
  rintro e v7_ ⟨rfl, hb⟩
  have HH7 := Lib.hid (HH6.out.next hb)
  have HZ7 := Lib.hid (HZ6.out.next hb)
  have HB7 := Lib.hid (below_then HB6.out hb)
  clear HH6 HZ6 HB6
  clear hb
  clear cown0 cown1 cown2 cq0 cq1 cq2
  have cq0 := (HH7.out _ (.tail _ (.tail _ (.head _)))).b.c0
  have cq1 := (HH7.out _ (.tail _ (.tail _ (.head _)))).b.c1
  have cq2 := (HH7.out _ (.tail _ (.tail _ (.head _)))).b.c2
  go_wp2_with fail
  refine (checkQN HCheck.out (HH7.out _ (.tail _ (.tail _ (.head _)))).m (HH7.out _ (.tail _ (.tail _ (.head _)))).ln (HH7.out _ (.tail _ (.tail _ (.head _)))).ld).mono ?_
  rintro e v8_ ⟨rfl, hb⟩
  have HH8 := Lib.hid (HH7.out.next hb)
  have HZ8 := Lib.hid (HZ7.out.next hb)
  have HB8 := Lib.hid (below_then HB7.out hb)
  clear HH7 HZ7 HB7
  clear hb
  clear cq0 cq1 cq2
  have cq0 := (HH8.out _ (.tail _ (.tail _ (.head _)))).b.c0
  have cq1 := (HH8.out _ (.tail _ (.tail _ (.head _)))).b.c1
  have cq2 := (HH8.out _ (.tail _ (.tail _ (.head _)))).b.c2
  have cb0 := (HH8.out _ (.tail _ (.head _))).b.c0
  have cb1 := (HH8.out _ (.tail _ (.head _))).b.c1
  have cb2 := (HH8.out _ (.tail _ (.head _))).b.c2
  have xx0 := (HZ8.out _ (.tail _ (.tail _ (.head _)))).b.c0
  have xx1 := (HZ8.out _ (.tail _ (.tail _ (.head _)))).b.c1
  have hnc := HNC.out
  go_wp2_with fail
  refine (sameQTd HSame.out (HH8.out _ (.tail _ (.tail _ (.head _)))).m (HH8.out _ (.tail _ (.head _))).m (HH8.out _ (.tail _ (.tail _ (.head _)))).ln (HH8.out _ (.tail _ (.tail _ (.head _)))).ld (HH8.out _ (.tail _ (.head _))).ln (HH8.out _ (.tail _ (.head _))).ld rfl).mono ?_
  rintro e v9_ ⟨rfl, hb⟩
  have HH9 := Lib.hid (HH8.out.next hb)
  have HZ9 := Lib.hid (HZ8.out.next hb)
  have HB9 := Lib.hid (below_then HB8.out hb)
  clear HH8 HZ8 HB8
  clear hb
  clear cq0 cq1 cq2 cb0 cb1 cb2 xx0 xx1
  go_wp2
  go_ret
  exact ⟨by simp, HB9.out⟩
set_option maxRecDepth 100000 in
set_option maxHeartbeats 20000000 in
theorem toldQ_zero (A A2 A3 : Option Addr) (na ca nb cb cc : Nat) (z y x : Int) (w : World) (hz : ZNm w A na ca z) (hy : ZNm w A2 nb cb y) (hx : ZNm w A3 0 cc x) (m1 : na ≤ 8) (m2 : nb ≤ 8) (hy0 : y ≠ 0) (hx0 : x = 0)
    (hAl : ∀ W, Calls Tryz.prog 17 #[] W fun e w' => e = .returned (.bool true) ∧ Below W.heap.size W w') (hOf : OfQIs 8) (hCheck : CheckQIs 19) :
    Calls Tryz.prog 6 #[zV z A na ca, zV y A2 nb cb, zV x A3 0 cc] w fun e w' => e = .returned (.bool true) ∧ Below w.heap.size w w' := by
  have Lz : Hid (Bd 8 z) := Bd.of hz m1
  have Ly : Hid (Bd 8 y) := Bd.of hy m2
  have Lx : Hid (Bd 8 x) := Bd.of hx (by omega)
  have lz : na ≤ 400 := by omega
  have ly : nb ≤ 400 := by omega
  have lx : 0 ≤ 400 := by omega
  have HAl := Lib.hid hAl
  have HOf := Lib.hid hOf
  have HCheck := Lib.hid hCheck
  have HY0 := Lib.hid hy0
  have HX0 := Lib.hid hx0
  clear hAl hOf hCheck hy0 hx0
  have HSame : Hid (SameQIs 28) := fun _ _ _ _ _ _ _ h1 h2 => rSameQ_any h1 h2
  obtain ⟨q, eq⟩ : ∃ s : Rat, s = Rat.divInt z y := ⟨_, rfl⟩
  have Lq : Hid (BdQ 8 8 q) := by show BdQ _ _ _; rw [eq]; exact BdQ.divInt Lz.out Ly.out HY0.out
  have Eq := Lib.hid eq
  clear eq
  obtain ⟨zx, ezx⟩ : ∃ s : Int, s = z * x := ⟨_, rfl⟩
  have Lzx : Hid (Bd 16 zx) := by show Bd _ _; rw [ezx]; exact Lz.out.mul Lx.out
  have Ezx := Lib.hid ezx
  clear ezx
  obtain ⟨yx, eyx⟩ : ∃ s : Int, s = y * x := ⟨_, rfl⟩
  have Lyx : Hid (Bd 16 yx) := by show Bd _ _; rw [eyx]; exact Ly.out.mul Lx.out
  have Eyx := Lib.hid eyx
  clear eyx
  have HYX : Hid (yx = 0) := by show _ = _; rw [Eyx.out, HX0.out, Int.mul_zero]
  have G8 : Hid (¬ (8 : Int) < (na : Int) ∧ ¬ (8 : Int) < (nb : Int) ∧ ¬ (8 : Int) < (0 : Int)) := by show _ ∧ _ ∧ _; omega
  have K0 := heldq_nil w
  have J0 := held_nil w
  have D0 := Below.refl w.heap.size w
  have K1 := K0.next (bxb _ (zo (decide (z < 0)) A na ca))
  have J1 := (J0.next (bxb _ (zo (decide (z < 0)) A na ca))).cons (It.param (hz) lz)
  have D1 := below_then D0 (bxb _ (zo (decide (z < 0)) A na ca))
  have K2 := K1.next (bxb _ (zo (decide (y < 0)) A2 nb cb))
  have J2 := (J1.next (bxb _ (zo (decide (y < 0)) A2 nb cb))).cons (It.param (hy.below D1) ly)
  have D2 := below_then D1 (bxb _ (zo (decide (y < 0)) A2 nb cb))
  have K3 := K2.next (bxb _ (zo (decide (x < 0)) A3 0 cc))
  have J3 := (J2.next (bxb _ (zo (decide (x < 0)) A3 0 cc))).cons (It.param (hx.below D2) lx)
  have D3 := below_then D2 (bxb _ (zo (decide (x < 0)) A3 0 cc))
  try simp only [World.size_alloc] at K3
  try simp only [World.size_alloc] at J3
  have HH0 := Lib.hid K3
  have HZ0 := Lib.hid J3
  have HB0 := Lib.hid D3
  clear K0 J0 D0 K1 J1 D1 K2 J2 D2 K3 J3 D3
  clear hz hy hx
  clear m1 m2
  have g8 := G8.out.1
  have g9 := G8.out.2.1
  have g10 := G8.out.2.2
  unfold zV zv
  try dsimp only [QV.v, zv, zV]
  go_enter Tryz.func6, Tryz.ntmps6
  go_wp2_with fail
  refine (HAl.out _).mono ?_
  rintro e v1_ ⟨rfl, hb⟩
  have HH1 := Lib.hid (HH0.out.next hb)
  have HZ1 := Lib.hid (HZ0.out.next hb)
  have HB1 := Lib.hid (below_then HB0.out hb)
  clear HH0 HZ0 HB0
  clear hb
  have xz0 := (HZ1.out _ (.tail _ (.tail _ (.head _)))).b.c0
  have xz1 := (HZ1.out _ (.tail _ (.tail _ (.head _)))).b.c1
  have xy0 := (HZ1.out _ (.tail _ (.head _))).b.c0
  have xy1 := (HZ1.out _ (.tail _ (.head _))).b.c1
  have xx0 := (HZ1.out _ (.head _)).b.c0
  have xx1 := (HZ1.out _ (.head _)).b.c1
  go_wp2_with fail
  refine (ofQN (x := q) HOf.out (HZ1.out _ (.tail _ (.tail _ (.head _)))).m (HZ1.out _ (.tail _ (.head _))).m (HZ1.out _ (.tail _ (.tail _ (.head _)))).l (HZ1.out _ (.tail _ (.head _))).l HY0.out Eq.out.symm).mono ?_
  rintro e v2_ ⟨q2, rfl, o2, hb⟩
  have HL := Lib.hid (Lq.out.len o2)
  have HH2 : Hid (HeldQ (v2_.alloc (.cells #[.bool q2.p, .slice q2.A q2.n q2.c, .slice q2.D q2.m q2.d] qT)) [⟨v2_.heap.size, q2, q⟩]) := Lib.hid ((HH1.out.next (below_then hb (bxb _ q2.o))).cons (IQ.fresh o2 (by have := HL.out; omega) (by have := HL.out; omega)))
  have HZ2 : Hid (Held (v2_.alloc (.cells #[.bool q2.p, .slice q2.A q2.n q2.c, .slice q2.D q2.m q2.d] qT)) [⟨w.heap.size + 1 + 1, x, A3, 0, cc⟩, ⟨w.heap.size + 1, y, A2, nb, cb⟩, ⟨w.heap.size, z, A, na, ca⟩]) := Lib.hid (HZ1.out.next (below_then hb (bxb _ q2.o)))
  have HB2 : Hid (Below w.heap.size w (v2_.alloc (.cells #[.bool q2.p, .slice q2.A q2.n q2.c, .slice q2.D q2.m q2.d] qT))) := Lib.hid (below_then HB1.out (below_then hb (bxb _ q2.o)))
  clear hb o2 HL HH1 HZ1 HB1
  unfold QV.v
  clear xz0 xz1 xy0 xy1 xx0 xx1
  have xz0 := (HZ2.out _ (.tail _ (.tail _ (.head _)))).b.c0
  have xz1 := (HZ2.out _ (.tail _ (.tail _ (.head _)))).b.c1
  have xx0 := (HZ2.out _ (.head _)).b.c0
  have xx1 := (HZ2.out _ (.head _)).b.c1
  go_wp2_with fail
  refine (mulM (HZ2.out _ (.tail _ (.tail _ (.head _)))).m (HZ2.out _ (.head _)).m (HZ2.out _ (.tail _ (.tail _ (.head _)))).l (HZ2.out _ (.head _)).l Ezx.out).mono ?_
  rintro e v3_ ⟨N3, n3, d3, rfl, o3, hb⟩
  have HL := Lib.hid (Lzx.out.len o3)
  have HZ3 : Hid (Held (v3_.alloc (.cells #[.bool (decide (zx < 0)), .slice N3 n3 d3] zT)) [⟨v3_.heap.size, zx, N3, n3, d3⟩, ⟨w.heap.size + 1 + 1, x, A3, 0, cc⟩, ⟨w.heap.size + 1, y, A2, nb, cb⟩, ⟨w.heap.size, z, A, na, ca⟩]) := Lib.hid ((HZ2.out.next (below_then hb (bxb _ (zo (decide (zx < 0)) N3 n3 d3)))).cons (It.fresh o3 (by have := HL.out; omega)))
  have HH3 : Hid (HeldQ (v3_.alloc (.cells #[.bool (decide (zx < 0)), .slice N3 n3 d3] zT)) [⟨v2_.heap.size, q2, q⟩]) := Lib.hid (HH2.out.next (below_then hb (bxb _ (zo (decide (zx < 0)) N3 n3 d3))))
  have HB3 : Hid (Below w.heap.size w (v3_.alloc (.cells #[.bool (decide (zx < 0)), .slice N3 n3 d3] zT))) := Lib.hid (below_then HB2.out (below_then hb (bxb _ (zo (decide (zx < 0)) N3 n3 d3))))
  clear hb o3 HL HH2 HZ2 HB2
  unfold zV zv
  clear xz0 xz1 xx0 xx1
  have xy0 := (HZ3.out _ (.tail _ (.tail _ (.head _)))).b.c0
  have xy1 := (HZ3.out _ (.tail _ (.tail _ (.head _)))).b.c1
  have xx0 := (HZ3.out _ (.tail _ (.head _))).b.c0
  have xx1 := (HZ3.out _ (.tail _ (.head _))).b.c1
  go_wp2_with fail
  refine (mulM (HZ3.out _ (.tail _ (.tail _ (.head _)))).m (HZ3.out _ (.tail _ (.head _))).m (HZ3.out _ (.tail _ (.tail _ (.head _)))).l (HZ3.out _ (.tail _ (.head _))).l Eyx.out).mono ?_
  rintro e v4_ ⟨N4, n4, d4, rfl, o4, hb⟩
  have HL := Lib.hid (Lyx.out.len o4)
  have HZ4 : Hid (Held (v4_.alloc (.cells #[.bool (decide (yx < 0)), .slice N4 n4 d4] zT)) [⟨v4_.heap.size, yx, N4, n4, d4⟩, ⟨v3_.heap.size, zx, N3, n3, d3⟩, ⟨w.heap.size + 1 + 1, x, A3, 0, cc⟩, ⟨w.heap.size + 1, y, A2, nb, cb⟩, ⟨w.heap.size, z, A, na, ca⟩]) := Lib.hid ((HZ3.out.next (below_then hb (bxb _ (zo (decide (yx < 0)) N4 n4 d4)))).cons (It.fresh o4 (by have := HL.out; omega)))
  have HH4 : Hid (HeldQ (v4_.alloc (.cells #[.bool (decide (yx < 0)), .slice N4 n4 d4] zT)) [⟨v2_.heap.size, q2, q⟩]) := Lib.hid (HH3.out.next (below_then hb (bxb _ (zo (decide (yx < 0)) N4 n4 d4))))
  have HB4 : Hid (Below w.heap.size w (v4_.alloc (.cells #[.bool (decide (yx < 0)), .slice N4 n4 d4] zT))) := Lib.hid (below_then HB3.out (below_then hb (bxb _ (zo (decide (yx < 0)) N4 n4 d4))))
  clear hb o4 HL HH3 HZ3 HB3
  unfold zV zv
  clear xy0 xy1 xx0 xx1
  have xzx0 := (HZ4.out _ (.tail _ (.head _))).b.c0
  have xzx1 := (HZ4.out _ (.tail _ (.head _))).b.c1
  have xyx0 := (HZ4.out _ (.head _)).b.c0
  have xyx1 := (HZ4.out _ (.head _)).b.c1
  go_wp2_with fail
  refine (ofQ0 HOf.out (HZ4.out _ (.tail _ (.head _))).m (HZ4.out _ (.head _)).m (HZ4.out _ (.tail _ (.head _))).l (HZ4.out _ (.head _)).l HYX.out).mono ?_
  rintro e v5_ ⟨rfl, hb⟩
  have HH5 := Lib.hid (HH4.out.next hb)
  have HZ5 := Lib.hid (HZ4.out.next hb)
  have HB5 := Lib.hid (below_then HB4.out hb)
  clear HH4 HZ4 HB4
  clear hb
  have hA := bxb v5_ (.cells #[.bool false, .slice none 0 0, .slice none 0 0] qT)
  have HH6 := Lib.hid (HH5.out.next hA)
  have HZ6 := Lib.hid (HZ5.out.next hA)
  have HB6 := Lib.hid (below_then HB5.out hA)
  clear HH5 HZ5 HB5
  clear hA
  clear xzx0 xzx1 xyx0 xyx1
  have cq0 := (HH6.out _ (.head _)).b.c0
  have cq1 := (HH6.out _ (.head _)).b.c1
  have cq2 := (HH6.out _ (.head _)).b.c2
  go_wp2_with fail
  refine (ofOwn HOf.out (HH6.out _ (.head _)).m (HH6.out _ (.head _)).ln (HH6.out _ (.head _)).ld).mono ?_
  rintro e v7_ ⟨q7, rfl, o7, hb⟩
  have HL := Lib.hid (Lq.out.len o7)
  have HH7 : Hid (HeldQ (v7_.alloc (.cells #[.bool q7.p, .slice q7.A q7.n q7.c, .slice q7.D q7.m q7.d] qT)) [⟨v7_.heap.size, q7, q⟩, ⟨v2_.heap.size, q2, q⟩]) := Lib.hid ((HH6.out.next (below_then hb (bxb _ q7.o))).cons (IQ.fresh o7 (by have := HL.out; omega) (by have := HL.out; omega)))
  have HZ7 : Hid (Held (v7_.alloc (.cells #[.bool q7.p, .slice q7.A q7.n q7.c, .slice q7.D q7.m q7.d] qT)) [⟨v4_.heap.size, yx, N4, n4, d4⟩, ⟨v3_.heap.size, zx, N3, n3, d3⟩, ⟨w.heap.size + 1 + 1, x, A3, 0, cc⟩, ⟨w.heap.size + 1, y, A2, nb, cb⟩, ⟨w.heap.size, z, A, na, ca⟩]) := Lib.hid (HZ6.out.next (below_then hb (bxb _ q7.o)))
  have HB7 : Hid (Below w.heap.size w (v7_.alloc (.cells #[.bool q7.p, .slice q7.A q7.n q7.c, .slice q7.D q7.m q7.d] qT))) := Lib.hid (below_then HB6.out (below_then hb (bxb _ q7.o)))
  clear hb o7 HL HH6 HZ6 HB6
  unfold QV.v
  clear cq0 cq1 cq2
  have cown0 := (HH7.out _ (.head _)).b.c0
  have cown1 := (HH7.out _ (.head _)).b.c1
  have cown2 := (HH7.out _ (.head _)).b.c2
  have cq0 := (HH7.out _ (.tail _ (.head _))).b.c0
  have cq1 := (HH7.out _ (.tail _ (.head _))).b.c1
  have cq2 := (HH7.out _ (.tail _ (.head _))).b.c2
  go_wp2_with fail
  refine (sameQTd HSame.out (HH7.out _ (.head _)).m (HH7.out _ (.tail _ (.head _))).m (HH7.out _ (.head _)).ln (HH7.out _ (.head _)).ld (HH7.out _ (.tail _ (.head _))).ln (HH7.out _ (.tail _ (.head _))).ld rfl).mono ?_
  rintro e v8_ ⟨rfl, hb⟩
  have HH8 := Lib.hid (HH7.out.next hb)
  have HZ8 := Lib.hid (HZ7.out.next hb)
  have HB8 := Lib.hid (below_then HB7.out hb)
  clear HH7 HZ7 HB7
  clear hb
  clear cown0 cown1 cown2 cq0 cq1 cq2
  have cq0 := (HH8.out _ (.tail _ (.head _))).b.c0
  have cq1 := (HH8.out _ (.tail _ (.head _))).b.c1
  have cq2 := (HH8.out _ (.tail _ (.head _))).b.c2
  go_wp2_with fail
  refine (checkQN HCheck.out (HH8.out _ (.tail _ (.head _))).m (HH8.out _ (.tail _ (.head _))).ln (HH8.out _ (.tail _ (.head _))).ld).mono ?_
  rintro e v9_ ⟨rfl, hb⟩
  have HH9 := Lib.hid (HH8.out.next hb)
  have HZ9 := Lib.hid (HZ8.out.next hb)
  have HB9 := Lib.hid (below_then HB8.out hb)
  clear HH8 HZ8 HB8
  clear hb
  clear cq0 cq1 cq2
  have xx0 := (HZ9.out _ (.tail _ (.tail _ (.head _)))).b.c0
  have xx1 := (HZ9.out _ (.tail _ (.tail _ (.head _)))).b.c1
  go_wp2
  go_ret
  exact ⟨by simp, HB9.out⟩
theorem sameZero {F : Nat} {w : World} (hF : SameQIs F) : Calls Tryz.prog F #[.agg #[.bool false, .slice none 0 0, .slice none 0 0], .agg #[.bool false, .slice none 0 0, .slice none 0 0]] w fun e w' => e = .returned (.bool true) ∧ Below w.heap.size w w' := by
  have h := hF QV.zero QV.zero [] [] [] [] w ⟨rd_nil _ _, rd_nil _ _, Nat.zero_le _, Nat.zero_le _, Nat.zero_le _, by decide, Nat.zero_le _, by decide⟩ ⟨rd_nil _ _, rd_nil _ _, Nat.zero_le _, Nat.zero_le _, Nat.zero_le _, by decide, Nat.zero_le _, by decide⟩
  exact h
theorem sameWeak {F : Nat} {w : World} {v : QV} {a d : List Nat} (hF : SameQIs F) (h : Q1 w v a d) : Calls Tryz.prog F #[.agg #[.bool v.p, .slice v.A v.n v.c, .slice v.D v.m v.d], .agg #[.bool false, .slice none 0 0, .slice none 0 0]] w fun e w' => ∃ t : Bool, e = .returned (.bool t) ∧ Below w.heap.size w w' := by
  refine (hF v QV.zero a d [] [] w h ⟨rd_nil _ _, rd_nil _ _, Nat.zero_le _, Nat.zero_le _, Nat.zero_le _, by decide, Nat.zero_le _, by decide⟩).mono ?_
  rintro e w' ⟨he, hb⟩
  exact ⟨_, he, hb⟩
section
variable (A A2 A3 : Option Addr) (na ca nb cb nc cc : Nat) (p q r : Bool) (a b c : List Nat) (w : World)
/-- Of and Mul, when nothing but the error is asked. -/
theorem ofBad {F : Nat} (hF : OfQIs F) (h : Z2 w A A2 na ca nb cb a b) (hm : (twoM p a q b && !b.isEmpty) = false) : ∃ E : Int, E ≠ 0 ∧ Calls Tryz.prog F #[zv p A na ca, zv q A2 nb cb] w fun e w' => e = .returned (.tuple #[.agg #[.bool false, .slice none 0 0, .slice none 0 0], .int .i64 E]) ∧ Below w.heap.size w w' := by
  have h2 := hF A A2 na ca nb cb p q a b w h
  unfold QAns at h2
  rw [hm] at h2
  simp only [Bool.false_eq_true, if_false] at h2
  exact ⟨_, by split <;> decide, h2⟩
theorem mulWeak (h : Z2 w A A2 na ca nb cb a b) : Calls Tryz.prog 35 #[zv p A na ca, zv q A2 nb cb] w fun e w' => ∃ (A' : Option Addr) (k c : Nat) (s : Bool), e = .returned (.tuple #[.agg #[.bool s, .slice A' k c], .int .i64 (twoE p a q b)]) ∧ Below w.heap.size w w' := by
  refine (mulZ (p := p) (q := q) h).mono ?_
  rintro e w' ⟨A', k, c, he, o, hb⟩
  exact ⟨A', k, c, _, he, hb⟩
set_option maxRecDepth 100000 in
set_option maxHeartbeats 8000000 in
theorem toldQ_bad (h : Z2 w A A2 na ca nb cb a b) (h3 : Z1 w A3 nc cc c) (l1 : na ≤ 8) (l2 : nb ≤ 8) (l3 : nc ≤ 8) (hm : (twoM p a q b && !b.isEmpty) = false)
    (hAl : ∀ W, Calls Tryz.prog 17 #[] W fun e w' => e = .returned (.bool true) ∧ Below W.heap.size W w') (hOf : OfQIs 8) (hCheck : CheckQIs 19) :
    Calls Tryz.prog 6 #[zv p A na ca, zv q A2 nb cb, zv r A3 nc cc] w fun e w' => e = .returned (.bool true) ∧ Below w.heap.size w w' := by
  have T0 := thr_box w p A na ca q A2 nb cb r A3 nc cc
  have G8 : Hid (¬ (8 : Int) < (na : Int) ∧ ¬ (8 : Int) < (nb : Int) ∧ ¬ (8 : Int) < (nc : Int)) := by show _ ∧ _ ∧ _; omega
  have HAl := Lib.hid hAl
  have M1 := Lib.hid (fun W (hW : Below w.heap.size w W) => mulWeak A A3 na ca nc cc p r a c W ⟨h.ra.below hW, h3.ra.below hW, h.la, h3.la, h.ca1, h.ca2, h3.ca1, h3.ca2⟩)
  have M2 := Lib.hid (fun W (hW : Below w.heap.size w W) => mulWeak A2 A3 nb cb nc cc q r b c W ⟨h.rb.below hW, h3.ra.below hW, h.lb, h3.la, h.cb1, h.cb2, h3.ca1, h3.ca2⟩)
  have HO := Lib.hid (fun W (hW : Below w.heap.size w W) => ofBad A A2 na ca nb cb p q a b W hOf (h.below hW) hm)
  have HSame : Hid (SameQIs 28) := fun _ _ _ _ _ _ _ h1 h2 => rSameQ_any h1 h2
  generalize twoE p a r c = E1 at M1
  generalize twoE q b r c = E2 at M2
  clear h h3 l1 l2 l3 hm hAl hOf hCheck
  unfold zv at *
  go_enter Tryz.func6, Tryz.ntmps6
  have g8 := G8.out.1
  have g9 := G8.out.2.1
  have g10 := G8.out.2.2
  go_wp2_with fail
  refine (HAl.out _).mono ?_
  rintro e w1 ⟨rfl, hb⟩
  have T1 := T0.next hb
  clear hb T0
  have xa0 := T1.t.x.c0
  have xa1 := T1.t.x.c1
  have xb0 := T1.t.y.c0
  have xb1 := T1.t.y.c1
  have xc0 := T1.z.c0
  have xc1 := T1.z.c1
  go_wp2_with fail
  obtain ⟨E0, hE0, hO⟩ := HO.out _ T1.t.b
  have hE1 : (E0 != 0) = true := by simpa using hE0
  have hE2 : (E0 == 0) = false := by simpa using hE0
  clear hE0
  refine hO.mono ?_
  rintro e w2 ⟨rfl, hb⟩
  have T2 := T1.next (below_then hb (bxb _ qz))
  clear hb hO
  clear xa0 xa1 xb0 xb1 xc0 xc1
  have xa0 := T2.t.x.c0
  have xa1 := T2.t.x.c1
  have xb0 := T2.t.y.c0
  have xb1 := T2.t.y.c1
  have xc0 := T2.z.c0
  have xc1 := T2.z.c1
  go_wp2_with fail
  refine (M1.out _ T2.t.b).mono ?_
  rintro e w3 ⟨A5, k5, c5, s5, rfl, hb⟩
  have b2 := (boxq_newT w2).next (below_then hb (bxb _ (zo s5 A5 k5 c5)))
  have T3 := T2.next (below_then hb (bxb _ (zo s5 A5 k5 c5)))
  clear hb
  clear xa0 xa1 xb0 xb1 xc0 xc1
  have xa0 := T3.t.x.c0
  have xa1 := T3.t.x.c1
  have xb0 := T3.t.y.c0
  have xb1 := T3.t.y.c1
  have xc0 := T3.z.c0
  have xc1 := T3.z.c1
  go_wp2_with fail
  refine (M2.out _ T3.t.b).mono ?_
  rintro e w4 ⟨A6, k6, c6, s6, rfl, hb⟩
  have b3 := b2.next (below_then hb (bxb _ (zo s6 A6 k6 c6)))
  have T4 := T3.next (below_then hb (bxb _ (zo s6 A6 k6 c6)))
  clear hb b2
  clear xa0 xa1 xb0 xb1 xc0 xc1
  have xa0 := T4.t.x.c0
  have xa1 := T4.t.x.c1
  have xb0 := T4.t.y.c0
  have xb1 := T4.t.y.c1
  have xc0 := T4.z.c0
  have xc1 := T4.z.c1
  have qb0 := b3.c0
  have qb1 := b3.c1
  have qb2 := b3.c2
  go_wp2_with fail
  refine (sameZero HSame.out).mono ?_
  rintro e w5 ⟨rfl, hb⟩
  have T5 := T4.next hb
  clear hb
  go_wp2
  go_ret
  exact ⟨by simp, T5.t.b⟩
set_option maxRecDepth 100000 in
set_option maxHeartbeats 8000000 in
theorem toldQ_bad2 (h : Z2 w A A2 na ca nb cb a b) (h3 : Z1 w A3 nc cc c) (l1 : na ≤ 8) (l2 : nb ≤ 8) (l3 : nc ≤ 8) (hm : (twoM p a q b && !b.isEmpty) = true) (hm3 : mayZ r c = false)
    (hAl : ∀ W, Calls Tryz.prog 17 #[] W fun e w' => e = .returned (.bool true) ∧ Below W.heap.size W w') (hOf : OfQIs 8) (hCheck : CheckQIs 19) :
    Calls Tryz.prog 6 #[zv p A na ca, zv q A2 nb cb, zv r A3 nc cc] w fun e w' => e = .returned (.bool true) ∧ Below w.heap.size w w' := by
  have T0 := thr_box w p A na ca q A2 nb cb r A3 nc cc
  have G8 : Hid (¬ (8 : Int) < (na : Int) ∧ ¬ (8 : Int) < (nb : Int) ∧ ¬ (8 : Int) < (nc : Int)) := by show _ ∧ _ ∧ _; omega
  have HAl := Lib.hid hAl
  have M1 := Lib.hid (fun W (hW : Below w.heap.size w W) => mulWeak A A3 na ca nc cc p r a c W ⟨h.ra.below hW, h3.ra.below hW, h.la, h3.la, h.ca1, h.ca2, h3.ca1, h3.ca2⟩)
  have M2 := Lib.hid (fun W (hW : Below w.heap.size w W) => mulWeak A2 A3 nb cb nc cc q r b c W ⟨h.rb.below hW, h3.ra.below hW, h.lb, h3.la, h.cb1, h.cb2, h3.ca1, h3.ca2⟩)
  have HO := Lib.hid (fun W (hW : Below w.heap.size w W) => by have h2 := hOf A A2 na ca nb cb p q a b W (h.below hW); unfold QAns at h2; rw [hm] at h2; simp only [if_true] at h2; exact h2)
  have HSame : Hid (SameQIs 28) := fun _ _ _ _ _ _ _ h1 h2 => rSameQ_any h1 h2
  have hm2 : twoM p a q b = true ∧ b ≠ [] := by rw [Bool.and_eq_true] at hm; exact ⟨hm.1, by simpa using hm.2⟩
  have hz := h.num hm2.1
  have HL : Hid (BdQ 8 8 (Rat.divInt (zof p a) (zof q b))) := BdQ.divInt (Bd.of hz.1 l1) (Bd.of hz.2.1 l2) (zof_ne (twoM_iff.1 hm2.1).2 hm2.2)
  rw [show twoE p a r c = 8 by unfold twoE twoM; rw [hm3, Bool.and_false]; rfl] at M1
  generalize twoE q b r c = E2 at M2
  generalize Rat.divInt (zof p a) (zof q b) = t at *
  clear h h3 l1 l2 l3 hm hm2 hz hm3 hAl hOf hCheck
  unfold zv at *
  go_enter Tryz.func6, Tryz.ntmps6
  have g8 := G8.out.1
  have g9 := G8.out.2.1
  have g10 := G8.out.2.2
  go_wp2_with fail
  refine (HAl.out _).mono ?_
  rintro e w1 ⟨rfl, hb⟩
  have T1 := T0.next hb
  clear hb T0
  have xa0 := T1.t.x.c0
  have xa1 := T1.t.x.c1
  have xb0 := T1.t.y.c0
  have xb1 := T1.t.y.c1
  have xc0 := T1.z.c0
  have xc1 := T1.z.c1
  go_wp2_with fail
  refine (HO.out _ T1.t.b).mono ?_
  rintro e w2 ⟨vr, rfl, o2, hb⟩
  have hl := HL.out.len o2
  have T2 := T1.next (below_then hb (bxb _ vr.o))
  have n2 := o2.nm.below (bxb _ vr.o)
  have b1 : BoxQ (w2.alloc vr.o) w2.heap.size vr := World.alloc_heap_new _ _
  clear hb o2
  unfold QV.o at T2 n2 b1
  clear xa0 xa1 xb0 xb1 xc0 xc1
  have xa0 := T2.t.x.c0
  have xa1 := T2.t.x.c1
  have xb0 := T2.t.y.c0
  have xb1 := T2.t.y.c1
  have xc0 := T2.z.c0
  have xc1 := T2.z.c1
  unfold QV.v
  go_wp2_with fail
  refine (M1.out _ T2.t.b).mono ?_
  rintro e w3 ⟨A5, k5, c5, s5, rfl, hb⟩
  have b2 := b1.next (below_then hb (bxb _ (zo s5 A5 k5 c5)))
  have n3 := n2.below (below_then hb (bxb _ (zo s5 A5 k5 c5)))
  have T3 := T2.next (below_then hb (bxb _ (zo s5 A5 k5 c5)))
  clear hb b1 n2
  clear xa0 xa1 xb0 xb1 xc0 xc1
  have xa0 := T3.t.x.c0
  have xa1 := T3.t.x.c1
  have xb0 := T3.t.y.c0
  have xb1 := T3.t.y.c1
  have xc0 := T3.z.c0
  have xc1 := T3.z.c1
  go_wp2_with fail
  refine (M2.out _ T3.t.b).mono ?_
  rintro e w4 ⟨A6, k6, c6, s6, rfl, hb⟩
  have b3 := b2.next (below_then hb (bxb _ (zo s6 A6 k6 c6)))
  have n4 := n3.below (below_then hb (bxb _ (zo s6 A6 k6 c6)))
  have T4 := T3.next (below_then hb (bxb _ (zo s6 A6 k6 c6)))
  clear hb b2 n3
  clear xa0 xa1 xb0 xb1 xc0 xc1
  have xa0 := T4.t.x.c0
  have xa1 := T4.t.x.c1
  have xb0 := T4.t.y.c0
  have xb1 := T4.t.y.c1
  have xc0 := T4.z.c0
  have xc1 := T4.z.c1
  have qb0 := b3.c0
  have qb1 := b3.c1
  have qb2 := b3.c2
  go_wp2_with fail
  refine (sameWeak HSame.out (q1_num n4 (by omega) (by omega))).mono ?_
  rintro e w5 ⟨tt, rfl, hb⟩
  have T5 := T4.next hb
  clear hb
  cases tt
  · go_wp2
    go_ret
    exact ⟨by simp, T5.t.b⟩
  · go_wp2
    go_ret
    exact ⟨by simp, T5.t.b⟩
set_option maxRecDepth 100000 in
set_option maxHeartbeats 4000000 in
theorem toldQ_long (hl : 8 < na ∨ 8 < nb ∨ 8 < nc) (hAl : ∀ W, Calls Tryz.prog 17 #[] W fun e w' => e = .returned (.bool true) ∧ Below W.heap.size W w') :
    Calls Tryz.prog 6 #[zv p A na ca, zv q A2 nb cb, zv r A3 nc cc] w fun e w' => e = .returned (.bool true) ∧ Below w.heap.size w w' := by
  have T0 := thr_box w p A na ca q A2 nb cb r A3 nc cc
  have HAl := Lib.hid hAl
  clear hAl
  unfold zv at *
  by_cases k1 : 8 < na
  · have g1 : (8 : Int) < (na : Int) := by omega
    clear hl k1
    go_enter Tryz.func6, Tryz.ntmps6
    go_wp2_with fail
    refine (HAl.out _).mono ?_
    rintro e w1 ⟨rfl, hb⟩
    have T1 := T0.next hb
    clear hb T0
    have xa0 := T1.t.x.c0
    have xa1 := T1.t.x.c1
    have xb0 := T1.t.y.c0
    have xb1 := T1.t.y.c1
    have xc0 := T1.z.c0
    have xc1 := T1.z.c1
    go_wp2
    go_ret
    exact ⟨rfl, T1.t.b⟩
  · have g1 : ¬ (8 : Int) < (na : Int) := by omega
    by_cases k2 : 8 < nb
    · have g2 : (8 : Int) < (nb : Int) := by omega
      clear hl k1 k2
      go_enter Tryz.func6, Tryz.ntmps6
      go_wp2_with fail
      refine (HAl.out _).mono ?_
      rintro e w1 ⟨rfl, hb⟩
      have T1 := T0.next hb
      clear hb T0
      have xa0 := T1.t.x.c0
      have xa1 := T1.t.x.c1
      have xb0 := T1.t.y.c0
      have xb1 := T1.t.y.c1
      have xc0 := T1.z.c0
      have xc1 := T1.z.c1
      go_wp2
      go_ret
      exact ⟨rfl, T1.t.b⟩
    · have g2 : ¬ (8 : Int) < (nb : Int) := by omega
      have g3 : (8 : Int) < (nc : Int) := by omega
      clear hl k1 k2
      go_enter Tryz.func6, Tryz.ntmps6
      go_wp2_with fail
      refine (HAl.out _).mono ?_
      rintro e w1 ⟨rfl, hb⟩
      have T1 := T0.next hb
      clear hb T0
      have xa0 := T1.t.x.c0
      have xa1 := T1.t.x.c1
      have xb0 := T1.t.y.c0
      have xb1 := T1.t.y.c1
      have xc0 := T1.z.c0
      have xc1 := T1.z.c1
      go_wp2
      go_ret
      exact ⟨rfl, T1.t.b⟩
theorem toldQ_any (ra : Rd w A na a) (rb : Rd w A2 nb b) (rc : Rd w A3 nc c) (q1 : na ≤ ca ∧ ca ≤ 9223372036854775807) (q2 : nb ≤ cb ∧ cb ≤ 9223372036854775807) (q3 : nc ≤ cc ∧ cc ≤ 9223372036854775807)
    (hAl : ∀ W, Calls Tryz.prog 17 #[] W fun e w' => e = .returned (.bool true) ∧ Below W.heap.size W w') (hOf : OfQIs 8) (hCheck : CheckQIs 19) :
    Calls Tryz.prog 6 #[.agg #[.bool p, .slice A na ca], .agg #[.bool q, .slice A2 nb cb], .agg #[.bool r, .slice A3 nc cc]] w fun e w' => e = .returned (.bool true) ∧ Below w.heap.size w w' := by
  by_cases h8 : na ≤ 8 ∧ nb ≤ 8 ∧ nc ≤ 8
  · have h : Z2 w A A2 na ca nb cb a b := ⟨ra, rb, by omega, by omega, q1.1, q1.2, q2.1, q2.2⟩
    have h3 : Z1 w A3 nc cc c := ⟨rc, by omega, q3.1, q3.2⟩
    cases hm : (twoM p a q b && !b.isEmpty) with
    | false => exact toldQ_bad A A2 A3 na ca nb cb nc cc p q r a b c w h h3 h8.1 h8.2.1 h8.2.2 hm hAl hOf hCheck
    | true =>
      cases hm3 : mayZ r c with
      | false => exact toldQ_bad2 A A2 A3 na ca nb cb nc cc p q r a b c w h h3 h8.1 h8.2.1 h8.2.2 hm hm3 hAl hOf hCheck
      | true =>
        have hm2 : twoM p a q b = true ∧ b ≠ [] := by rw [Bool.and_eq_true] at hm; exact ⟨hm.1, by simpa using hm.2⟩
        have hz := h.num hm2.1
        have hx := znm_of rc hm3 q3.1 q3.2
        have e1 := mayZ_sgn (twoM_iff.1 hm2.1).1
        have e2 := mayZ_sgn (twoM_iff.1 hm2.1).2
        have e3 := mayZ_sgn hm3
        rw [e1, e2, e3]
        by_cases hx0 : zof r c = 0
        · have hn : nc = 0 := hx.1.zero.2 (by rw [hx0]; rfl)
          subst hn
          exact toldQ_zero A A2 A3 na ca nb cb cc _ _ _ w hz.1 hz.2.1 hx.1 h8.1 h8.2.1 (zof_ne (twoM_iff.1 hm2.1).2 hm2.2) hx0 hAl hOf hCheck
        · exact toldQ_ok A A2 A3 na ca nb cb nc cc _ _ _ w hz.1 hz.2.1 hx.1 h8.1 h8.2.1 h8.2.2 (zof_ne (twoM_iff.1 hm2.1).2 hm2.2) hx0 hAl hOf hCheck
  · exact toldQ_long A A2 A3 na ca nb cb nc cc p q r w (by omega) hAl
end
end Go.Proofs.YtbldimplddiheaaGreatDoor

/- The law RatTold, of all whole numbers. -/
namespace Go.Proofs.YtbldimplddiheaaGreatDoor
open Go.RowKit Go.Shelf
set_option linter.unusedVariables false

theorem toldQ_all (A A2 A3 : Option Addr) (na ca nb cb nc cc : Nat) (p q r : Bool) (a b c : List Nat) (w : World) (ra : Rd w A na a) (rb : Rd w A2 nb b) (rc : Rd w A3 nc c) (q1 : na ≤ ca ∧ ca ≤ 9223372036854775807) (q2 : nb ≤ cb ∧ cb ≤ 9223372036854775807) (q3 : nc ≤ cc ∧ cc ≤ 9223372036854775807) :
    Calls Tryz.prog 6 #[.agg #[.bool p, .slice A na ca], .agg #[.bool q, .slice A2 nb cb], .agg #[.bool r, .slice A3 nc cc]] w fun e w' => e = .returned (.bool true) ∧ Below w.heap.size w w' :=
  toldQ_any A A2 A3 na ca nb cb nc cc p q r a b c w ra rb rc q1 q2 q3 (fun W => qalive_any qof_is qadd_is qdiv_is qtext_is W) qof_is checkQ_is
end Go.Proofs.YtbldimplddiheaaGreatDoor
