import Derived.Test.YtbldimplddiheaaGreatDoorKQWords
import Derived.Test.YtbldimplddiheaaGreatDoorKQJ
import Derived.Test.YtbldimplddiheaaGreatDoorKQG
import Derived.Test.YtbldimplddiheaaGreatDoorKQFr
/- QOrder QEndO. -/
/- The law RatOrder, from what the calls of rat are. -/
namespace Go.Proofs.YtbldimplddiheaaGreatDoor
open Go.RowKit Go.Shelf
set_option linter.unusedVariables false
set_option linter.unusedSimpArgs false

theorem q_of1 (n : Int) : Rat.divInt n 1 = (n : Rat) := by
  rw [show (1 : Int) = ((1 : Nat) : Int) from rfl, Rat.divInt_ofNat]
  exact Rat.mkRat_one n
theorem q_num0 (x y : Rat) : (x - y).num = 0 ↔ x = y := by
  rw [Rat.num_eq_zero]
  grind
theorem sgn_less {x : Rat} (h : x < 0) : (-1 : Int) = sgn x.num := by
  have h1 := @Rat.num_nonneg x
  have h2 : x.num < 0 := by
    rcases Int.lt_or_le x.num 0 with h2 | h2
    · exact h2
    · have := h1.1 h2
      grind
  unfold sgn
  rw [if_pos h2]
theorem sgn_least {x : Rat} (h : 0 ≤ x) : 0 ≤ sgn x.num := by
  have h1 := Rat.num_nonneg.2 h
  unfold sgn
  split
  · omega
  · split <;> omega
theorem sub_both (x y z : Rat) : (x + z) - (y + z) = x - y := by grind
theorem sub_turn (x y : Rat) : y - x = -(x - y) := by grind
theorem flo_one (x : Rat) : x - (x.floor : Rat) - 1 < 0 := by have := @Rat.lt_floor x; grind
theorem flo_nought (x : Rat) : 0 ≤ x - (x.floor : Rat) - 0 := by have := Rat.floor_le x; grind
theorem cei_one (x : Rat) : (x.ceil : Rat) - x - 1 < 0 := by have := @Rat.ceil_lt x; grind
theorem cei_nought (x : Rat) : 0 ≤ (x.ceil : Rat) - x - 0 := by have := @Rat.le_ceil x; grind
theorem bd_int {k : Nat} {n : Int} (h : Bd k n) : BdQ k 1 (n : Rat) := ⟨by rw [Rat.num_intCast]; exact h, by rw [Rat.den_intCast, Nat.pow_one]; decide⟩
theorem bd_floorO {x : Rat} {k m : Nat} (h : BdQ k m x) : Bd (k + 1) x.floor := by
  rw [← floor_rat]
  have e : Bd k x.num := h.1
  exact e.fdiv (by have := x.den_nz; omega)
theorem bd_ceilO {x : Rat} {k m : Nat} (h : BdQ k m x) : Bd (k + 1) x.ceil := by
  rw [← ceil_rat]
  have e : Bd k x.num := h.1
  exact e.cdiv (by have := x.den_nz; omega)
theorem both_iffO {v v2 : QV} {a d a2 d2 : List Nat} : both2 v v2 a d a2 d2 = true ↔ mayQ v.p a d = true ∧ mayQ v2.p a2 d2 = true := by unfold both2; simp
theorem opWeakO {f : Rat → Rat → Rat} {F : Nat} (hF : OpQIs f F) {w : World} {v v2 : QV} {a d a2 d2 : List Nat} (h : Q1 w v a d) (h2 : Q1 w v2 a2 d2) :
    Calls Tryz.prog F #[v.v, v2.v] w fun e w' => ∃ vr : QV, e = .returned (.tuple #[vr.v, .int .i64 (if both2 v v2 a d a2 d2 then 0 else 8)]) ∧ Below w.heap.size w w' := by
  refine (hF v v2 a d a2 d2 w h h2).mono ?_
  intro e w' h
  unfold QAns at h
  cases hm : both2 v v2 a d a2 d2 with
  | true =>
    rw [hm, if_pos rfl] at h
    obtain ⟨vr, he, o, hb⟩ := h
    exact ⟨vr, he, hb⟩
  | false =>
    rw [hm, if_neg (by decide)] at h
    exact ⟨QV.zero, h.1, h.2⟩
theorem boxq_new (w : World) : BoxQ (w.alloc qz) w.heap.size QV.zero := World.alloc_heap_new _ _
theorem boxq_set {W : World} {g : Nat} {z : QV} (h : BoxQ W g z) (v : QV) : BoxQ (((W.setCell ⟨g, 0, none⟩ (.bool v.p)).setCell ⟨g, 1, none⟩ (.slice v.A v.n v.c)).setCell ⟨g, 2, none⟩ (.slice v.D v.m v.d)) g v := by
  have h1 := Go.Joins.block_setCell (i := 0) h (.bool v.p)
  have h2 := Go.Joins.block_setCell (i := 1) h1 (.slice v.A v.n v.c)
  exact Go.Joins.block_setCell (i := 2) h2 (.slice v.D v.m v.d)
section
variable {w : World} {v v2 : QV} {x y : Rat} {F : Nat}
theorem cmpM {i : Int} (hF : CmpQIs F) (h1 : QNm w v x) (h2 : QNm w v2 y) (l1 : v.n ≤ 60) (l2 : v.m ≤ 60) (l3 : v2.n ≤ 60) (l4 : v2.m ≤ 60) (e : i = sgn (x - y).num) : Calls Tryz.prog F #[v.v, v2.v] w (IAns w i 0) := by
  subst e
  exact cmpQN hF h1 h2 l1 l2 l3 l4
theorem wholeM {f : Rat → Int} {z : Int} (hF : WholeQIs f F) (h1 : QNm w v x) (l1 : v.n ≤ 60) (l2 : v.m ≤ 60) (e : z = f x) : Calls Tryz.prog F #[v.v] w (ZAns w z 0) := by
  subst e
  exact wholeQN hF h1 l1 l2
theorem sameM {t : Bool} (hF : SameQIs F) (h1 : QNm w v x) (h2 : QNm w v2 y) (l1 : v.n ≤ 60) (l2 : v.m ≤ 60) (l3 : v2.n ≤ 60) (l4 : v2.m ≤ 60) (e : decide (x = y) = t) : Calls Tryz.prog F #[v.v, v2.v] w fun e w' => e = .returned (.bool t) ∧ Below w.heap.size w w' := by
  subst e
  exact sameQN hF h1 h2 l1 l2 l3 l4
end
set_option maxRecDepth 100000 in
set_option maxHeartbeats 20000000 in
theorem orderQ_ok (va vb vc : QV) (x y z : Rat) (w : World) (hva : QNm w va x) (hvb : QNm w vb y) (hvc : QNm w vc z) (l1 : va.n ≤ 8 ∧ va.m ≤ 8) (l2 : vb.n ≤ 8 ∧ vb.m ≤ 8) (l3 : vc.n ≤ 8 ∧ vc.m ≤ 8)
    (hAl : ∀ W, Calls Tryz.prog 17 #[] W fun e w' => e = .returned (.bool true) ∧ Below W.heap.size W w') (hAdd : OpQIs (fun x y => x + y) 21) (hSub : OpQIs (fun x y => x - y) 23) (hCmp : CmpQIs 12) (hFloor : WholeQIs Rat.floor 13) (hCeil : WholeQIs Rat.ceil 14) (hOf : OfQIs 8) :
    Calls Tryz.prog 7 #[va.v, vb.v, vc.v] w fun e w' => e = .returned (.bool true) ∧ Below w.heap.size w w' := by
  have nva : va.n ≤ 60 := by omega
  have nvb : vb.n ≤ 60 := by omega
  have nvc : vc.n ≤ 60 := by omega
  have mva : va.m ≤ 60 := by omega
  have mvb : vb.m ≤ 60 := by omega
  have mvc : vc.m ≤ 60 := by omega
  have Lx : Hid (BdQ 8 8 x) := BdQ.of hva l1.1 l1.2
  have Ly : Hid (BdQ 8 8 y) := BdQ.of hvb l2.1 l2.2
  have Lz : Hid (BdQ 8 8 z) := BdQ.of hvc l3.1 l3.2
  have G1 := Lib.hid (fun W (n : Int) => rGreat_any (v := va) (w := W) n)
  have G2 := Lib.hid (fun W (n : Int) => rGreat_any (v := vb) (w := W) n)
  have G3 := Lib.hid (fun W (n : Int) => rGreat_any (v := vc) (w := W) n)
  have g1 : ∀ (n m : Nat), n ≤ 8 ∧ m ≤ 8 → (decide ((8 : Int) < (n : Int)) || decide ((8 : Int) < (m : Int))) = false := fun n m h => by simp; omega
  have HAl := Lib.hid hAl
  have HAdd := Lib.hid hAdd
  have HSub := Lib.hid hSub
  have HCmp := Lib.hid hCmp
  have HFloor := Lib.hid hFloor
  have HCeil := Lib.hid hCeil
  have HOf := Lib.hid hOf
  have GG := Lib.hid (And.intro (g1 _ _ l1) (And.intro (g1 _ _ l2) (g1 _ _ l3)))
  clear hAl hAdd hSub hCmp hFloor hCeil hOf g1
  have HSame : Hid (SameQIs 28) := fun _ _ _ _ _ _ _ h1 h2 => rSameQ_any h1 h2
  obtain ⟨xz, exz⟩ : ∃ s : Rat, s = x + z := ⟨_, rfl⟩
  have Lxz : Hid (BdQ 17 16 xz) := by show BdQ _ _ _; rw [exz]; exact Lx.out.add Lz.out (K := 16) (by omega) (by omega)
  have Exz := Lib.hid exz
  clear exz
  obtain ⟨yz, eyz⟩ : ∃ s : Rat, s = y + z := ⟨_, rfl⟩
  have Lyz : Hid (BdQ 17 16 yz) := by show BdQ _ _ _; rw [eyz]; exact Ly.out.add Lz.out (K := 16) (by omega) (by omega)
  have Eyz := Lib.hid eyz
  clear eyz
  obtain ⟨lo, elo⟩ : ∃ s : Int, s = x.floor := ⟨_, rfl⟩
  have Llo : Hid (Bd 9 lo) := by show Bd _ _; rw [elo]; exact bd_floorO Lx.out
  have Elo := Lib.hid elo
  clear elo
  obtain ⟨up, eup⟩ : ∃ s : Int, s = x.ceil := ⟨_, rfl⟩
  have Lup : Hid (Bd 9 up) := by show Bd _ _; rw [eup]; exact bd_ceilO Lx.out
  have Eup := Lib.hid eup
  clear eup
  obtain ⟨i1, ei1⟩ : ∃ s : Int, s = 1 := ⟨_, rfl⟩
  have Li1 : Hid (Bd 1 i1) := by show Bd _ _; rw [ei1]; exact show Bd 1 1 from (by unfold Bd; rw [Nat.pow_one, B64_eq]; decide)
  have Ei1 := Lib.hid ei1
  clear ei1
  obtain ⟨p, ep⟩ : ∃ s : Rat, s = (lo : Rat) := ⟨_, rfl⟩
  have Lp : Hid (BdQ 9 1 p) := by show BdQ _ _ _; rw [ep]; exact bd_int Llo.out
  have Ep := Lib.hid ep
  clear ep
  obtain ⟨q, eq⟩ : ∃ s : Rat, s = (up : Rat) := ⟨_, rfl⟩
  have Lq : Hid (BdQ 9 1 q) := by show BdQ _ _ _; rw [eq]; exact bd_int Lup.out
  have Eq := Lib.hid eq
  clear eq
  obtain ⟨s, es⟩ : ∃ s : Rat, s = x - p := ⟨_, rfl⟩
  have Ls : Hid (BdQ 18 9 s) := by show BdQ _ _ _; rw [es]; exact Lx.out.sub Lp.out (K := 17) (by omega) (by omega)
  have Es := Lib.hid es
  clear es
  obtain ⟨t, et⟩ : ∃ s : Rat, s = q - x := ⟨_, rfl⟩
  have Lt : Hid (BdQ 18 9 t) := by show BdQ _ _ _; rw [et]; exact Lq.out.sub Lx.out (K := 17) (by omega) (by omega)
  have Et := Lib.hid et
  clear et
  obtain ⟨o1, eo1⟩ : ∃ s : Rat, s = (1 : Rat) := ⟨_, rfl⟩
  have Lo1 : Hid (BdQ 1 1 o1) := by show BdQ _ _ _; rw [eo1]; exact bd_small (by decide +kernel) (by decide +kernel)
  have Eo1 := Lib.hid eo1
  clear eo1
  obtain ⟨o0, eo0⟩ : ∃ s : Rat, s = (0 : Rat) := ⟨_, rfl⟩
  have Lo0 : Hid (BdQ 1 1 o0) := by show BdQ _ _ _; rw [eo0]; exact bd_small (by decide +kernel) (by decide +kernel)
  have Eo0 := Lib.hid eo0
  clear eo0
  obtain ⟨n, hn⟩ : ∃ n : Int, n = sgn (x - y).num := ⟨_, rfl⟩
  have hm : n = sgn (xz - yz).num := by rw [hn, Exz.out, Eyz.out, sub_both]
  have ho : -n = sgn (y - x).num := by rw [hn, sub_turn x y, Rat.neg_num, sgn_neg]
  have hn1 := sgn_one (x - y).num
  rw [← hn] at hn1
  have W1 : IntKind.i64.wrap (-n) = -n := by rw [IntKind.wrap_i64]; omega
  obtain ⟨tb, htb⟩ : ∃ s : Bool, (n == 0) = s := ⟨_, rfl⟩
  have hsm : decide (x = y) = tb := by rw [← htb]; show _ = decide (n = 0); rw [decide_eq_decide, hn, sgn_zero, q_num0]
  obtain ⟨wl, hwl⟩ : ∃ n : Int, n = sgn (s - o0).num := ⟨_, rfl⟩
  obtain ⟨wu, hwu⟩ : ∃ n : Int, n = sgn (t - o0).num := ⟨_, rfl⟩
  have hu : (-1 : Int) = sgn (s - o1).num := sgn_less (by rw [Es.out, Ep.out, Elo.out, Eo1.out]; exact flo_one x)
  have hv : (-1 : Int) = sgn (t - o1).num := sgn_less (by rw [Et.out, Eq.out, Eup.out, Eo1.out]; exact cei_one x)
  have gwl : 0 ≤ wl := by rw [hwl]; exact sgn_least (by rw [Es.out, Ep.out, Elo.out, Eo0.out]; exact flo_nought x)
  have gwu : 0 ≤ wu := by rw [hwu]; exact sgn_least (by rw [Et.out, Eq.out, Eup.out, Eo0.out]; exact cei_nought x)
  have Hn := Lib.hid hn
  have Hm := Lib.hid hm
  have Ho := Lib.hid ho
  have HW1 := Lib.hid W1
  have Htb := Lib.hid htb
  have Hsm := Lib.hid hsm
  have Hwl := Lib.hid hwl
  have Hwu := Lib.hid hwu
  have Hu := Lib.hid hu
  have Hv := Lib.hid hv
  have Gl := Lib.hid gwl
  have Gu := Lib.hid gwu
  clear hn hm ho hn1 W1 htb hsm hwl hwu hu hv gwl gwu
  have K0 := heldq_nil w
  have J0 := held_nil w
  have D0 := Below.refl w.heap.size w
  have K1 := (K0.next (bxb _ va.o)).cons (IQ.param (hva) nva mva)
  have J1 := J0.next (bxb _ va.o)
  have D1 := below_then D0 (bxb _ va.o)
  have K2 := (K1.next (bxb _ vb.o)).cons (IQ.param (hvb.below D1) nvb mvb)
  have J2 := J1.next (bxb _ vb.o)
  have D2 := below_then D1 (bxb _ vb.o)
  have K3 := (K2.next (bxb _ vc.o)).cons (IQ.param (hvc.below D2) nvc mvc)
  have J3 := J2.next (bxb _ vc.o)
  have D3 := below_then D2 (bxb _ vc.o)
  try simp only [World.size_alloc] at K3
  try simp only [World.size_alloc] at J3
  have HH0 := Lib.hid K3
  have HZ0 := Lib.hid J3
  have HB0 := Lib.hid D3
  clear K0 J0 D0 K1 J1 D1 K2 J2 D2 K3 J3 D3
  clear hva hvb hvc
  clear l1 l2 l3
  try dsimp only [QV.v, zv, zV]
  go_enter Tryz.func7, Tryz.ntmps7
  go_wp2_with fail
  refine (HAl.out _).mono ?_
  rintro e v1_ ⟨rfl, hb⟩
  have HH1 := Lib.hid (HH0.out.next hb)
  have HZ1 := Lib.hid (HZ0.out.next hb)
  have HB1 := Lib.hid (below_then HB0.out hb)
  clear HH0 HZ0 HB0
  clear hb
  have cx0 := (HH1.out _ (.tail _ (.tail _ (.head _)))).b.c0
  have cx1 := (HH1.out _ (.tail _ (.tail _ (.head _)))).b.c1
  have cx2 := (HH1.out _ (.tail _ (.tail _ (.head _)))).b.c2
  have cy0 := (HH1.out _ (.tail _ (.head _))).b.c0
  have cy1 := (HH1.out _ (.tail _ (.head _))).b.c1
  have cy2 := (HH1.out _ (.tail _ (.head _))).b.c2
  have cz0 := (HH1.out _ (.head _)).b.c0
  have cz1 := (HH1.out _ (.head _)).b.c1
  have cz2 := (HH1.out _ (.head _)).b.c2
  go_wp2_with fail
  refine (G1.out _ 8).mono ?_
  rintro e v2_ ⟨rfl, hb⟩
  have HH2 := Lib.hid (HH1.out.next hb)
  have HZ2 := Lib.hid (HZ1.out.next hb)
  have HB2 := Lib.hid (below_then HB1.out hb)
  clear HH1 HZ1 HB1
  clear hb
  rw [GG.out.1]
  clear cx0 cx1 cx2 cy0 cy1 cy2 cz0 cz1 cz2
  have cx0 := (HH2.out _ (.tail _ (.tail _ (.head _)))).b.c0
  have cx1 := (HH2.out _ (.tail _ (.tail _ (.head _)))).b.c1
  have cx2 := (HH2.out _ (.tail _ (.tail _ (.head _)))).b.c2
  have cy0 := (HH2.out _ (.tail _ (.head _))).b.c0
  have cy1 := (HH2.out _ (.tail _ (.head _))).b.c1
  have cy2 := (HH2.out _ (.tail _ (.head _))).b.c2
  have cz0 := (HH2.out _ (.head _)).b.c0
  have cz1 := (HH2.out _ (.head _)).b.c1
  have cz2 := (HH2.out _ (.head _)).b.c2
  go_wp2_with fail
  refine (G2.out _ 8).mono ?_
  rintro e v3_ ⟨rfl, hb⟩
  have HH3 := Lib.hid (HH2.out.next hb)
  have HZ3 := Lib.hid (HZ2.out.next hb)
  have HB3 := Lib.hid (below_then HB2.out hb)
  clear HH2 HZ2 HB2
  clear hb
  rw [GG.out.2.1]
  clear cx0 cx1 cx2 cy0 cy1 cy2 cz0 cz1 cz2
  have cx0 := (HH3.out _ (.tail _ (.tail _ (.head _)))).b.c0
  have cx1 := (HH3.out _ (.tail _ (.tail _ (.head _)))).b.c1
  have cx2 := (HH3.out _ (.tail _ (.tail _ (.head _)))).b.c2
  have cy0 := (HH3.out _ (.tail _ (.head _))).b.c0
  have cy1 := (HH3.out _ (.tail _ (.head _))).b.c1
  have cy2 := (HH3.out _ (.tail _ (.head _))).b.c2
  have cz0 := (HH3.out _ (.head _)).b.c0
  have cz1 := (HH3.out _ (.head _)).b.c1
  have cz2 := (HH3.out _ (.head _)).b.c2
  go_wp2_with fail
  refine (G3.out _ 8).mono ?_
  rintro e v4_ ⟨rfl, hb⟩
  have HH4 := Lib.hid (HH3.out.next hb)
  have HZ4 := Lib.hid (HZ3.out.next hb)
  have HB4 := Lib.hid (below_then HB3.out hb)
  clear HH3 HZ3 HB3
  clear hb
  rw [GG.out.2.2]
  clear cx0 cx1 cx2 cy0 cy1 cy2 cz0 cz1 cz2
  have cx0 := (HH4.out _ (.tail _ (.tail _ (.head _)))).b.c0
  have cx1 := (HH4.out _ (.tail _ (.tail _ (.head _)))).b.c1
  have cx2 := (HH4.out _ (.tail _ (.tail _ (.head _)))).b.c2
  have cy0 := (HH4.out _ (.tail _ (.head _))).b.c0
  have cy1 := (HH4.out _ (.tail _ (.head _))).b.c1
  have cy2 := (HH4.out _ (.tail _ (.head _))).b.c2
  have cz0 := (HH4.out _ (.head _)).b.c0
  have cz1 := (HH4.out _ (.head _)).b.c1
  have cz2 := (HH4.out _ (.head _)).b.c2
  go_wp2_with fail
  refine (cmpM HCmp.out (HH4.out _ (.tail _ (.tail _ (.head _)))).m (HH4.out _ (.tail _ (.head _))).m (HH4.out _ (.tail _ (.tail _ (.head _)))).ln (HH4.out _ (.tail _ (.tail _ (.head _)))).ld (HH4.out _ (.tail _ (.head _))).ln (HH4.out _ (.tail _ (.head _))).ld Hn.out).mono ?_
  rintro e v5_ ⟨rfl, hb⟩
  have HH5 := Lib.hid (HH4.out.next hb)
  have HZ5 := Lib.hid (HZ4.out.next hb)
  have HB5 := Lib.hid (below_then HB4.out hb)
  clear HH4 HZ4 HB4
  clear hb
  clear cx0 cx1 cx2 cy0 cy1 cy2 cz0 cz1 cz2
  have cx0 := (HH5.out _ (.tail _ (.tail _ (.head _)))).b.c0
  have cx1 := (HH5.out _ (.tail _ (.tail _ (.head _)))).b.c1
  have cx2 := (HH5.out _ (.tail _ (.tail _ (.head _)))).b.c2
  have cz0 := (HH5.out _ (.head _)).b.c0
  have cz1 := (HH5.out _ (.head _)).b.c1
  have cz2 := (HH5.out _ (.head _)).b.c2
  go_wp2_with fail
  refine (opM (t := xz) HAdd.out (HH5.out _ (.tail _ (.tail _ (.head _)))).m (HH5.out _ (.head _)).m (HH5.out _ (.tail _ (.tail _ (.head _)))).ln (HH5.out _ (.tail _ (.tail _ (.head _)))).ld (HH5.out _ (.head _)).ln (HH5.out _ (.head _)).ld Exz.out).mono ?_
  rintro e v6_ ⟨q6, rfl, o6, hb⟩
  have HL := Lib.hid (Lxz.out.len o6)
  have HH6 : Hid (HeldQ (v6_.alloc (.cells #[.bool q6.p, .slice q6.A q6.n q6.c, .slice q6.D q6.m q6.d] qT)) [⟨v6_.heap.size, q6, xz⟩, ⟨w.heap.size + 1 + 1, vc, z⟩, ⟨w.heap.size + 1, vb, y⟩, ⟨w.heap.size, va, x⟩]) := Lib.hid ((HH5.out.next (below_then hb (bxb _ q6.o))).cons (IQ.fresh o6 (by have := HL.out; omega) (by have := HL.out; omega)))
  have HZ6 : Hid (Held (v6_.alloc (.cells #[.bool q6.p, .slice q6.A q6.n q6.c, .slice q6.D q6.m q6.d] qT)) []) := Lib.hid (HZ5.out.next (below_then hb (bxb _ q6.o)))
  have HB6 : Hid (Below w.heap.size w (v6_.alloc (.cells #[.bool q6.p, .slice q6.A q6.n q6.c, .slice q6.D q6.m q6.d] qT))) := Lib.hid (below_then HB5.out (below_then hb (bxb _ q6.o)))
  clear hb o6 HL HH5 HZ5 HB5
  unfold QV.v
  clear cx0 cx1 cx2 cz0 cz1 cz2
  have cy0 := (HH6.out _ (.tail _ (.tail _ (.head _)))).b.c0
  have cy1 := (HH6.out _ (.tail _ (.tail _ (.head _)))).b.c1
  have cy2 := (HH6.out _ (.tail _ (.tail _ (.head _)))).b.c2
  have cz0 := (HH6.out _ (.tail _ (.head _))).b.c0
  have cz1 := (HH6.out _ (.tail _ (.head _))).b.c1
  have cz2 := (HH6.out _ (.tail _ (.head _))).b.c2
  go_wp2_with fail
  refine (opM (t := yz) HAdd.out (HH6.out _ (.tail _ (.tail _ (.head _)))).m (HH6.out _ (.tail _ (.head _))).m (HH6.out _ (.tail _ (.tail _ (.head _)))).ln (HH6.out _ (.tail _ (.tail _ (.head _)))).ld (HH6.out _ (.tail _ (.head _))).ln (HH6.out _ (.tail _ (.head _))).ld Eyz.out).mono ?_
  rintro e v7_ ⟨q7, rfl, o7, hb⟩
  have HL := Lib.hid (Lyz.out.len o7)
  have HH7 : Hid (HeldQ (v7_.alloc (.cells #[.bool q7.p, .slice q7.A q7.n q7.c, .slice q7.D q7.m q7.d] qT)) [⟨v7_.heap.size, q7, yz⟩, ⟨v6_.heap.size, q6, xz⟩, ⟨w.heap.size + 1 + 1, vc, z⟩, ⟨w.heap.size + 1, vb, y⟩, ⟨w.heap.size, va, x⟩]) := Lib.hid ((HH6.out.next (below_then hb (bxb _ q7.o))).cons (IQ.fresh o7 (by have := HL.out; omega) (by have := HL.out; omega)))
  have HZ7 : Hid (Held (v7_.alloc (.cells #[.bool q7.p, .slice q7.A q7.n q7.c, .slice q7.D q7.m q7.d] qT)) []) := Lib.hid (HZ6.out.next (below_then hb (bxb _ q7.o)))
  have HB7 : Hid (Below w.heap.size w (v7_.alloc (.cells #[.bool q7.p, .slice q7.A q7.n q7.c, .slice q7.D q7.m q7.d] qT))) := Lib.hid (below_then HB6.out (below_then hb (bxb _ q7.o)))
  clear hb o7 HL HH6 HZ6 HB6
  unfold QV.v
  clear cy0 cy1 cy2 cz0 cz1 cz2
  have cxz0 := (HH7.out _ (.tail _ (.head _))).b.c0
  have cxz1 := (HH7.out _ (.tail _ (.head _))).b.c1
  have cxz2 := (HH7.out _ (.tail _ (.head _))).b.c2
  have cyz0 := (HH7.out _ (.head _)).b.c0
  have cyz1 := (HH7.out _ (.head _)).b.c1
  have cyz2 := (HH7.out _ (.head _)).b.c2
  go_wp2_with fail
  refine (cmpM HCmp.out (HH7.out _ (.tail _ (.head _))).m (HH7.out _ (.head _)).m (HH7.out _ (.tail _ (.head _))).ln (HH7.out _ (.tail _ (.head _))).ld (HH7.out _ (.head _)).ln (HH7.out _ (.head _)).ld Hm.out).mono ?_
  rintro e v8_ ⟨rfl, hb⟩
  have HH8 := Lib.hid (HH7.out.next hb)
  have HZ8 := Lib.hid (HZ7.out.next hb)
  have HB8 := Lib.hid (below_then HB7.out hb)
  clear HH7 HZ7 HB7
  clear hb
  clear cxz0 cxz1 cxz2 cyz0 cyz1 cyz2
  have cx0 := (HH8.out _ (.tail _ (.tail _ (.tail _ (.tail _ (.head _)))))).b.c0
  have cx1 := (HH8.out _ (.tail _ (.tail _ (.tail _ (.tail _ (.head _)))))).b.c1
  have cx2 := (HH8.out _ (.tail _ (.tail _ (.tail _ (.tail _ (.head _)))))).b.c2
  have cy0 := (HH8.out _ (.tail _ (.tail _ (.tail _ (.head _))))).b.c0
  have cy1 := (HH8.out _ (.tail _ (.tail _ (.tail _ (.head _))))).b.c1
  have cy2 := (HH8.out _ (.tail _ (.tail _ (.tail _ (.head _))))).b.c2
  go_wp2_with fail
  refine (cmpM HCmp.out (HH8.out _ (.tail _ (.tail _ (.tail _ (.head _))))).m (HH8.out _ (.tail _ (.tail _ (.tail _ (.tail _ (.head _)))))).m (HH8.out _ (.tail _ (.tail _ (.tail _ (.head _))))).ln (HH8.out _ (.tail _ (.tail _ (.tail _ (.head _))))).ld (HH8.out _ (.tail _ (.tail _ (.tail _ (.tail _ (.head _)))))).ln (HH8.out _ (.tail _ (.tail _ (.tail _ (.tail _ (.head _)))))).ld Ho.out).mono ?_
  rintro e v9_ ⟨rfl, hb⟩
  have HH9 := Lib.hid (HH8.out.next hb)
  have HZ9 := Lib.hid (HZ8.out.next hb)
  have HB9 := Lib.hid (below_then HB8.out hb)
  clear HH8 HZ8 HB8
  clear hb
  clear cx0 cx1 cx2 cy0 cy1 cy2
  have cx0 := (HH9.out _ (.tail _ (.tail _ (.tail _ (.tail _ (.head _)))))).b.c0
  have cx1 := (HH9.out _ (.tail _ (.tail _ (.tail _ (.tail _ (.head _)))))).b.c1
  have cx2 := (HH9.out _ (.tail _ (.tail _ (.tail _ (.tail _ (.head _)))))).b.c2
  go_wp2_with fail
  refine (wholeM HFloor.out (HH9.out _ (.tail _ (.tail _ (.tail _ (.tail _ (.head _)))))).m (HH9.out _ (.tail _ (.tail _ (.tail _ (.tail _ (.head _)))))).ln (HH9.out _ (.tail _ (.tail _ (.tail _ (.tail _ (.head _)))))).ld Elo.out).mono ?_
  rintro e v10_ ⟨N10, n10, d10, rfl, o10, hb⟩
  have HL := Lib.hid (Llo.out.len o10)
  have HZ10 : Hid (Held (v10_.alloc (.cells #[.bool (decide (lo < 0)), .slice N10 n10 d10] zT)) [⟨v10_.heap.size, lo, N10, n10, d10⟩]) := Lib.hid ((HZ9.out.next (below_then hb (bxb _ (zo (decide (lo < 0)) N10 n10 d10)))).cons (It.fresh o10 (by have := HL.out; omega)))
  have HH10 : Hid (HeldQ (v10_.alloc (.cells #[.bool (decide (lo < 0)), .slice N10 n10 d10] zT)) [⟨v7_.heap.size, q7, yz⟩, ⟨v6_.heap.size, q6, xz⟩, ⟨w.heap.size + 1 + 1, vc, z⟩, ⟨w.heap.size + 1, vb, y⟩, ⟨w.heap.size, va, x⟩]) := Lib.hid (HH9.out.next (below_then hb (bxb _ (zo (decide (lo < 0)) N10 n10 d10))))
  have HB10 : Hid (Below w.heap.size w (v10_.alloc (.cells #[.bool (decide (lo < 0)), .slice N10 n10 d10] zT))) := Lib.hid (below_then HB9.out (below_then hb (bxb _ (zo (decide (lo < 0)) N10 n10 d10))))
  clear hb o10 HL HH9 HZ9 HB9
  unfold zV zv
  clear cx0 cx1 cx2
  have cx0 := (HH10.out _ (.tail _ (.tail _ (.tail _ (.tail _ (.head _)))))).b.c0
  have cx1 := (HH10.out _ (.tail _ (.tail _ (.tail _ (.tail _ (.head _)))))).b.c1
  have cx2 := (HH10.out _ (.tail _ (.tail _ (.tail _ (.tail _ (.head _)))))).b.c2
  go_wp2_with fail
  refine (wholeM HCeil.out (HH10.out _ (.tail _ (.tail _ (.tail _ (.tail _ (.head _)))))).m (HH10.out _ (.tail _ (.tail _ (.tail _ (.tail _ (.head _)))))).ln (HH10.out _ (.tail _ (.tail _ (.tail _ (.tail _ (.head _)))))).ld Eup.out).mono ?_
  rintro e v11_ ⟨N11, n11, d11, rfl, o11, hb⟩
  have HL := Lib.hid (Lup.out.len o11)
  have HZ11 : Hid (Held (v11_.alloc (.cells #[.bool (decide (up < 0)), .slice N11 n11 d11] zT)) [⟨v11_.heap.size, up, N11, n11, d11⟩, ⟨v10_.heap.size, lo, N10, n10, d10⟩]) := Lib.hid ((HZ10.out.next (below_then hb (bxb _ (zo (decide (up < 0)) N11 n11 d11)))).cons (It.fresh o11 (by have := HL.out; omega)))
  have HH11 : Hid (HeldQ (v11_.alloc (.cells #[.bool (decide (up < 0)), .slice N11 n11 d11] zT)) [⟨v7_.heap.size, q7, yz⟩, ⟨v6_.heap.size, q6, xz⟩, ⟨w.heap.size + 1 + 1, vc, z⟩, ⟨w.heap.size + 1, vb, y⟩, ⟨w.heap.size, va, x⟩]) := Lib.hid (HH10.out.next (below_then hb (bxb _ (zo (decide (up < 0)) N11 n11 d11))))
  have HB11 : Hid (Below w.heap.size w (v11_.alloc (.cells #[.bool (decide (up < 0)), .slice N11 n11 d11] zT))) := Lib.hid (below_then HB10.out (below_then hb (bxb _ (zo (decide (up < 0)) N11 n11 d11))))
  clear hb o11 HL HH10 HZ10 HB10
  unfold zV zv
  clear cx0 cx1 cx2
  have xlo0 := (HZ11.out _ (.tail _ (.head _))).b.c0
  have xlo1 := (HZ11.out _ (.tail _ (.head _))).b.c1
  have HHd := Lib.hid (HH11.out.next (Below.refl _ _).drew)
  have HZd := Lib.hid (HZ11.out.next (Below.refl _ _).drew)
  have HBd := Lib.hid (below_then HB11.out (Below.refl _ _).drew)
  go_wp2_with fail
  generalize v11_.alloc (.cells #[.bool (decide (up < 0)), .slice N11 n11 d11] zT) = WD11 at *
  have hdr := Lib.hid ((Below.refl WD11.heap.size WD11).drew)
  have hdz := Lib.hid (below_then (bxb WD11 qz) (Below.refl (WD11.alloc qz).heap.size (WD11.alloc qz)).drew)
  have HHz := Lib.hid (HH11.out.next hdz.out)
  have HZz := Lib.hid (HZ11.out.next hdz.out)
  have HBz := Lib.hid (below_then HB11.out hdz.out)
  have bq0 := Lib.hid ((boxq_new WD11).next (Below.refl _ _).drew)
  go_region_held3 (fun W' => W'.cell? ⟨v10_.heap.size, 0, none⟩ = some (.bool (decide (lo < 0))) ∧ W'.cell? ⟨v10_.heap.size, 1, none⟩ = some (.slice N10 n10 d10)) (first | (with_reducible exact ⟨xlo0, xlo1⟩) | (have hq0 := (HZz.out _ (.tail _ (.head _))).b.c0; have hq1 := (HZz.out _ (.tail _ (.head _))).b.c1; (with_reducible exact ⟨hq0, hq1⟩)) | (have hFF := bxb ur1_ qz; have hq0 := ((HZr1.out _ (.tail _ (.head _))).below hFF).b.c0; have hq1 := ((HZr1.out _ (.tail _ (.head _))).below hFF).b.c1; (with_reducible exact ⟨hq0, hq1⟩)) | (have hFF := bxb ur2_ qz; have hq0 := ((HZr2.out _ (.tail _ (.head _))).below hFF).b.c0; have hq1 := ((HZr2.out _ (.tail _ (.head _))).below hFF).b.c1; (with_reducible exact ⟨hq0, hq1⟩)) | ((with_reducible have hFF : Below WD11.heap.size WD11 ((((ur2_).setCell ⟨WD11.heap.size, 0, none⟩ (.bool vqa.p)).setCell ⟨WD11.heap.size, 1, none⟩ (.slice vqa.A vqa.n vqa.c)).setCell ⟨WD11.heap.size, 2, none⟩ (.slice vqa.D vqa.m vqa.d)) := box_below3 (Nat.le_refl _) (below_then (below_then hdz.out hbr1) hbr2) _ _ _); have hq0 := ((HZ11.out _ (.tail _ (.head _))).below hFF).b.c0; have hq1 := ((HZ11.out _ (.tail _ (.head _))).below hFF).b.c1; (with_reducible exact ⟨hq0, hq1⟩)) | ((with_reducible have hFF : Below WD11.heap.size WD11 ((((ur2_).setCell ⟨ur1_.heap.size, 0, none⟩ (.bool vqa.p)).setCell ⟨ur1_.heap.size, 1, none⟩ (.slice vqa.A vqa.n vqa.c)).setCell ⟨ur1_.heap.size, 2, none⟩ (.slice vqa.D vqa.m vqa.d)) := box_below3 (below_then hdr.out hbr1).size (below_then (below_then (below_then hdr.out hbr1) (bxb ur1_ qz)) hbr2) _ _ _); have hq0 := ((HZ11.out _ (.tail _ (.head _))).below hFF).b.c0; have hq1 := ((HZ11.out _ (.tail _ (.head _))).below hFF).b.c1; (with_reducible exact ⟨hq0, hq1⟩)) | ((with_reducible have hFF : Below WD11.heap.size WD11 ((((ur2_.alloc qz).setCell ⟨ur2_.heap.size, 0, none⟩ (.bool vqa.p)).setCell ⟨ur2_.heap.size, 1, none⟩ (.slice vqa.A vqa.n vqa.c)).setCell ⟨ur2_.heap.size, 2, none⟩ (.slice vqa.D vqa.m vqa.d)) := box_below3 (below_then (below_then hdr.out hbr1) hbr2).size (below_then (below_then (below_then hdr.out hbr1) hbr2) (bxb ur2_ qz)) _ _ _); have hq0 := ((HZ11.out _ (.tail _ (.head _))).below hFF).b.c0; have hq1 := ((HZ11.out _ (.tail _ (.head _))).below hFF).b.c1; (with_reducible exact ⟨hq0, hq1⟩)) | go_keep)
    (first
      | (go_at_call 9; have hcon := wofM ((WD11.alloc qz).drew) Ei1.out (by omega) (by omega); (with_reducible apply Calls.mono hcon); rintro e ur1_ ⟨Pa, pa, qa, rfl, ooa, hbr1⟩; clear hcon; have HHr1 := Lib.hid (HHz.out.next hbr1); have HZr1 := Lib.hid (HZz.out.next hbr1); have HBr1 := Lib.hid (below_then HBz.out hbr1); have bq1 := bq0.out.next hbr1; have qb0 := bq1.c0; have qg0 := bq1.f 0; have qb1 := bq1.c1; have qg1 := bq1.f 1; have qb2 := bq1.c2; have qg2 := bq1.f 2; clear xlo0 xlo1; have xlo0 := (HZr1.out _ (.tail _ (.head _))).b.c0; have xlo1 := (HZr1.out _ (.tail _ (.head _))).b.c1; have la : pa ≤ 1 := Li1.out.len ooa; have Ha := Lib.hid ooa.nm; (try unfold QV.v); (try unfold zV); (try unfold zv))
      | (go_at_call 9; have hcon := wofM (WD11.drew) Ei1.out (by omega) (by omega); (with_reducible apply Calls.mono hcon); rintro e ur1_ ⟨Pa, pa, qa, rfl, ooa, hbr1⟩; clear hcon; have HHr1 := Lib.hid (HHd.out.next hbr1); have HZr1 := Lib.hid (HZd.out.next hbr1); have HBr1 := Lib.hid (below_then HBd.out hbr1); have bq1 := True.intro; clear xlo0 xlo1; have xlo0 := (HZr1.out _ (.tail _ (.head _))).b.c0; have xlo1 := (HZr1.out _ (.tail _ (.head _))).b.c1; have la : pa ≤ 1 := Li1.out.len ooa; have Ha := Lib.hid ooa.nm; (try unfold QV.v); (try unfold zV); (try unfold zv))
      | (go_at_call 8; have hcon := ofQN (x := p) HOf.out ((HZr1.out _ (.tail _ (.head _))).m) (Ha.out) (HZr1.out _ (.tail _ (.head _))).l (by omega) (by have := Ei1.out; omega) (by rw [Ei1.out, q_of1, Ep.out]); (with_reducible apply Calls.mono hcon); rintro e ur2_ ⟨vqa, rfl, ova, hbr2⟩; clear hcon; have HHr2 := Lib.hid (HHr1.out.next hbr2); have HZr2 := Lib.hid (HZr1.out.next hbr2); have HBr2 := Lib.hid (below_then HBr1.out hbr2); have bq2 := BoxQ.next bq1 hbr2; clear qb0 qb1 qb2 qg0 qg1 qg2; have qb0 := bq2.c0; have qg0 := bq2.f 0; have qb1 := bq2.c1; have qg1 := bq2.f 1; have qb2 := bq2.c2; have qg2 := bq2.f 2; clear xlo0 xlo1; have xlo0 := (HZr2.out _ (.tail _ (.head _))).b.c0; have xlo1 := (HZr2.out _ (.tail _ (.head _))).b.c1; (try unfold QV.v); (try unfold zV); (try unfold zv))
      | (go_at_call 8; have hcon := ofQN (x := p) HOf.out ((HZr1.out _ (.tail _ (.head _))).m) (Ha.out) (HZr1.out _ (.tail _ (.head _))).l (by omega) (by have := Ei1.out; omega) (by rw [Ei1.out, q_of1, Ep.out]); (with_reducible apply Calls.mono hcon); rintro e ur2_ ⟨vqa, rfl, ova, hbr2⟩; clear hcon; have HHr2 := Lib.hid (HHr1.out.next hbr2); have HZr2 := Lib.hid (HZr1.out.next hbr2); have HBr2 := Lib.hid (below_then HBr1.out hbr2); clear xlo0 xlo1; have xlo0 := (HZr2.out _ (.tail _ (.head _))).b.c0; have xlo1 := (HZr2.out _ (.tail _ (.head _))).b.c1; (try unfold QV.v); (try unfold zV); (try unfold zv))
      | (go_at_call 8; have hcon := ofQN (x := p) HOf.out ((HZr1.out _ (.tail _ (.head _))).m.below (bxb _ qz)) (Ha.out.below (bxb _ qz)) (HZr1.out _ (.tail _ (.head _))).l (by omega) (by have := Ei1.out; omega) (by rw [Ei1.out, q_of1, Ep.out]); (with_reducible apply Calls.mono hcon); rintro e ur2_ ⟨vqa, rfl, ova, hbr2⟩; clear hcon; have HHr2 := Lib.hid (HHr1.out.next (below_then (bxb _ qz) hbr2)); have HZr2 := Lib.hid (HZr1.out.next (below_then (bxb _ qz) hbr2)); have HBr2 := Lib.hid (below_then HBr1.out (below_then (bxb _ qz) hbr2)); have bq2 := (boxq_new ur1_).next hbr2; have qb0 := bq2.c0; have qg0 := bq2.f 0; have qb1 := bq2.c1; have qg1 := bq2.f 1; have qb2 := bq2.c2; have qg2 := bq2.f 2; clear xlo0 xlo1; have xlo0 := (HZr2.out _ (.tail _ (.head _))).b.c0; have xlo1 := (HZr2.out _ (.tail _ (.head _))).b.c1; (try unfold QV.v); (try unfold zV); (try unfold zv)))
  all_goals first
    | ((with_reducible have hck : True := bq1); (with_reducible have hck2 : Below ur1_.heap.size ur1_ ur2_ := hbr2); have hbF : Below WD11.heap.size WD11 (ur2_.alloc (.cells #[.bool vqa.p, .slice vqa.A vqa.n vqa.c, .slice vqa.D vqa.m vqa.d] qT)) := below_then (below_then (below_then hdr.out hbr1) hbr2) (bxb ur2_ vqa.o); have HL := Lib.hid (Lp.out.len ova); have HH12 : Hid (HeldQ (ur2_.alloc (.cells #[.bool vqa.p, .slice vqa.A vqa.n vqa.c, .slice vqa.D vqa.m vqa.d] qT)) [⟨ur2_.heap.size, vqa, p⟩, ⟨v7_.heap.size, q7, yz⟩, ⟨v6_.heap.size, q6, xz⟩, ⟨w.heap.size + 1 + 1, vc, z⟩, ⟨w.heap.size + 1, vb, y⟩, ⟨w.heap.size, va, x⟩]) := Lib.hid ((HH11.out.next hbF).cons (IQ.fresh ova (by have := HL.out; omega) (by have := HL.out; omega))); have HZ12 : Hid (Held (ur2_.alloc (.cells #[.bool vqa.p, .slice vqa.A vqa.n vqa.c, .slice vqa.D vqa.m vqa.d] qT)) [⟨v11_.heap.size, up, N11, n11, d11⟩, ⟨v10_.heap.size, lo, N10, n10, d10⟩]) := Lib.hid (HZ11.out.next hbF); have HB12 : Hid (Below w.heap.size w (ur2_.alloc (.cells #[.bool vqa.p, .slice vqa.A vqa.n vqa.c, .slice vqa.D vqa.m vqa.d] qT))) := Lib.hid (below_then HB11.out hbF); clear hck hck2 hbF HL; generalize ur2_.alloc (.cells #[.bool vqa.p, .slice vqa.A vqa.n vqa.c, .slice vqa.D vqa.m vqa.d] qT) = wq12 at *; generalize ur2_.heap.size = gb12 at *)
    | (have hck := BoxQ.lt bq1; have hbF : Below WD11.heap.size WD11 ((((ur2_).setCell ⟨WD11.heap.size, 0, none⟩ (.bool vqa.p)).setCell ⟨WD11.heap.size, 1, none⟩ (.slice vqa.A vqa.n vqa.c)).setCell ⟨WD11.heap.size, 2, none⟩ (.slice vqa.D vqa.m vqa.d)) := box_below3 (Nat.le_refl _) (below_then (below_then hdz.out hbr1) hbr2) _ _ _; have bqb := boxq_set (bq2) vqa; have oqb := (ova).box3 (B := WD11.heap.size) (g := WD11.heap.size) (BoxQ.lt bq1) (Nat.le_refl _) (.bool vqa.p) (.slice vqa.A vqa.n vqa.c) (.slice vqa.D vqa.m vqa.d); have HL := Lib.hid (Lp.out.len ova); have HH12 : Hid (HeldQ ((((ur2_).setCell ⟨WD11.heap.size, 0, none⟩ (.bool vqa.p)).setCell ⟨WD11.heap.size, 1, none⟩ (.slice vqa.A vqa.n vqa.c)).setCell ⟨WD11.heap.size, 2, none⟩ (.slice vqa.D vqa.m vqa.d)) [⟨WD11.heap.size, vqa, p⟩, ⟨v7_.heap.size, q7, yz⟩, ⟨v6_.heap.size, q6, xz⟩, ⟨w.heap.size + 1 + 1, vc, z⟩, ⟨w.heap.size + 1, vb, y⟩, ⟨w.heap.size, va, x⟩]) := Lib.hid ((HH11.out.next hbF).cons ⟨bqb, oqb.nm, by have := HL.out; exact Nat.le_trans this.1 (by omega), by have := HL.out; exact Nat.le_trans this.2 (by omega)⟩); have HZ12 : Hid (Held ((((ur2_).setCell ⟨WD11.heap.size, 0, none⟩ (.bool vqa.p)).setCell ⟨WD11.heap.size, 1, none⟩ (.slice vqa.A vqa.n vqa.c)).setCell ⟨WD11.heap.size, 2, none⟩ (.slice vqa.D vqa.m vqa.d)) [⟨v11_.heap.size, up, N11, n11, d11⟩, ⟨v10_.heap.size, lo, N10, n10, d10⟩]) := Lib.hid (HZ11.out.next hbF); have HB12 : Hid (Below w.heap.size w ((((ur2_).setCell ⟨WD11.heap.size, 0, none⟩ (.bool vqa.p)).setCell ⟨WD11.heap.size, 1, none⟩ (.slice vqa.A vqa.n vqa.c)).setCell ⟨WD11.heap.size, 2, none⟩ (.slice vqa.D vqa.m vqa.d))) := Lib.hid (below_then HB11.out hbF); clear hbF bqb oqb HL; generalize (((ur2_).setCell ⟨WD11.heap.size, 0, none⟩ (.bool vqa.p)).setCell ⟨WD11.heap.size, 1, none⟩ (.slice vqa.A vqa.n vqa.c)).setCell ⟨WD11.heap.size, 2, none⟩ (.slice vqa.D vqa.m vqa.d) = wq12 at *; generalize WD11.heap.size = gb12 at *)
    | (have hbF : Below WD11.heap.size WD11 ((((ur2_).setCell ⟨ur1_.heap.size, 0, none⟩ (.bool vqa.p)).setCell ⟨ur1_.heap.size, 1, none⟩ (.slice vqa.A vqa.n vqa.c)).setCell ⟨ur1_.heap.size, 2, none⟩ (.slice vqa.D vqa.m vqa.d)) := box_below3 (below_then hdr.out hbr1).size (below_then (below_then (below_then hdr.out hbr1) (bxb ur1_ qz)) hbr2) _ _ _; have bqb := boxq_set (bq2) vqa; have oqb := (ova).box3 (B := WD11.heap.size) (g := ur1_.heap.size) (BoxQ.lt (boxq_new ur1_)) (below_then hdr.out hbr1).size (.bool vqa.p) (.slice vqa.A vqa.n vqa.c) (.slice vqa.D vqa.m vqa.d); have HL := Lib.hid (Lp.out.len ova); have HH12 : Hid (HeldQ ((((ur2_).setCell ⟨ur1_.heap.size, 0, none⟩ (.bool vqa.p)).setCell ⟨ur1_.heap.size, 1, none⟩ (.slice vqa.A vqa.n vqa.c)).setCell ⟨ur1_.heap.size, 2, none⟩ (.slice vqa.D vqa.m vqa.d)) [⟨ur1_.heap.size, vqa, p⟩, ⟨v7_.heap.size, q7, yz⟩, ⟨v6_.heap.size, q6, xz⟩, ⟨w.heap.size + 1 + 1, vc, z⟩, ⟨w.heap.size + 1, vb, y⟩, ⟨w.heap.size, va, x⟩]) := Lib.hid ((HH11.out.next hbF).cons ⟨bqb, oqb.nm, by have := HL.out; exact Nat.le_trans this.1 (by omega), by have := HL.out; exact Nat.le_trans this.2 (by omega)⟩); have HZ12 : Hid (Held ((((ur2_).setCell ⟨ur1_.heap.size, 0, none⟩ (.bool vqa.p)).setCell ⟨ur1_.heap.size, 1, none⟩ (.slice vqa.A vqa.n vqa.c)).setCell ⟨ur1_.heap.size, 2, none⟩ (.slice vqa.D vqa.m vqa.d)) [⟨v11_.heap.size, up, N11, n11, d11⟩, ⟨v10_.heap.size, lo, N10, n10, d10⟩]) := Lib.hid (HZ11.out.next hbF); have HB12 : Hid (Below w.heap.size w ((((ur2_).setCell ⟨ur1_.heap.size, 0, none⟩ (.bool vqa.p)).setCell ⟨ur1_.heap.size, 1, none⟩ (.slice vqa.A vqa.n vqa.c)).setCell ⟨ur1_.heap.size, 2, none⟩ (.slice vqa.D vqa.m vqa.d))) := Lib.hid (below_then HB11.out hbF); clear hbF bqb oqb HL; generalize (((ur2_).setCell ⟨ur1_.heap.size, 0, none⟩ (.bool vqa.p)).setCell ⟨ur1_.heap.size, 1, none⟩ (.slice vqa.A vqa.n vqa.c)).setCell ⟨ur1_.heap.size, 2, none⟩ (.slice vqa.D vqa.m vqa.d) = wq12 at *; generalize ur1_.heap.size = gb12 at *)
  all_goals clear xlo0 xlo1
  all_goals
    have xup0 := (HZ12.out _ (.head _)).b.c0
    have xup1 := (HZ12.out _ (.head _)).b.c1
    have HHd := Lib.hid (HH12.out.next (Below.refl _ _).drew)
    have HZd := Lib.hid (HZ12.out.next (Below.refl _ _).drew)
    have HBd := Lib.hid (below_then HB12.out (Below.refl _ _).drew)
    go_wp2_with fail
    generalize wq12 = WD12 at *
    have hdr := Lib.hid ((Below.refl WD12.heap.size WD12).drew)
    have hdz := Lib.hid (below_then (bxb WD12 qz) (Below.refl (WD12.alloc qz).heap.size (WD12.alloc qz)).drew)
    have HHz := Lib.hid (HH12.out.next hdz.out)
    have HZz := Lib.hid (HZ12.out.next hdz.out)
    have HBz := Lib.hid (below_then HB12.out hdz.out)
    have bq0 := Lib.hid ((boxq_new WD12).next (Below.refl _ _).drew)
    go_region_held3 (fun W' => W'.cell? ⟨v11_.heap.size, 0, none⟩ = some (.bool (decide (up < 0))) ∧ W'.cell? ⟨v11_.heap.size, 1, none⟩ = some (.slice N11 n11 d11)) (first | (with_reducible exact ⟨xup0, xup1⟩) | (have hq0 := (HZz.out _ (.head _)).b.c0; have hq1 := (HZz.out _ (.head _)).b.c1; (with_reducible exact ⟨hq0, hq1⟩)) | (have hFF := bxb ur1_ qz; have hq0 := ((HZr1.out _ (.head _)).below hFF).b.c0; have hq1 := ((HZr1.out _ (.head _)).below hFF).b.c1; (with_reducible exact ⟨hq0, hq1⟩)) | (have hFF := bxb ur2_ qz; have hq0 := ((HZr2.out _ (.head _)).below hFF).b.c0; have hq1 := ((HZr2.out _ (.head _)).below hFF).b.c1; (with_reducible exact ⟨hq0, hq1⟩)) | ((with_reducible have hFF : Below WD12.heap.size WD12 ((((ur2_).setCell ⟨WD12.heap.size, 0, none⟩ (.bool vqb.p)).setCell ⟨WD12.heap.size, 1, none⟩ (.slice vqb.A vqb.n vqb.c)).setCell ⟨WD12.heap.size, 2, none⟩ (.slice vqb.D vqb.m vqb.d)) := box_below3 (Nat.le_refl _) (below_then (below_then hdz.out hbr1) hbr2) _ _ _); have hq0 := ((HZ12.out _ (.head _)).below hFF).b.c0; have hq1 := ((HZ12.out _ (.head _)).below hFF).b.c1; (with_reducible exact ⟨hq0, hq1⟩)) | ((with_reducible have hFF : Below WD12.heap.size WD12 ((((ur2_).setCell ⟨ur1_.heap.size, 0, none⟩ (.bool vqb.p)).setCell ⟨ur1_.heap.size, 1, none⟩ (.slice vqb.A vqb.n vqb.c)).setCell ⟨ur1_.heap.size, 2, none⟩ (.slice vqb.D vqb.m vqb.d)) := box_below3 (below_then hdr.out hbr1).size (below_then (below_then (below_then hdr.out hbr1) (bxb ur1_ qz)) hbr2) _ _ _); have hq0 := ((HZ12.out _ (.head _)).below hFF).b.c0; have hq1 := ((HZ12.out _ (.head _)).below hFF).b.c1; (with_reducible exact ⟨hq0, hq1⟩)) | ((with_reducible have hFF : Below WD12.heap.size WD12 ((((ur2_.alloc qz).setCell ⟨ur2_.heap.size, 0, none⟩ (.bool vqb.p)).setCell ⟨ur2_.heap.size, 1, none⟩ (.slice vqb.A vqb.n vqb.c)).setCell ⟨ur2_.heap.size, 2, none⟩ (.slice vqb.D vqb.m vqb.d)) := box_below3 (below_then (below_then hdr.out hbr1) hbr2).size (below_then (below_then (below_then hdr.out hbr1) hbr2) (bxb ur2_ qz)) _ _ _); have hq0 := ((HZ12.out _ (.head _)).below hFF).b.c0; have hq1 := ((HZ12.out _ (.head _)).below hFF).b.c1; (with_reducible exact ⟨hq0, hq1⟩)) | go_keep)
      (first
        | (go_at_call 9; have hcon := wofM ((WD12.alloc qz).drew) Ei1.out (by omega) (by omega); (with_reducible apply Calls.mono hcon); rintro e ur1_ ⟨Pb, pb, qb, rfl, oob, hbr1⟩; clear hcon; have HHr1 := Lib.hid (HHz.out.next hbr1); have HZr1 := Lib.hid (HZz.out.next hbr1); have HBr1 := Lib.hid (below_then HBz.out hbr1); have bq1 := bq0.out.next hbr1; have qb0 := bq1.c0; have qg0 := bq1.f 0; have qb1 := bq1.c1; have qg1 := bq1.f 1; have qb2 := bq1.c2; have qg2 := bq1.f 2; clear xup0 xup1; have xup0 := (HZr1.out _ (.head _)).b.c0; have xup1 := (HZr1.out _ (.head _)).b.c1; have lb : pb ≤ 1 := Li1.out.len oob; have Hb := Lib.hid oob.nm; (try unfold QV.v); (try unfold zV); (try unfold zv))
        | (go_at_call 9; have hcon := wofM (WD12.drew) Ei1.out (by omega) (by omega); (with_reducible apply Calls.mono hcon); rintro e ur1_ ⟨Pb, pb, qb, rfl, oob, hbr1⟩; clear hcon; have HHr1 := Lib.hid (HHd.out.next hbr1); have HZr1 := Lib.hid (HZd.out.next hbr1); have HBr1 := Lib.hid (below_then HBd.out hbr1); have bq1 := True.intro; clear xup0 xup1; have xup0 := (HZr1.out _ (.head _)).b.c0; have xup1 := (HZr1.out _ (.head _)).b.c1; have lb : pb ≤ 1 := Li1.out.len oob; have Hb := Lib.hid oob.nm; (try unfold QV.v); (try unfold zV); (try unfold zv))
        | (go_at_call 8; have hcon := ofQN (x := q) HOf.out ((HZr1.out _ (.head _)).m) (Hb.out) (HZr1.out _ (.head _)).l (by omega) (by have := Ei1.out; omega) (by rw [Ei1.out, q_of1, Eq.out]); (with_reducible apply Calls.mono hcon); rintro e ur2_ ⟨vqb, rfl, ovb, hbr2⟩; clear hcon; have HHr2 := Lib.hid (HHr1.out.next hbr2); have HZr2 := Lib.hid (HZr1.out.next hbr2); have HBr2 := Lib.hid (below_then HBr1.out hbr2); have bq2 := BoxQ.next bq1 hbr2; clear qb0 qb1 qb2 qg0 qg1 qg2; have qb0 := bq2.c0; have qg0 := bq2.f 0; have qb1 := bq2.c1; have qg1 := bq2.f 1; have qb2 := bq2.c2; have qg2 := bq2.f 2; clear xup0 xup1; have xup0 := (HZr2.out _ (.head _)).b.c0; have xup1 := (HZr2.out _ (.head _)).b.c1; (try unfold QV.v); (try unfold zV); (try unfold zv))
        | (go_at_call 8; have hcon := ofQN (x := q) HOf.out ((HZr1.out _ (.head _)).m) (Hb.out) (HZr1.out _ (.head _)).l (by omega) (by have := Ei1.out; omega) (by rw [Ei1.out, q_of1, Eq.out]); (with_reducible apply Calls.mono hcon); rintro e ur2_ ⟨vqb, rfl, ovb, hbr2⟩; clear hcon; have HHr2 := Lib.hid (HHr1.out.next hbr2); have HZr2 := Lib.hid (HZr1.out.next hbr2); have HBr2 := Lib.hid (below_then HBr1.out hbr2); clear xup0 xup1; have xup0 := (HZr2.out _ (.head _)).b.c0; have xup1 := (HZr2.out _ (.head _)).b.c1; (try unfold QV.v); (try unfold zV); (try unfold zv))
        | (go_at_call 8; have hcon := ofQN (x := q) HOf.out ((HZr1.out _ (.head _)).m.below (bxb _ qz)) (Hb.out.below (bxb _ qz)) (HZr1.out _ (.head _)).l (by omega) (by have := Ei1.out; omega) (by rw [Ei1.out, q_of1, Eq.out]); (with_reducible apply Calls.mono hcon); rintro e ur2_ ⟨vqb, rfl, ovb, hbr2⟩; clear hcon; have HHr2 := Lib.hid (HHr1.out.next (below_then (bxb _ qz) hbr2)); have HZr2 := Lib.hid (HZr1.out.next (below_then (bxb _ qz) hbr2)); have HBr2 := Lib.hid (below_then HBr1.out (below_then (bxb _ qz) hbr2)); have bq2 := (boxq_new ur1_).next hbr2; have qb0 := bq2.c0; have qg0 := bq2.f 0; have qb1 := bq2.c1; have qg1 := bq2.f 1; have qb2 := bq2.c2; have qg2 := bq2.f 2; clear xup0 xup1; have xup0 := (HZr2.out _ (.head _)).b.c0; have xup1 := (HZr2.out _ (.head _)).b.c1; (try unfold QV.v); (try unfold zV); (try unfold zv)))
    all_goals first
      | ((with_reducible have hck : True := bq1); (with_reducible have hck2 : Below ur1_.heap.size ur1_ ur2_ := hbr2); have hbF : Below WD12.heap.size WD12 (ur2_.alloc (.cells #[.bool vqb.p, .slice vqb.A vqb.n vqb.c, .slice vqb.D vqb.m vqb.d] qT)) := below_then (below_then (below_then hdr.out hbr1) hbr2) (bxb ur2_ vqb.o); have HL := Lib.hid (Lq.out.len ovb); have HH13 : Hid (HeldQ (ur2_.alloc (.cells #[.bool vqb.p, .slice vqb.A vqb.n vqb.c, .slice vqb.D vqb.m vqb.d] qT)) [⟨ur2_.heap.size, vqb, q⟩, ⟨gb12, vqa, p⟩, ⟨v7_.heap.size, q7, yz⟩, ⟨v6_.heap.size, q6, xz⟩, ⟨w.heap.size + 1 + 1, vc, z⟩, ⟨w.heap.size + 1, vb, y⟩, ⟨w.heap.size, va, x⟩]) := Lib.hid ((HH12.out.next hbF).cons (IQ.fresh ovb (by have := HL.out; omega) (by have := HL.out; omega))); have HZ13 : Hid (Held (ur2_.alloc (.cells #[.bool vqb.p, .slice vqb.A vqb.n vqb.c, .slice vqb.D vqb.m vqb.d] qT)) [⟨v11_.heap.size, up, N11, n11, d11⟩, ⟨v10_.heap.size, lo, N10, n10, d10⟩]) := Lib.hid (HZ12.out.next hbF); have HB13 : Hid (Below w.heap.size w (ur2_.alloc (.cells #[.bool vqb.p, .slice vqb.A vqb.n vqb.c, .slice vqb.D vqb.m vqb.d] qT))) := Lib.hid (below_then HB12.out hbF); clear hck hck2 hbF HL; generalize ur2_.alloc (.cells #[.bool vqb.p, .slice vqb.A vqb.n vqb.c, .slice vqb.D vqb.m vqb.d] qT) = wq13 at *; generalize ur2_.heap.size = gb13 at *)
      | (have hck := BoxQ.lt bq1; have hbF : Below WD12.heap.size WD12 ((((ur2_).setCell ⟨WD12.heap.size, 0, none⟩ (.bool vqb.p)).setCell ⟨WD12.heap.size, 1, none⟩ (.slice vqb.A vqb.n vqb.c)).setCell ⟨WD12.heap.size, 2, none⟩ (.slice vqb.D vqb.m vqb.d)) := box_below3 (Nat.le_refl _) (below_then (below_then hdz.out hbr1) hbr2) _ _ _; have bqb := boxq_set (bq2) vqb; have oqb := (ovb).box3 (B := WD12.heap.size) (g := WD12.heap.size) (BoxQ.lt bq1) (Nat.le_refl _) (.bool vqb.p) (.slice vqb.A vqb.n vqb.c) (.slice vqb.D vqb.m vqb.d); have HL := Lib.hid (Lq.out.len ovb); have HH13 : Hid (HeldQ ((((ur2_).setCell ⟨WD12.heap.size, 0, none⟩ (.bool vqb.p)).setCell ⟨WD12.heap.size, 1, none⟩ (.slice vqb.A vqb.n vqb.c)).setCell ⟨WD12.heap.size, 2, none⟩ (.slice vqb.D vqb.m vqb.d)) [⟨WD12.heap.size, vqb, q⟩, ⟨gb12, vqa, p⟩, ⟨v7_.heap.size, q7, yz⟩, ⟨v6_.heap.size, q6, xz⟩, ⟨w.heap.size + 1 + 1, vc, z⟩, ⟨w.heap.size + 1, vb, y⟩, ⟨w.heap.size, va, x⟩]) := Lib.hid ((HH12.out.next hbF).cons ⟨bqb, oqb.nm, by have := HL.out; exact Nat.le_trans this.1 (by omega), by have := HL.out; exact Nat.le_trans this.2 (by omega)⟩); have HZ13 : Hid (Held ((((ur2_).setCell ⟨WD12.heap.size, 0, none⟩ (.bool vqb.p)).setCell ⟨WD12.heap.size, 1, none⟩ (.slice vqb.A vqb.n vqb.c)).setCell ⟨WD12.heap.size, 2, none⟩ (.slice vqb.D vqb.m vqb.d)) [⟨v11_.heap.size, up, N11, n11, d11⟩, ⟨v10_.heap.size, lo, N10, n10, d10⟩]) := Lib.hid (HZ12.out.next hbF); have HB13 : Hid (Below w.heap.size w ((((ur2_).setCell ⟨WD12.heap.size, 0, none⟩ (.bool vqb.p)).setCell ⟨WD12.heap.size, 1, none⟩ (.slice vqb.A vqb.n vqb.c)).setCell ⟨WD12.heap.size, 2, none⟩ (.slice vqb.D vqb.m vqb.d))) := Lib.hid (below_then HB12.out hbF); clear hbF bqb oqb HL; generalize (((ur2_).setCell ⟨WD12.heap.size, 0, none⟩ (.bool vqb.p)).setCell ⟨WD12.heap.size, 1, none⟩ (.slice vqb.A vqb.n vqb.c)).setCell ⟨WD12.heap.size, 2, none⟩ (.slice vqb.D vqb.m vqb.d) = wq13 at *; generalize WD12.heap.size = gb13 at *)
      | (have hbF : Below WD12.heap.size WD12 ((((ur2_).setCell ⟨ur1_.heap.size, 0, none⟩ (.bool vqb.p)).setCell ⟨ur1_.heap.size, 1, none⟩ (.slice vqb.A vqb.n vqb.c)).setCell ⟨ur1_.heap.size, 2, none⟩ (.slice vqb.D vqb.m vqb.d)) := box_below3 (below_then hdr.out hbr1).size (below_then (below_then (below_then hdr.out hbr1) (bxb ur1_ qz)) hbr2) _ _ _; have bqb := boxq_set (bq2) vqb; have oqb := (ovb).box3 (B := WD12.heap.size) (g := ur1_.heap.size) (BoxQ.lt (boxq_new ur1_)) (below_then hdr.out hbr1).size (.bool vqb.p) (.slice vqb.A vqb.n vqb.c) (.slice vqb.D vqb.m vqb.d); have HL := Lib.hid (Lq.out.len ovb); have HH13 : Hid (HeldQ ((((ur2_).setCell ⟨ur1_.heap.size, 0, none⟩ (.bool vqb.p)).setCell ⟨ur1_.heap.size, 1, none⟩ (.slice vqb.A vqb.n vqb.c)).setCell ⟨ur1_.heap.size, 2, none⟩ (.slice vqb.D vqb.m vqb.d)) [⟨ur1_.heap.size, vqb, q⟩, ⟨gb12, vqa, p⟩, ⟨v7_.heap.size, q7, yz⟩, ⟨v6_.heap.size, q6, xz⟩, ⟨w.heap.size + 1 + 1, vc, z⟩, ⟨w.heap.size + 1, vb, y⟩, ⟨w.heap.size, va, x⟩]) := Lib.hid ((HH12.out.next hbF).cons ⟨bqb, oqb.nm, by have := HL.out; exact Nat.le_trans this.1 (by omega), by have := HL.out; exact Nat.le_trans this.2 (by omega)⟩); have HZ13 : Hid (Held ((((ur2_).setCell ⟨ur1_.heap.size, 0, none⟩ (.bool vqb.p)).setCell ⟨ur1_.heap.size, 1, none⟩ (.slice vqb.A vqb.n vqb.c)).setCell ⟨ur1_.heap.size, 2, none⟩ (.slice vqb.D vqb.m vqb.d)) [⟨v11_.heap.size, up, N11, n11, d11⟩, ⟨v10_.heap.size, lo, N10, n10, d10⟩]) := Lib.hid (HZ12.out.next hbF); have HB13 : Hid (Below w.heap.size w ((((ur2_).setCell ⟨ur1_.heap.size, 0, none⟩ (.bool vqb.p)).setCell ⟨ur1_.heap.size, 1, none⟩ (.slice vqb.A vqb.n vqb.c)).setCell ⟨ur1_.heap.size, 2, none⟩ (.slice vqb.D vqb.m vqb.d))) := Lib.hid (below_then HB12.out hbF); clear hbF bqb oqb HL; generalize (((ur2_).setCell ⟨ur1_.heap.size, 0, none⟩ (.bool vqb.p)).setCell ⟨ur1_.heap.size, 1, none⟩ (.slice vqb.A vqb.n vqb.c)).setCell ⟨ur1_.heap.size, 2, none⟩ (.slice vqb.D vqb.m vqb.d) = wq13 at *; generalize ur1_.heap.size = gb13 at *)
    all_goals clear xup0 xup1
    all_goals
      have cx0 := (HH13.out _ (.tail _ (.tail _ (.tail _ (.tail _ (.tail _ (.tail _ (.head _)))))))).b.c0
      have cx1 := (HH13.out _ (.tail _ (.tail _ (.tail _ (.tail _ (.tail _ (.tail _ (.head _)))))))).b.c1
      have cx2 := (HH13.out _ (.tail _ (.tail _ (.tail _ (.tail _ (.tail _ (.tail _ (.head _)))))))).b.c2
      have cy0 := (HH13.out _ (.tail _ (.tail _ (.tail _ (.tail _ (.tail _ (.head _))))))).b.c0
      have cy1 := (HH13.out _ (.tail _ (.tail _ (.tail _ (.tail _ (.tail _ (.head _))))))).b.c1
      have cy2 := (HH13.out _ (.tail _ (.tail _ (.tail _ (.tail _ (.tail _ (.head _))))))).b.c2
      have W1 := HW1.out
      have htb := Htb.out
      go_wp2_with fail
      refine (sameM HSame.out (HH13.out _ (.tail _ (.tail _ (.tail _ (.tail _ (.tail _ (.tail _ (.head _)))))))).m (HH13.out _ (.tail _ (.tail _ (.tail _ (.tail _ (.tail _ (.head _))))))).m (HH13.out _ (.tail _ (.tail _ (.tail _ (.tail _ (.tail _ (.tail _ (.head _)))))))).ln (HH13.out _ (.tail _ (.tail _ (.tail _ (.tail _ (.tail _ (.tail _ (.head _)))))))).ld (HH13.out _ (.tail _ (.tail _ (.tail _ (.tail _ (.tail _ (.head _))))))).ln (HH13.out _ (.tail _ (.tail _ (.tail _ (.tail _ (.tail _ (.head _))))))).ld Hsm.out).mono ?_
      rintro e v14_ ⟨rfl, hb⟩
      have HH14 := Lib.hid (HH13.out.next hb)
      have HZ14 := Lib.hid (HZ13.out.next hb)
      have HB14 := Lib.hid (below_then HB13.out hb)
      clear HH13 HZ13 HB13
      clear hb
      clear cx0 cx1 cx2 cy0 cy1 cy2
      have cx0 := (HH14.out _ (.tail _ (.tail _ (.tail _ (.tail _ (.tail _ (.tail _ (.head _)))))))).b.c0
      have cx1 := (HH14.out _ (.tail _ (.tail _ (.tail _ (.tail _ (.tail _ (.tail _ (.head _)))))))).b.c1
      have cx2 := (HH14.out _ (.tail _ (.tail _ (.tail _ (.tail _ (.tail _ (.tail _ (.head _)))))))).b.c2
      have cp0 := (HH14.out _ (.tail _ (.head _))).b.c0
      have cp1 := (HH14.out _ (.tail _ (.head _))).b.c1
      have cp2 := (HH14.out _ (.tail _ (.head _))).b.c2
      go_wp2_with fail
      refine (opM (t := s) HSub.out (HH14.out _ (.tail _ (.tail _ (.tail _ (.tail _ (.tail _ (.tail _ (.head _)))))))).m (HH14.out _ (.tail _ (.head _))).m (HH14.out _ (.tail _ (.tail _ (.tail _ (.tail _ (.tail _ (.tail _ (.head _)))))))).ln (HH14.out _ (.tail _ (.tail _ (.tail _ (.tail _ (.tail _ (.tail _ (.head _)))))))).ld (HH14.out _ (.tail _ (.head _))).ln (HH14.out _ (.tail _ (.head _))).ld Es.out).mono ?_
      rintro e v15_ ⟨q15, rfl, o15, hb⟩
      have HL := Lib.hid (Ls.out.len o15)
      have HH15 : Hid (HeldQ (v15_.alloc (.cells #[.bool q15.p, .slice q15.A q15.n q15.c, .slice q15.D q15.m q15.d] qT)) [⟨v15_.heap.size, q15, s⟩, ⟨gb13, vqb, q⟩, ⟨gb12, vqa, p⟩, ⟨v7_.heap.size, q7, yz⟩, ⟨v6_.heap.size, q6, xz⟩, ⟨w.heap.size + 1 + 1, vc, z⟩, ⟨w.heap.size + 1, vb, y⟩, ⟨w.heap.size, va, x⟩]) := Lib.hid ((HH14.out.next (below_then hb (bxb _ q15.o))).cons (IQ.fresh o15 (by have := HL.out; omega) (by have := HL.out; omega)))
      have HZ15 : Hid (Held (v15_.alloc (.cells #[.bool q15.p, .slice q15.A q15.n q15.c, .slice q15.D q15.m q15.d] qT)) [⟨v11_.heap.size, up, N11, n11, d11⟩, ⟨v10_.heap.size, lo, N10, n10, d10⟩]) := Lib.hid (HZ14.out.next (below_then hb (bxb _ q15.o)))
      have HB15 : Hid (Below w.heap.size w (v15_.alloc (.cells #[.bool q15.p, .slice q15.A q15.n q15.c, .slice q15.D q15.m q15.d] qT))) := Lib.hid (below_then HB14.out (below_then hb (bxb _ q15.o)))
      clear hb o15 HL HH14 HZ14 HB14
      unfold QV.v
      clear cx0 cx1 cx2 cp0 cp1 cp2
      have cq0 := (HH15.out _ (.tail _ (.head _))).b.c0
      have cq1 := (HH15.out _ (.tail _ (.head _))).b.c1
      have cq2 := (HH15.out _ (.tail _ (.head _))).b.c2
      have cx0 := (HH15.out _ (.tail _ (.tail _ (.tail _ (.tail _ (.tail _ (.tail _ (.tail _ (.head _))))))))).b.c0
      have cx1 := (HH15.out _ (.tail _ (.tail _ (.tail _ (.tail _ (.tail _ (.tail _ (.tail _ (.head _))))))))).b.c1
      have cx2 := (HH15.out _ (.tail _ (.tail _ (.tail _ (.tail _ (.tail _ (.tail _ (.tail _ (.head _))))))))).b.c2
      go_wp2_with fail
      refine (opM (t := t) HSub.out (HH15.out _ (.tail _ (.head _))).m (HH15.out _ (.tail _ (.tail _ (.tail _ (.tail _ (.tail _ (.tail _ (.tail _ (.head _))))))))).m (HH15.out _ (.tail _ (.head _))).ln (HH15.out _ (.tail _ (.head _))).ld (HH15.out _ (.tail _ (.tail _ (.tail _ (.tail _ (.tail _ (.tail _ (.tail _ (.head _))))))))).ln (HH15.out _ (.tail _ (.tail _ (.tail _ (.tail _ (.tail _ (.tail _ (.tail _ (.head _))))))))).ld Et.out).mono ?_
      rintro e v16_ ⟨q16, rfl, o16, hb⟩
      have HL := Lib.hid (Lt.out.len o16)
      have HH16 : Hid (HeldQ (v16_.alloc (.cells #[.bool q16.p, .slice q16.A q16.n q16.c, .slice q16.D q16.m q16.d] qT)) [⟨v16_.heap.size, q16, t⟩, ⟨v15_.heap.size, q15, s⟩, ⟨gb13, vqb, q⟩, ⟨gb12, vqa, p⟩, ⟨v7_.heap.size, q7, yz⟩, ⟨v6_.heap.size, q6, xz⟩, ⟨w.heap.size + 1 + 1, vc, z⟩, ⟨w.heap.size + 1, vb, y⟩, ⟨w.heap.size, va, x⟩]) := Lib.hid ((HH15.out.next (below_then hb (bxb _ q16.o))).cons (IQ.fresh o16 (by have := HL.out; omega) (by have := HL.out; omega)))
      have HZ16 : Hid (Held (v16_.alloc (.cells #[.bool q16.p, .slice q16.A q16.n q16.c, .slice q16.D q16.m q16.d] qT)) [⟨v11_.heap.size, up, N11, n11, d11⟩, ⟨v10_.heap.size, lo, N10, n10, d10⟩]) := Lib.hid (HZ15.out.next (below_then hb (bxb _ q16.o)))
      have HB16 : Hid (Below w.heap.size w (v16_.alloc (.cells #[.bool q16.p, .slice q16.A q16.n q16.c, .slice q16.D q16.m q16.d] qT))) := Lib.hid (below_then HB15.out (below_then hb (bxb _ q16.o)))
      clear hb o16 HL HH15 HZ15 HB15
      unfold QV.v
      clear cq0 cq1 cq2 cx0 cx1 cx2
      have cs0 := (HH16.out _ (.tail _ (.head _))).b.c0
      have cs1 := (HH16.out _ (.tail _ (.head _))).b.c1
      have cs2 := (HH16.out _ (.tail _ (.head _))).b.c2
      have HHd := Lib.hid (HH16.out.next (Below.refl _ _).drew)
      have HZd := Lib.hid (HZ16.out.next (Below.refl _ _).drew)
      have HBd := Lib.hid (below_then HB16.out (Below.refl _ _).drew)
      go_wp2_with fail
      go_region_held3 (fun W' => W'.cell? ⟨v15_.heap.size, 0, none⟩ = some (.bool q15.p) ∧ W'.cell? ⟨v15_.heap.size, 1, none⟩ = some (.slice q15.A q15.n q15.c) ∧ W'.cell? ⟨v15_.heap.size, 2, none⟩ = some (.slice q15.D q15.m q15.d)) (first | (with_reducible exact ⟨cs0, cs1, cs2⟩) | (with_reducible refine ⟨cell_far (cell_far (cs0) ?_ _) ?_ _, cell_far (cell_far (cs1) ?_ _) ?_ _, cell_far (cell_far (cs2) ?_ _) ?_ _⟩ <;> omega) | go_keep)
        (first
          | (go_at_call 11; refine (ofS_any (x := o1) HOf.out 1 1 (by omega) (by omega) (by omega) (by omega) (by omega) (by rw [q_of1, Eo1.out]; rfl)).mono ?_; rintro e ur1_ ⟨qo, rfl, oo, hbr1⟩; have HHr1 := Lib.hid (HHd.out.next hbr1); have HZr1 := Lib.hid (HZd.out.next hbr1); have HBr1 := Lib.hid (below_then HBd.out hbr1); clear cs0 cs1 cs2; have cs0 := (HHr1.out _ (.tail _ (.head _))).b.c0; have cs1 := (HHr1.out _ (.tail _ (.head _))).b.c1; have cs2 := (HHr1.out _ (.tail _ (.head _))).b.c2; have HL := Lib.hid (Lo1.out.len oo); have jo := Lib.hid (And.intro oo.nm HL.out); (try unfold QV.v); (try unfold zV); (try unfold zv))
          | (go_at_call 12; refine (cmpM HCmp.out (HHr1.out _ (.tail _ (.head _))).m jo.out.1 (HHr1.out _ (.tail _ (.head _))).ln (HHr1.out _ (.tail _ (.head _))).ld (by have := jo.out.2; omega) (by have := jo.out.2; omega) Hu.out).mono ?_; rintro e ur2_ ⟨rfl, hbr2⟩; have HHr2 := Lib.hid (HHr1.out.next hbr2); have HZr2 := Lib.hid (HZr1.out.next hbr2); have HBr2 := Lib.hid (below_then HBr1.out hbr2); clear cs0 cs1 cs2; have cs0 := (HHr2.out _ (.tail _ (.head _))).b.c0; have cs1 := (HHr2.out _ (.tail _ (.head _))).b.c1; have cs2 := (HHr2.out _ (.tail _ (.head _))).b.c2; (try unfold QV.v); (try unfold zV); (try unfold zv)))
      clear cs0 cs1 cs2
      have HH17 := HHr2
      have HZ17 := HZr2
      have HB17 := HBr2
      clear jo
      have ct0 := (HH17.out _ (.head _)).b.c0
      have ct1 := (HH17.out _ (.head _)).b.c1
      have ct2 := (HH17.out _ (.head _)).b.c2
      have HHd := Lib.hid (HH17.out.next (Below.refl _ _).drew)
      have HZd := Lib.hid (HZ17.out.next (Below.refl _ _).drew)
      have HBd := Lib.hid (below_then HB17.out (Below.refl _ _).drew)
      go_wp2_with fail
      go_region_held3 (fun W' => W'.cell? ⟨v16_.heap.size, 0, none⟩ = some (.bool q16.p) ∧ W'.cell? ⟨v16_.heap.size, 1, none⟩ = some (.slice q16.A q16.n q16.c) ∧ W'.cell? ⟨v16_.heap.size, 2, none⟩ = some (.slice q16.D q16.m q16.d)) (first | (with_reducible exact ⟨ct0, ct1, ct2⟩) | (with_reducible refine ⟨cell_far (cell_far (ct0) ?_ _) ?_ _, cell_far (cell_far (ct1) ?_ _) ?_ _, cell_far (cell_far (ct2) ?_ _) ?_ _⟩ <;> omega) | go_keep)
        (first
          | (go_at_call 11; refine (ofS_any (x := o1) HOf.out 1 1 (by omega) (by omega) (by omega) (by omega) (by omega) (by rw [q_of1, Eo1.out]; rfl)).mono ?_; rintro e ur1_ ⟨qo, rfl, oo, hbr1⟩; have HHr1 := Lib.hid (HHd.out.next hbr1); have HZr1 := Lib.hid (HZd.out.next hbr1); have HBr1 := Lib.hid (below_then HBd.out hbr1); clear ct0 ct1 ct2; have ct0 := (HHr1.out _ (.head _)).b.c0; have ct1 := (HHr1.out _ (.head _)).b.c1; have ct2 := (HHr1.out _ (.head _)).b.c2; have HL := Lib.hid (Lo1.out.len oo); have jo := Lib.hid (And.intro oo.nm HL.out); (try unfold QV.v); (try unfold zV); (try unfold zv))
          | (go_at_call 12; refine (cmpM HCmp.out (HHr1.out _ (.head _)).m jo.out.1 (HHr1.out _ (.head _)).ln (HHr1.out _ (.head _)).ld (by have := jo.out.2; omega) (by have := jo.out.2; omega) Hv.out).mono ?_; rintro e ur2_ ⟨rfl, hbr2⟩; have HHr2 := Lib.hid (HHr1.out.next hbr2); have HZr2 := Lib.hid (HZr1.out.next hbr2); have HBr2 := Lib.hid (below_then HBr1.out hbr2); clear ct0 ct1 ct2; have ct0 := (HHr2.out _ (.head _)).b.c0; have ct1 := (HHr2.out _ (.head _)).b.c1; have ct2 := (HHr2.out _ (.head _)).b.c2; (try unfold QV.v); (try unfold zV); (try unfold zv)))
      clear ct0 ct1 ct2
      have HH18 := HHr2
      have HZ18 := HZr2
      have HB18 := HBr2
      clear jo
      have cs0 := (HH18.out _ (.tail _ (.head _))).b.c0
      have cs1 := (HH18.out _ (.tail _ (.head _))).b.c1
      have cs2 := (HH18.out _ (.tail _ (.head _))).b.c2
      have HHd := Lib.hid (HH18.out.next (Below.refl _ _).drew)
      have HZd := Lib.hid (HZ18.out.next (Below.refl _ _).drew)
      have HBd := Lib.hid (below_then HB18.out (Below.refl _ _).drew)
      go_wp2_with fail
      go_region_held3 (fun W' => W'.cell? ⟨v15_.heap.size, 0, none⟩ = some (.bool q15.p) ∧ W'.cell? ⟨v15_.heap.size, 1, none⟩ = some (.slice q15.A q15.n q15.c) ∧ W'.cell? ⟨v15_.heap.size, 2, none⟩ = some (.slice q15.D q15.m q15.d)) (first | (with_reducible exact ⟨cs0, cs1, cs2⟩) | (with_reducible refine ⟨cell_far (cell_far (cs0) ?_ _) ?_ _, cell_far (cell_far (cs1) ?_ _) ?_ _, cell_far (cell_far (cs2) ?_ _) ?_ _⟩ <;> omega) | go_keep)
        (first
          | (go_at_call 11; refine (ofS_any (x := o0) HOf.out 0 1 (by omega) (by omega) (by omega) (by omega) (by omega) (by rw [q_of1, Eo0.out]; rfl)).mono ?_; rintro e ur1_ ⟨qo, rfl, oo, hbr1⟩; have HHr1 := Lib.hid (HHd.out.next hbr1); have HZr1 := Lib.hid (HZd.out.next hbr1); have HBr1 := Lib.hid (below_then HBd.out hbr1); clear cs0 cs1 cs2; have cs0 := (HHr1.out _ (.tail _ (.head _))).b.c0; have cs1 := (HHr1.out _ (.tail _ (.head _))).b.c1; have cs2 := (HHr1.out _ (.tail _ (.head _))).b.c2; have HL := Lib.hid (Lo0.out.len oo); have jo := Lib.hid (And.intro oo.nm HL.out); (try unfold QV.v); (try unfold zV); (try unfold zv))
          | (go_at_call 12; refine (cmpM HCmp.out (HHr1.out _ (.tail _ (.head _))).m jo.out.1 (HHr1.out _ (.tail _ (.head _))).ln (HHr1.out _ (.tail _ (.head _))).ld (by have := jo.out.2; omega) (by have := jo.out.2; omega) Hwl.out).mono ?_; rintro e ur2_ ⟨rfl, hbr2⟩; have HHr2 := Lib.hid (HHr1.out.next hbr2); have HZr2 := Lib.hid (HZr1.out.next hbr2); have HBr2 := Lib.hid (below_then HBr1.out hbr2); clear cs0 cs1 cs2; have cs0 := (HHr2.out _ (.tail _ (.head _))).b.c0; have cs1 := (HHr2.out _ (.tail _ (.head _))).b.c1; have cs2 := (HHr2.out _ (.tail _ (.head _))).b.c2; (try unfold QV.v); (try unfold zV); (try unfold zv)))
      clear cs0 cs1 cs2
      have HH19 := HHr2
      have HZ19 := HZr2
      have HB19 := HBr2
      clear jo
      have ct0 := (HH19.out _ (.head _)).b.c0
      have ct1 := (HH19.out _ (.head _)).b.c1
      have ct2 := (HH19.out _ (.head _)).b.c2
      have HHd := Lib.hid (HH19.out.next (Below.refl _ _).drew)
      have HZd := Lib.hid (HZ19.out.next (Below.refl _ _).drew)
      have HBd := Lib.hid (below_then HB19.out (Below.refl _ _).drew)
      go_wp2_with fail
      go_region_held3 (fun W' => W'.cell? ⟨v16_.heap.size, 0, none⟩ = some (.bool q16.p) ∧ W'.cell? ⟨v16_.heap.size, 1, none⟩ = some (.slice q16.A q16.n q16.c) ∧ W'.cell? ⟨v16_.heap.size, 2, none⟩ = some (.slice q16.D q16.m q16.d)) (first | (with_reducible exact ⟨ct0, ct1, ct2⟩) | (with_reducible refine ⟨cell_far (cell_far (ct0) ?_ _) ?_ _, cell_far (cell_far (ct1) ?_ _) ?_ _, cell_far (cell_far (ct2) ?_ _) ?_ _⟩ <;> omega) | go_keep)
        (first
          | (go_at_call 11; refine (ofS_any (x := o0) HOf.out 0 1 (by omega) (by omega) (by omega) (by omega) (by omega) (by rw [q_of1, Eo0.out]; rfl)).mono ?_; rintro e ur1_ ⟨qo, rfl, oo, hbr1⟩; have HHr1 := Lib.hid (HHd.out.next hbr1); have HZr1 := Lib.hid (HZd.out.next hbr1); have HBr1 := Lib.hid (below_then HBd.out hbr1); clear ct0 ct1 ct2; have ct0 := (HHr1.out _ (.head _)).b.c0; have ct1 := (HHr1.out _ (.head _)).b.c1; have ct2 := (HHr1.out _ (.head _)).b.c2; have HL := Lib.hid (Lo0.out.len oo); have jo := Lib.hid (And.intro oo.nm HL.out); (try unfold QV.v); (try unfold zV); (try unfold zv))
          | (go_at_call 12; refine (cmpM HCmp.out (HHr1.out _ (.head _)).m jo.out.1 (HHr1.out _ (.head _)).ln (HHr1.out _ (.head _)).ld (by have := jo.out.2; omega) (by have := jo.out.2; omega) Hwu.out).mono ?_; rintro e ur2_ ⟨rfl, hbr2⟩; have HHr2 := Lib.hid (HHr1.out.next hbr2); have HZr2 := Lib.hid (HZr1.out.next hbr2); have HBr2 := Lib.hid (below_then HBr1.out hbr2); clear ct0 ct1 ct2; have ct0 := (HHr2.out _ (.head _)).b.c0; have ct1 := (HHr2.out _ (.head _)).b.c1; have ct2 := (HHr2.out _ (.head _)).b.c2; (try unfold QV.v); (try unfold zV); (try unfold zv)))
      clear ct0 ct1 ct2
      have HH20 := HHr2
      have HZ20 := HZr2
      have HB20 := HBr2
      clear jo
      have gl := Gl.out
      have gu := Gu.out
      go_wp2
      go_ret
      exact ⟨by simp, HB20.out⟩
/-- A comparison, when its int is not asked. -/
theorem cmpWeak {F : Nat} (hF : CmpQIs F) {w : World} {v v2 : QV} {a d a2 d2 : List Nat} (h : Q1 w v a d) (h2 : Q1 w v2 a2 d2) :
    Calls Tryz.prog F #[v.v, v2.v] w fun e w' => ∃ i : Int, e = .returned (.tuple #[.int .i64 i, .int .i64 (if both2 v v2 a d a2 d2 then 0 else 8)]) ∧ Below w.heap.size w w' :=
  (hF v v2 a d a2 d2 w h h2).mono fun e w' h => ⟨_, h.1, h.2⟩
section
variable (va vb vc : QV) (a d a2 d2 a3 d3 : List Nat) (w : World)
set_option maxRecDepth 100000 in
set_option maxHeartbeats 4000000 in
theorem orderQ_bad (hva : Q1 w va a d) (hvb : Q1 w vb a2 d2) (hvc : Q1 w vc a3 d3) (l1 : va.n ≤ 8 ∧ va.m ≤ 8) (l2 : vb.n ≤ 8 ∧ vb.m ≤ 8) (l3 : vc.n ≤ 8 ∧ vc.m ≤ 8)
    (hm : ¬ (mayQ va.p a d = true ∧ mayQ vb.p a2 d2 = true ∧ mayQ vc.p a3 d3 = true))
    (hAl : ∀ W, Calls Tryz.prog 17 #[] W fun e w' => e = .returned (.bool true) ∧ Below W.heap.size W w') (hAdd : OpQIs (fun x y => x + y) 21) (hCmp : CmpQIs 12) :
    Calls Tryz.prog 7 #[va.v, vb.v, vc.v] w fun e w' => e = .returned (.bool true) ∧ Below w.heap.size w w' := by
  have T0 := tri_q w va vb vc
  have HAl := Lib.hid hAl
  have HC := Lib.hid (fun W (hW : Below w.heap.size w W) => cmpWeak hCmp (hva.below hW) (hvb.below hW))
  have HA := Lib.hid (fun W (hW : Below w.heap.size w W) => opWeakO hAdd (hva.below hW) (hvc.below hW))
  have HA2 := Lib.hid (fun W (hW : Below w.heap.size w W) => opWeakO hAdd (hvb.below hW) (hvc.below hW))
  have G1 := Lib.hid (fun W (n : Int) => rGreat_any (v := va) (w := W) n)
  have G2 := Lib.hid (fun W (n : Int) => rGreat_any (v := vb) (w := W) n)
  have G3 := Lib.hid (fun W (n : Int) => rGreat_any (v := vc) (w := W) n)
  have g1 : ∀ (n m : Nat), n ≤ 8 ∧ m ≤ 8 → (decide ((8 : Int) < (n : Int)) || decide ((8 : Int) < (m : Int))) = false := fun n m h => by simp; omega
  have GG := Lib.hid (And.intro (g1 _ _ l1) (And.intro (g1 _ _ l2) (g1 _ _ l3)))
  clear hva hvb hvc l1 l2 l3 g1 hAl hAdd hCmp
  generalize (if both2 vb vc a2 d2 a3 d3 then (0 : Int) else 8) = E3 at HA2
  cases e1 : both2 va vb a d a2 d2 with
  | false =>
    rw [e1] at HC
    generalize (if both2 va vc a d a3 d3 then (0 : Int) else 8) = E2 at HA
    simp only [Bool.false_eq_true, if_false] at HC
    clear e1 hm
    dsimp only [QV.v]
    go_enter Tryz.func7, Tryz.ntmps7
    go_wp2_with fail
    refine (HAl.out _).mono ?_
    rintro e w1 ⟨rfl, hb⟩
    have T1 := T0.next hb
    clear hb T0
    have cx0 := T1.x.c0
    have cx1 := T1.x.c1
    have cx2 := T1.x.c2
    have cy0 := T1.y.c0
    have cy1 := T1.y.c1
    have cy2 := T1.y.c2
    have cr0 := T1.r.c0
    have cr1 := T1.r.c1
    have cr2 := T1.r.c2
    go_wp2_with fail
    refine (G1.out _ 8).mono ?_
    rintro e w2 ⟨rfl, hb⟩
    rw [GG.out.1]
    have T2 := T1.next hb
    clear hb T1
    clear cx0 cx1 cx2 cy0 cy1 cy2 cr0 cr1 cr2
    have cx0 := T2.x.c0
    have cx1 := T2.x.c1
    have cx2 := T2.x.c2
    have cy0 := T2.y.c0
    have cy1 := T2.y.c1
    have cy2 := T2.y.c2
    have cr0 := T2.r.c0
    have cr1 := T2.r.c1
    have cr2 := T2.r.c2
    go_wp2_with fail
    refine (G2.out _ 8).mono ?_
    rintro e w3 ⟨rfl, hb⟩
    rw [GG.out.2.1]
    have T3 := T2.next hb
    clear hb T2
    clear cx0 cx1 cx2 cy0 cy1 cy2 cr0 cr1 cr2
    have cx0 := T3.x.c0
    have cx1 := T3.x.c1
    have cx2 := T3.x.c2
    have cy0 := T3.y.c0
    have cy1 := T3.y.c1
    have cy2 := T3.y.c2
    have cr0 := T3.r.c0
    have cr1 := T3.r.c1
    have cr2 := T3.r.c2
    go_wp2_with fail
    refine (G3.out _ 8).mono ?_
    rintro e w4 ⟨rfl, hb⟩
    rw [GG.out.2.2]
    have T4 := T3.next hb
    clear hb T3
    clear cx0 cx1 cx2 cy0 cy1 cy2 cr0 cr1 cr2
    have cx0 := T4.x.c0
    have cx1 := T4.x.c1
    have cx2 := T4.x.c2
    have cy0 := T4.y.c0
    have cy1 := T4.y.c1
    have cy2 := T4.y.c2
    have cr0 := T4.r.c0
    have cr1 := T4.r.c1
    have cr2 := T4.r.c2
    go_wp2_with fail
    refine (HC.out _ T4.b).mono ?_
    rintro e w5 ⟨i5, rfl, hb⟩
    have T5 := T4.next hb
    clear hb T4
    clear cx0 cx1 cx2 cy0 cy1 cy2 cr0 cr1 cr2
    have cx0 := T5.x.c0
    have cx1 := T5.x.c1
    have cx2 := T5.x.c2
    have cy0 := T5.y.c0
    have cy1 := T5.y.c1
    have cy2 := T5.y.c2
    have cr0 := T5.r.c0
    have cr1 := T5.r.c1
    have cr2 := T5.r.c2
    go_wp2_with fail
    refine (HA.out _ T5.b).mono ?_
    rintro e w6 ⟨v6, rfl, hb⟩
    have T6 := T5.next (below_then hb (bxb _ v6.o))
    unfold QV.o at T6
    clear hb T5
    clear cx0 cx1 cx2 cy0 cy1 cy2 cr0 cr1 cr2
    have cx0 := T6.x.c0
    have cx1 := T6.x.c1
    have cx2 := T6.x.c2
    have cy0 := T6.y.c0
    have cy1 := T6.y.c1
    have cy2 := T6.y.c2
    have cr0 := T6.r.c0
    have cr1 := T6.r.c1
    have cr2 := T6.r.c2
    unfold QV.v
    go_wp2_with fail
    refine (HA2.out _ T6.b).mono ?_
    rintro e w7 ⟨v7, rfl, hb⟩
    have T7 := T6.next (below_then hb (bxb _ v7.o))
    clear hb T6
    clear cx0 cx1 cx2 cy0 cy1 cy2 cr0 cr1 cr2
    have cx0 := T7.x.c0
    have cx1 := T7.x.c1
    have cx2 := T7.x.c2
    have cy0 := T7.y.c0
    have cy1 := T7.y.c1
    have cy2 := T7.y.c2
    have cr0 := T7.r.c0
    have cr1 := T7.r.c1
    have cr2 := T7.r.c2
    unfold QV.v
    go_wp2
    go_ret
    exact ⟨by simp, T7.b⟩
  | true =>
    rw [e1] at HC
    have e2 : both2 va vc a d a3 d3 = false := by
      cases e2 : both2 va vc a d a3 d3 with
      | false => rfl
      | true => exact absurd ⟨(both_iffO.1 e1).1, (both_iffO.1 e1).2, (both_iffO.1 e2).2⟩ hm
    rw [e2] at HA
    simp only [if_true] at HC
    simp only [Bool.false_eq_true, if_false] at HA
    clear e1 e2 hm
    dsimp only [QV.v]
    go_enter Tryz.func7, Tryz.ntmps7
    go_wp2_with fail
    refine (HAl.out _).mono ?_
    rintro e w1 ⟨rfl, hb⟩
    have T1 := T0.next hb
    clear hb T0
    have cx0 := T1.x.c0
    have cx1 := T1.x.c1
    have cx2 := T1.x.c2
    have cy0 := T1.y.c0
    have cy1 := T1.y.c1
    have cy2 := T1.y.c2
    have cr0 := T1.r.c0
    have cr1 := T1.r.c1
    have cr2 := T1.r.c2
    go_wp2_with fail
    refine (G1.out _ 8).mono ?_
    rintro e w2 ⟨rfl, hb⟩
    rw [GG.out.1]
    have T2 := T1.next hb
    clear hb T1
    clear cx0 cx1 cx2 cy0 cy1 cy2 cr0 cr1 cr2
    have cx0 := T2.x.c0
    have cx1 := T2.x.c1
    have cx2 := T2.x.c2
    have cy0 := T2.y.c0
    have cy1 := T2.y.c1
    have cy2 := T2.y.c2
    have cr0 := T2.r.c0
    have cr1 := T2.r.c1
    have cr2 := T2.r.c2
    go_wp2_with fail
    refine (G2.out _ 8).mono ?_
    rintro e w3 ⟨rfl, hb⟩
    rw [GG.out.2.1]
    have T3 := T2.next hb
    clear hb T2
    clear cx0 cx1 cx2 cy0 cy1 cy2 cr0 cr1 cr2
    have cx0 := T3.x.c0
    have cx1 := T3.x.c1
    have cx2 := T3.x.c2
    have cy0 := T3.y.c0
    have cy1 := T3.y.c1
    have cy2 := T3.y.c2
    have cr0 := T3.r.c0
    have cr1 := T3.r.c1
    have cr2 := T3.r.c2
    go_wp2_with fail
    refine (G3.out _ 8).mono ?_
    rintro e w4 ⟨rfl, hb⟩
    rw [GG.out.2.2]
    have T4 := T3.next hb
    clear hb T3
    clear cx0 cx1 cx2 cy0 cy1 cy2 cr0 cr1 cr2
    have cx0 := T4.x.c0
    have cx1 := T4.x.c1
    have cx2 := T4.x.c2
    have cy0 := T4.y.c0
    have cy1 := T4.y.c1
    have cy2 := T4.y.c2
    have cr0 := T4.r.c0
    have cr1 := T4.r.c1
    have cr2 := T4.r.c2
    go_wp2_with fail
    refine (HC.out _ T4.b).mono ?_
    rintro e w5 ⟨i5, rfl, hb⟩
    have T5 := T4.next hb
    clear hb T4
    clear cx0 cx1 cx2 cy0 cy1 cy2 cr0 cr1 cr2
    have cx0 := T5.x.c0
    have cx1 := T5.x.c1
    have cx2 := T5.x.c2
    have cy0 := T5.y.c0
    have cy1 := T5.y.c1
    have cy2 := T5.y.c2
    have cr0 := T5.r.c0
    have cr1 := T5.r.c1
    have cr2 := T5.r.c2
    go_wp2_with fail
    refine (HA.out _ T5.b).mono ?_
    rintro e w6 ⟨v6, rfl, hb⟩
    have T6 := T5.next (below_then hb (bxb _ v6.o))
    unfold QV.o at T6
    clear hb T5
    clear cx0 cx1 cx2 cy0 cy1 cy2 cr0 cr1 cr2
    have cx0 := T6.x.c0
    have cx1 := T6.x.c1
    have cx2 := T6.x.c2
    have cy0 := T6.y.c0
    have cy1 := T6.y.c1
    have cy2 := T6.y.c2
    have cr0 := T6.r.c0
    have cr1 := T6.r.c1
    have cr2 := T6.r.c2
    unfold QV.v
    go_wp2_with fail
    refine (HA2.out _ T6.b).mono ?_
    rintro e w7 ⟨v7, rfl, hb⟩
    have T7 := T6.next (below_then hb (bxb _ v7.o))
    clear hb T6
    clear cx0 cx1 cx2 cy0 cy1 cy2 cr0 cr1 cr2
    have cx0 := T7.x.c0
    have cx1 := T7.x.c1
    have cx2 := T7.x.c2
    have cy0 := T7.y.c0
    have cy1 := T7.y.c1
    have cy2 := T7.y.c2
    have cr0 := T7.r.c0
    have cr1 := T7.r.c1
    have cr2 := T7.r.c2
    unfold QV.v
    go_wp2
    go_ret
    exact ⟨by simp, T7.b⟩
set_option maxRecDepth 100000 in
set_option maxHeartbeats 4000000 in
theorem orderQ_long (hl : ¬ ((va.n ≤ 8 ∧ va.m ≤ 8) ∧ (vb.n ≤ 8 ∧ vb.m ≤ 8) ∧ vc.n ≤ 8 ∧ vc.m ≤ 8)) (hAl : ∀ W, Calls Tryz.prog 17 #[] W fun e w' => e = .returned (.bool true) ∧ Below W.heap.size W w') :
    Calls Tryz.prog 7 #[va.v, vb.v, vc.v] w fun e w' => e = .returned (.bool true) ∧ Below w.heap.size w w' := by
  have T0 := tri_q w va vb vc
  have HAl := Lib.hid hAl
  have G1 := Lib.hid (fun W (n : Int) => rGreat_any (v := va) (w := W) n)
  have G2 := Lib.hid (fun W (n : Int) => rGreat_any (v := vb) (w := W) n)
  have G3 := Lib.hid (fun W (n : Int) => rGreat_any (v := vc) (w := W) n)
  have g1 : ∀ (n m : Nat), ¬ (n ≤ 8 ∧ m ≤ 8) → (decide ((8 : Int) < (n : Int)) || decide ((8 : Int) < (m : Int))) = true := fun n m h => by simp; omega
  have g2 : ∀ (n m : Nat), n ≤ 8 ∧ m ≤ 8 → (decide ((8 : Int) < (n : Int)) || decide ((8 : Int) < (m : Int))) = false := fun n m h => by simp; omega
  clear hAl
  by_cases k1 : va.n ≤ 8 ∧ va.m ≤ 8
  · have e1 := g2 _ _ k1
    by_cases k2 : vb.n ≤ 8 ∧ vb.m ≤ 8
    · have e2 := g2 _ _ k2
      have e3 := g1 vc.n vc.m (fun h => hl ⟨k1, k2, h⟩)
      clear g1 g2 hl k1 k2
      dsimp only [QV.v]
      go_enter Tryz.func7, Tryz.ntmps7
      go_wp2_with fail
      refine (HAl.out _).mono ?_
      rintro e w1 ⟨rfl, hb⟩
      have T1 := T0.next hb
      clear hb T0
      have cx0 := T1.x.c0
      have cx1 := T1.x.c1
      have cx2 := T1.x.c2
      have cy0 := T1.y.c0
      have cy1 := T1.y.c1
      have cy2 := T1.y.c2
      have cr0 := T1.r.c0
      have cr1 := T1.r.c1
      have cr2 := T1.r.c2
      go_wp2_with fail
      refine (G1.out _ 8).mono ?_
      rintro e w2 ⟨rfl, hb⟩
      rw [e1]
      have T2 := T1.next hb
      clear hb T1
      clear cx0 cx1 cx2 cy0 cy1 cy2 cr0 cr1 cr2
      have cx0 := T2.x.c0
      have cx1 := T2.x.c1
      have cx2 := T2.x.c2
      have cy0 := T2.y.c0
      have cy1 := T2.y.c1
      have cy2 := T2.y.c2
      have cr0 := T2.r.c0
      have cr1 := T2.r.c1
      have cr2 := T2.r.c2
      go_wp2_with fail
      refine (G2.out _ 8).mono ?_
      rintro e w3 ⟨rfl, hb⟩
      rw [e2]
      have T3 := T2.next hb
      clear hb T2
      clear cx0 cx1 cx2 cy0 cy1 cy2 cr0 cr1 cr2
      have cx0 := T3.x.c0
      have cx1 := T3.x.c1
      have cx2 := T3.x.c2
      have cy0 := T3.y.c0
      have cy1 := T3.y.c1
      have cy2 := T3.y.c2
      have cr0 := T3.r.c0
      have cr1 := T3.r.c1
      have cr2 := T3.r.c2
      go_wp2_with fail
      refine (G3.out _ 8).mono ?_
      rintro e w4 ⟨rfl, hb⟩
      rw [e3]
      have T4 := T3.next hb
      clear hb T3
      clear cx0 cx1 cx2 cy0 cy1 cy2 cr0 cr1 cr2
      have cx0 := T4.x.c0
      have cx1 := T4.x.c1
      have cx2 := T4.x.c2
      have cy0 := T4.y.c0
      have cy1 := T4.y.c1
      have cy2 := T4.y.c2
      have cr0 := T4.r.c0
      have cr1 := T4.r.c1
      have cr2 := T4.r.c2
      go_wp2
      go_ret
      exact ⟨rfl, T4.b⟩
    · have e2 := g1 _ _ k2
      clear g1 g2 hl k1 k2
      dsimp only [QV.v]
      go_enter Tryz.func7, Tryz.ntmps7
      go_wp2_with fail
      refine (HAl.out _).mono ?_
      rintro e w1 ⟨rfl, hb⟩
      have T1 := T0.next hb
      clear hb T0
      have cx0 := T1.x.c0
      have cx1 := T1.x.c1
      have cx2 := T1.x.c2
      have cy0 := T1.y.c0
      have cy1 := T1.y.c1
      have cy2 := T1.y.c2
      have cr0 := T1.r.c0
      have cr1 := T1.r.c1
      have cr2 := T1.r.c2
      go_wp2_with fail
      refine (G1.out _ 8).mono ?_
      rintro e w2 ⟨rfl, hb⟩
      rw [e1]
      have T2 := T1.next hb
      clear hb T1
      clear cx0 cx1 cx2 cy0 cy1 cy2 cr0 cr1 cr2
      have cx0 := T2.x.c0
      have cx1 := T2.x.c1
      have cx2 := T2.x.c2
      have cy0 := T2.y.c0
      have cy1 := T2.y.c1
      have cy2 := T2.y.c2
      have cr0 := T2.r.c0
      have cr1 := T2.r.c1
      have cr2 := T2.r.c2
      go_wp2_with fail
      refine (G2.out _ 8).mono ?_
      rintro e w3 ⟨rfl, hb⟩
      rw [e2]
      have T3 := T2.next hb
      clear hb T2
      clear cx0 cx1 cx2 cy0 cy1 cy2 cr0 cr1 cr2
      have cx0 := T3.x.c0
      have cx1 := T3.x.c1
      have cx2 := T3.x.c2
      have cy0 := T3.y.c0
      have cy1 := T3.y.c1
      have cy2 := T3.y.c2
      have cr0 := T3.r.c0
      have cr1 := T3.r.c1
      have cr2 := T3.r.c2
      go_wp2
      go_ret
      exact ⟨rfl, T3.b⟩
  · have e1 := g1 _ _ k1
    clear g1 g2 hl k1
    dsimp only [QV.v]
    go_enter Tryz.func7, Tryz.ntmps7
    go_wp2_with fail
    refine (HAl.out _).mono ?_
    rintro e w1 ⟨rfl, hb⟩
    have T1 := T0.next hb
    clear hb T0
    have cx0 := T1.x.c0
    have cx1 := T1.x.c1
    have cx2 := T1.x.c2
    have cy0 := T1.y.c0
    have cy1 := T1.y.c1
    have cy2 := T1.y.c2
    have cr0 := T1.r.c0
    have cr1 := T1.r.c1
    have cr2 := T1.r.c2
    go_wp2_with fail
    refine (G1.out _ 8).mono ?_
    rintro e w2 ⟨rfl, hb⟩
    rw [e1]
    have T2 := T1.next hb
    clear hb T1
    clear cx0 cx1 cx2 cy0 cy1 cy2 cr0 cr1 cr2
    have cx0 := T2.x.c0
    have cx1 := T2.x.c1
    have cx2 := T2.x.c2
    have cy0 := T2.y.c0
    have cy1 := T2.y.c1
    have cy2 := T2.y.c2
    have cr0 := T2.r.c0
    have cr1 := T2.r.c1
    have cr2 := T2.r.c2
    go_wp2
    go_ret
    exact ⟨rfl, T2.b⟩
theorem orderQ_any (r1 : Rd w va.A va.n a) (s1 : Rd w va.D va.m d) (r2 : Rd w vb.A vb.n a2) (s2 : Rd w vb.D vb.m d2) (r3 : Rd w vc.A vc.n a3) (s3 : Rd w vc.D vc.m d3)
    (c1 : va.n ≤ va.c ∧ va.c ≤ 9223372036854775807) (c2 : va.m ≤ va.d ∧ va.d ≤ 9223372036854775807) (c3 : vb.n ≤ vb.c ∧ vb.c ≤ 9223372036854775807) (c4 : vb.m ≤ vb.d ∧ vb.d ≤ 9223372036854775807) (c5 : vc.n ≤ vc.c ∧ vc.c ≤ 9223372036854775807) (c6 : vc.m ≤ vc.d ∧ vc.d ≤ 9223372036854775807)
    (hAl : ∀ W, Calls Tryz.prog 17 #[] W fun e w' => e = .returned (.bool true) ∧ Below W.heap.size W w') (hAdd : OpQIs (fun x y => x + y) 21) (hSub : OpQIs (fun x y => x - y) 23) (hCmp : CmpQIs 12) (hFloor : WholeQIs Rat.floor 13) (hCeil : WholeQIs Rat.ceil 14) (hOf : OfQIs 8) :
    Calls Tryz.prog 7 #[va.v, vb.v, vc.v] w fun e w' => e = .returned (.bool true) ∧ Below w.heap.size w w' := by
  by_cases h8 : (va.n ≤ 8 ∧ va.m ≤ 8) ∧ (vb.n ≤ 8 ∧ vb.m ≤ 8) ∧ vc.n ≤ 8 ∧ vc.m ≤ 8
  · have q1 : Q1 w va a d := ⟨r1, s1, by omega, by omega, c1.1, c1.2, c2.1, c2.2⟩
    have q2 : Q1 w vb a2 d2 := ⟨r2, s2, by omega, by omega, c3.1, c3.2, c4.1, c4.2⟩
    have q3 : Q1 w vc a3 d3 := ⟨r3, s3, by omega, by omega, c5.1, c5.2, c6.1, c6.2⟩
    by_cases hm : mayQ va.p a d = true ∧ mayQ vb.p a2 d2 = true ∧ mayQ vc.p a3 d3 = true
    · exact orderQ_ok va vb vc _ _ _ w (q1.num hm.1) (q2.num hm.2.1) (q3.num hm.2.2) h8.1 h8.2.1 h8.2.2 hAl hAdd hSub hCmp hFloor hCeil hOf
    · exact orderQ_bad va vb vc a d a2 d2 a3 d3 w q1 q2 q3 h8.1 h8.2.1 h8.2.2 hm hAl hAdd hCmp
  · exact orderQ_long va vb vc w h8 hAl
end
end Go.Proofs.YtbldimplddiheaaGreatDoor

/- The law RatOrder, of all fractions. -/
namespace Go.Proofs.YtbldimplddiheaaGreatDoor
open Go.RowKit Go.Shelf
set_option linter.unusedVariables false

theorem orderQ_all (va vb vc : QV) (a d a2 d2 a3 d3 : List Nat) (w : World) (r1 : Rd w va.A va.n a) (s1 : Rd w va.D va.m d) (r2 : Rd w vb.A vb.n a2) (s2 : Rd w vb.D vb.m d2) (r3 : Rd w vc.A vc.n a3) (s3 : Rd w vc.D vc.m d3) (c1 : va.n ≤ va.c ∧ va.c ≤ 9223372036854775807) (e1 : va.m ≤ va.d ∧ va.d ≤ 9223372036854775807) (c2 : vb.n ≤ vb.c ∧ vb.c ≤ 9223372036854775807) (e2 : vb.m ≤ vb.d ∧ vb.d ≤ 9223372036854775807) (c3 : vc.n ≤ vc.c ∧ vc.c ≤ 9223372036854775807) (e3 : vc.m ≤ vc.d ∧ vc.d ≤ 9223372036854775807) :
    Calls Tryz.prog 7 #[va.v, vb.v, vc.v] w fun e w' => e = .returned (.bool true) ∧ Below w.heap.size w w' :=
  orderQ_any va vb vc a d a2 d2 a3 d3 w r1 s1 r2 s2 r3 s3 c1 e1 c2 e2 c3 e3 (fun W => qalive_any qof_is qadd_is qdiv_is qtext_is W) qadd_is qsub_is qcmp_is qfloor_is qceil_is qof_is
end Go.Proofs.YtbldimplddiheaaGreatDoor
