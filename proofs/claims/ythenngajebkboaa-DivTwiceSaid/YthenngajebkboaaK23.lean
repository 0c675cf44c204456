import Derived.Lib.SliceRun
import Derived.Test.YthenngajebkboaaK22
/- Texts of one proof, one behind another: DCode. -/
/- div's calls, as they landed. -/
namespace Go.Proofs.Ythenngajebkboaa
open Go.RowKit Go.Shelf
set_option linter.unusedVariables false
set_option linter.unusedSimpArgs false

theorem wpList_copyB {P : Program} {w : World} {ops : Array Oper} {rest : List Oper} {o : Oper} {st : Act} {Q : Exit → Act → World → Prop} (hgd : o.guard = none) (s x : Operand) (t : TypeId)
    (ho : o.op = .call { callee := .builtin .append, args := #[s, x], argTypes := #[t, t] })
    (i : TypeInfo) (ht : P.underlying t = some (.slice 27)) (hi : P.info? 27 = some i) (hz : i.zero = some (.int .u64 0)) (hsize : i.size = 1) (hby : i.bytes = 8)
    (hs : st.eval s = .slice (some ⟨w.heap.size, 0, none⟩) 0 0) (A : Option Addr) (m c : Nat) (a : List Nat) (hx : st.eval x = .slice A m c) (hA : A = none → m = 0 ∧ c = 0) (hra : Rd w A m a) (hm : m ≤ 1000)
    (h : ∀ A' c' w', Own w' w.heap.size (.slice A' m c') a → Below w.heap.size w w' → wpList P ops Q rest (st.put o.dst (.slice A' m c')) w') :
    wpList P ops Q (o :: rest) st (w.alloc (.cells #[] 27)) := by
  have hown : (w.alloc (.cells #[] 27)).ownsRow w.heap.size 27 1 (.slice (some ⟨w.heap.size, 0, none⟩) 0 0) 0 [] := World.ownsRow_made w #[] 0 (Nat.le_refl _) (Nat.zero_le _) rfl
  have hal := hra.len
  have hB1 : Below w.heap.size w (w.alloc (.cells #[] 27)) := (Below.refl _ w).alloc (Nat.le_refl _) _
  cases A with
  | none =>
    obtain ⟨rfl, rfl⟩ := hA rfl
    have ha : a = [] := List.eq_nil_of_length_eq_zero hal
    subst ha
    exact wpList_append_own_none hgd s x t ho w.heap.size 27 i 1 ht hi _ 0 [] hs hown hx (h _ _ _ ⟨hown, words_nil⟩ hB1)
  | some ad =>
    refine wpList_append_own _ hgd s x t ho w.heap.size 27 i _ 1 8 ht hi hz hsize hby (by rfl) (by omega) _ _ _ hs hown ad m c (a.map u64) hx (by simp [hal]) ?_ ?_ (by simp only [maxLen]; omega) (by omega) (by simp) ?_
    · intro j u hj
      have hjl : j < a.length := by
        have := (List.getElem?_eq_some_iff.1 hj).1
        simpa using this
      obtain ⟨b0, off, e, hlt, hc⟩ := (hra.alloc (.cells #[] 27)).cells (by omega)
      cases e
      have h := hc j (by omega)
      have hu : u = u64 (lim a j) := by
        rw [List.getElem?_map, List.getElem?_eq_getElem hjl] at hj
        simp at hj
        rw [← hj, lim_get hjl]
      rw [hu, ← h]
      congr 1
      unfold Addr.add
      split
      · next h0 => subst h0; simp
      · rfl
    · intro u hu
      obtain ⟨x, _, rfl⟩ := List.mem_map.1 hu
      rfl
    · intro v1 w1 ho1 hg1 _
      have ho2 : Own w1 w.heap.size v1 a := ⟨by rw [hal]; simpa using ho1, hra.words⟩
      obtain ⟨A1, c1, rfl⟩ := own_shape ho2
      rw [hal] at ho2 ⊢
      refine h _ _ _ ho2 (hB1.grown hg1 (by simp) (fun k e => ?_))
      simp [Value.ownBlock] at e
      omega

set_option maxRecDepth 100000 in
set_option maxHeartbeats 1000000 in
theorem clone_any (A : Option Addr) (na ca : Nat) (a : List Nat) (w : World) (hra : Rd w A na a) (hna : na ≤ 1000) :
    Calls Try.prog 40 #[.slice A na ca] w fun e w' => ∃ A' k c, e = .returned (.slice A' k c) ∧ Own w' w.heap.size (.slice A' k c) a ∧ Below w.heap.size w w' := by
  obtain ⟨i0, hi0, hz0, hz1, hz2⟩ := info_parts u64_info
  have q := fun (w : World) (a : Option Addr) (n c n' c' : Nat) => Lib.run_eql_slice_nil (P := Try.prog) w 23 27 a n c n' c' Try.underlying23
  cases A with
  | none =>
    obtain rfl : na = 0 := by
      rcases Nat.eq_zero_or_pos na with h | h
      · exact h
      · obtain ⟨_, _, e, _⟩ := hra.cells h
        cases e
    have ha : a = [] := List.eq_nil_of_length_eq_zero hra.len
    subst ha
    clear hra
    go_enter Try.func40, Try.ntmps40
    go_wp2
    go_ret
    exact ⟨_, _, _, rfl, own_nil _ _, Below.refl _ _⟩
  | some ad =>
    go_enter Try.func40, Try.ntmps40
    go_wp2_with (at_builtin; go_loud (refine wpList_copyB rfl _ _ 23 rfl i0 Try.underlying23 hi0 hz0 hz1 hz2 rfl (some ad) na ca a rfl (fun h => by cases h) hra (by omega) ?_); intro Ao co w1 hown hb1)
    go_ret
    exact ⟨_, _, _, rfl, hown, hb1⟩

set_option maxRecDepth 100000 in
set_option maxHeartbeats 1000000 in
theorem byLimbs_any (A A2 : Option Addr) (na ca nb cb : Nat) (a b : List Nat) (w : World) (hra : Rd w A na a) (hrb : Rd w A2 nb b) (hna : na ≤ 1000) (hnb : nb ≤ 1000) (hma : may a = true) (hmb : may b = true) (hb : b ≠ []) :
    Calls Try.prog 25 #[.slice A na ca, .slice A2 nb cb] w fun e w' => ∃ A' k c A3 k3 c3, e = .returned (.tuple #[.slice A' k c, .slice A3 k3 c3]) ∧ Own w' w.heap.size (.slice A' k c) (limbs (val a / val b)) ∧ Own w' w.heap.size (.slice A3 k3 c3) (limbs (val a % val b)) ∧ Below w.heap.size w w' := by
  have hnb0 : nb ≠ 0 := fun h => hb (List.eq_nil_of_length_eq_zero (by rw [hrb.len]; exact h))
  by_cases hlt : na < nb
  · have hv : val a < val b := by
      obtain ⟨n1, rfl⟩ : ∃ n1, nb = n1 + 1 := ⟨nb - 1, by omega⟩
      have h1 := val_lt hra.words
      rw [hra.len] at h1
      have h2 := val_take_succ b n1
      rw [val_take_all (by rw [hrb.len]; omega)] at h2
      have h3 : lim b n1 ≠ 0 := by
        have := may_last hb
        rw [hrb.len, Nat.add_sub_cancel, hmb] at this
        simpa using this.symm
      have h4 := Nat.mul_le_mul_left (B64 ^ n1) (show 1 ≤ lim b n1 by omega)
      have h5 : B64 ^ na ≤ B64 ^ n1 := Nat.pow_le_pow_right B64_pos (by omega)
      omega
    rw [Nat.div_eq_of_lt hv, Nat.mod_eq_of_lt hv, limbs_zero, limbs_val hra.words hma]
    have hd : decide ((na : Int) < (nb : Int)) = true := by simp; omega
    have hc := clone_any A na ca a (w.alloc (.cells #[.slice none 0 0] 23)) (hra.alloc _) (by omega)
    have HC := Lib.hid hc
    clear hc hra hrb
    go_enter Try.func25, Try.ntmps25
    go_wp2_with fail
    refine HC.out.mono ?_
    rintro e w1 ⟨A', k, c, rfl, ho, hb1⟩
    have h0 := (hb1.block w.heap.size (by simp)).trans (World.alloc_heap_new w _)
    have c0 : w1.cell? ⟨w.heap.size, 0, none⟩ = some (.slice none 0 0) := cells_cell h0 rfl
    have f0 : w1.frozen? ⟨w.heap.size, 0, none⟩ = false := cells_frozen h0
    have HO := Lib.hid ho
    have H0 := Lib.hid h0
    have HB := Lib.hid hb1
    clear ho h0 hb1
    go_wp2
    have b1 : Boxed (w1.setCell ⟨w.heap.size, 0, none⟩ (.slice none 0 0)) w.heap.size 23 (.slice none 0 0) := Boxed.set _ H0.out
    have c1 := b1.cell
    refine bodyPost_ret (v := .tuple #[.slice none 0 0, .slice A' k c]) (by simp [results, Try.results25, go_sem, c1]) rfl ?_
    refine ⟨_, _, _, _, _, _, rfl, own_nil _ _, own_mono (own_far HO.out (p := ⟨w.heap.size, 0, none⟩) (by simp) _) (show w.heap.size ≤ (w.alloc (.cells #[.slice none 0 0] 23)).heap.size by simp), ?_⟩
    exact (below_new HB.out).setCell (p := ⟨w.heap.size, 0, none⟩) (Nat.le_refl _) _
  · by_cases h1 : nb = 1
    · subst h1
      obtain ⟨x, rfl⟩ := one_limb hrb.len
      have hx0 : x ≠ 0 := by simpa [may] using hmb
      have hx : x < B64 := hrb.words.head
      have hvx : val [x] = x := by simp [val]
      rw [hvx]
      have hd : decide ((na : Int) < ((1 : Nat) : Int)) = false := by simp; omega
      obtain ⟨b1, o1, rfl, hl1, hc1⟩ := (hrb.alloc (.cells #[.slice none 0 0] 23)).cells (by omega)
      have hc := hc1 0 (by omega)
      rw [show lim [x] 0 = x from rfl, Nat.add_zero] at hc
      have hw := byWord_any A na ca x a (w.alloc (.cells #[.slice none 0 0] 23)) (hra.alloc _) (by omega) hx (by omega)
      have HW := Lib.hid hw
      have hrl : val a % x < B64 := Nat.lt_trans (Nat.mod_lt _ (by omega)) hx
      obtain ⟨q, hq⟩ : ∃ q, val a / x = q := ⟨_, rfl⟩
      obtain ⟨r, hr⟩ : ∃ r, val a % x = r := ⟨_, rfl⟩
      rw [hr] at hrl
      rw [hq, hr] at hw ⊢
      have HW := Lib.hid hw
      clear hw hra hrb hc1 hq hr hmb hma hb hnb0 hnb hvx
      go_enter Try.func25, Try.ntmps25
      go_wp2_with fail
      refine HW.out.mono ?_
      rintro e w1 ⟨A', k, c, rfl, ho, hb1⟩
      go_wp2_with fail
      refine (of_any r w1 hrl).mono ?_
      rintro e w2 ⟨A3, k3, c3, rfl, ho3, hb2⟩
      have h0 := (hb2.block w.heap.size (by have := hb1.size; simp at this; omega)).trans ((hb1.block w.heap.size (by simp)).trans (World.alloc_heap_new w _))
      have c0 : w2.cell? ⟨w.heap.size, 0, none⟩ = some (.slice none 0 0) := cells_cell h0 rfl
      have f0 : w2.frozen? ⟨w.heap.size, 0, none⟩ = false := cells_frozen h0
      have HO := Lib.hid (ho.below hb2)
      have HO3 := Lib.hid ho3
      have H0 := Lib.hid h0
      have HB := Lib.hid (below_then (below_new hb1) (show Below w1.heap.size w1 w2 from hb2))
      have hs1 := hb1.size
      simp only [World.size_alloc] at hs1
      have HS1 := Lib.hid hs1
      clear ho h0 hb1 ho3 hb2 hs1
      go_wp2
      have bx : Boxed (w2.setCell ⟨w.heap.size, 0, none⟩ (.slice A' k c)) w.heap.size 23 (.slice A' k c) := Boxed.set _ H0.out
      have c1 := bx.cell
      have hs1 := HS1.out
      refine bodyPost_ret (v := .tuple #[.slice A' k c, .slice A3 k3 c3]) (by simp [results, Try.results25, go_sem, c1]) rfl ?_
      refine ⟨_, _, _, _, _, _, rfl, own_mono (own_far HO.out (p := ⟨w.heap.size, 0, none⟩) (by simp) _) (show w.heap.size ≤ (w.alloc (.cells #[.slice none 0 0] 23)).heap.size by simp), own_mono (own_far HO3.out (p := ⟨w.heap.size, 0, none⟩) (by show w.heap.size < w1.heap.size; omega) _) (by omega), ?_⟩
      exact HB.out.setCell (p := ⟨w.heap.size, 0, none⟩) (Nat.le_refl _) _
    · exact limbs_main A A2 na ca nb cb a b w hra hrb (by omega) (by omega) (by omega) hma hmb
theorem bitByBit_any (A A2 : Option Addr) (na ca nb cb : Nat) (a b : List Nat) (w : World) (hra : Rd w A na a) (hrb : Rd w A2 nb b) (hna : na ≤ 1000) (hnb : nb ≤ 1000) (hma : may a = true) (hmb : may b = true) (hb : b ≠ []) :
    Calls Try.prog 28 #[.slice A na ca, .slice A2 nb cb] w fun e w' => ∃ A' k c A3 k3 c3, e = .returned (.tuple #[.slice A' k c, .slice A3 k3 c3]) ∧ Own w' w.heap.size (.slice A' k c) (limbs (val a / val b)) ∧ Own w' w.heap.size (.slice A3 k3 c3) (limbs (val a % val b)) ∧ Below w.heap.size w w' :=
  bits_main A A2 na ca nb cb a b w hra hrb (by omega) (by omega) (val_pos hmb hb)

/-- A way of making a quotient of two numbers that may be. -/
def WayIs (F : Nat) : Prop := ∀ (A A2 : Option Addr) (na ca nb cb : Nat) (a b : List Nat) (w : World), Rd w A na a → Rd w A2 nb b → na ≤ 1000 → nb ≤ 1000 → may a = true → may b = true → b ≠ [] →
    Calls Try.prog F #[.slice A na ca, .slice A2 nb cb] w fun e w' => ∃ A' k c A3 k3 c3, e = .returned (.tuple #[.slice A' k c, .slice A3 k3 c3]) ∧ Own w' w.heap.size (.slice A' k c) (limbs (val a / val b)) ∧ Own w' w.heap.size (.slice A3 k3 c3) (limbs (val a % val b)) ∧ Below w.heap.size w w'

theorem bad_one {a : List Nat} (h : may a = true) : bad [a] = 0 := by unfold bad; rw [if_pos (by simp [h])]
theorem bad_one' {a : List Nat} (h : may a = false) : bad [a] = 8 := by unfold bad; rw [if_neg (by simp [h])]

set_option maxRecDepth 100000 in
set_option maxHeartbeats 2000000 in
/-- div.divided, over a way. -/
theorem divided_any (F : Nat) (hF : WayIs F) (hE : ∀ args w, (callFunc F args).run Try.prog w = .ok (.enter F args) w) (A A2 : Option Addr) (na ca nb cb : Nat) (a b : List Nat) (w : World) (hra : Rd w A na a) (hrb : Rd w A2 nb b) (hna : na ≤ 1000) (hnb : nb ≤ 1000) :
    Calls Try.prog 24 #[.slice A na ca, .slice A2 nb cb, .func (.func F) #[] #[]] w (Answers2 w (quoL a b) (remL a b) (divE a b)) := by
  have hlb := hrb.len
  cases hma : may a with
  | false =>
    have hE8 : divE a b = 8 := by unfold divE; rw [if_neg (by simp [both, hma])]
    rw [quoL_no (by rw [hE8]; omega), remL_no (by rw [hE8]; omega), hE8]
    have HA := Lib.hid (bad_one' hma)
    clear hma hE8
    go_enter Try.func24, Try.ntmps24
    go_wp2_with fail
    refine (check_any A na ca a w hra (by omega)).mono ?_
    rw [HA.out]
    rintro e w1 ⟨rfl, hb1⟩
    go_wp2
    go_ret3
    exact answers2_nil hb1
  | true =>
    cases hmb : may b with
    | false =>
      have hE8 : divE a b = 8 := by unfold divE; rw [if_neg (by simp [both, hmb])]
      rw [quoL_no (by rw [hE8]; omega), remL_no (by rw [hE8]; omega), hE8]
      have HA := Lib.hid (bad_one hma)
      have HB := Lib.hid (bad_one' hmb)
      clear hma hmb hE8
      go_enter Try.func24, Try.ntmps24
      go_wp2_with fail
      refine (check_any A na ca a w hra (by omega)).mono ?_
      rw [HA.out]
      rintro e w1 ⟨rfl, hb1⟩
      go_wp2_with fail
      refine (check_any A2 nb cb b w1 (hrb.below hb1) (by omega)).mono ?_
      rw [HB.out]
      rintro e w2 ⟨rfl, hb2⟩
      have hb3 := below_then hb1 hb2
      go_wp2
      go_ret3
      exact answers2_nil hb3
    | true =>
      have HA := Lib.hid (bad_one hma)
      have HB := Lib.hid (bad_one hmb)
      by_cases hb : b = []
      · have hE3 : divE a b = 30 := by rw [hb]; exact divE_zero hma
        rw [quoL_no (by rw [hE3]; omega), remL_no (by rw [hE3]; omega), hE3]
        obtain rfl : nb = 0 := by rw [hb] at hlb; simpa using hlb.symm
        clear hma hmb hE3 hb hlb
        go_enter Try.func24, Try.ntmps24
        go_wp2_with fail
        refine (check_any A na ca a w hra (by omega)).mono ?_
        rw [HA.out]
        rintro e w1 ⟨rfl, hb1⟩
        go_wp2_with fail
        refine (check_any A2 0 cb b w1 (hrb.below hb1) (by omega)).mono ?_
        rw [HB.out]
        rintro e w2 ⟨rfl, hb2⟩
        have hb3 := below_then hb1 hb2
        go_wp2
        go_ret3
        exact answers2_nil hb3
      · have hE0 := divE_ok hma hmb hb
        rw [quoL_ok hE0, remL_ok hE0, hE0]
        have hn0 : ((nb : Int) == 0) = false := by
          have : nb ≠ 0 := fun h => hb (List.eq_nil_of_length_eq_zero (by omega))
          simp; omega
        have HMA := Lib.hid hma
        have HMB := Lib.hid hmb
        have HNB := Lib.hid hb
        clear hma hmb hE0 hb hlb
        go_enter Try.func24, Try.ntmps24
        go_wp2_with fail
        refine (check_any A na ca a w hra (by omega)).mono ?_
        rw [HA.out]
        rintro e w1 ⟨rfl, hb1⟩
        go_wp2_with fail
        refine (check_any A2 nb cb b w1 (hrb.below hb1) (by omega)).mono ?_
        rw [HB.out]
        rintro e w2 ⟨rfl, hb2⟩
        have hb3 := below_then hb1 hb2
        go_wp2_with fail
        refine (hF A A2 na ca nb cb a b w2 (hra.below hb3) (hrb.below hb3) hna hnb HMA.out HMB.out HNB.out).mono ?_
        rintro e w3 ⟨A3, k3, c3, A4, k4, c4, rfl, o3, o4, hb4⟩
        have hb5 := below_then hb3 hb4
        have s3 := hb3.size
        have o3' := own_mono o3 s3
        have o4' := own_mono o4 s3
        clear o3 o4
        go_wp2
        go_ret3
        exact ⟨_, _, _, _, _, _, rfl, o3', o4', hb5⟩

set_option maxRecDepth 100000 in
set_option maxHeartbeats 1000000 in
theorem div_is : DivIs 13 := fun A A2 na ca nb cb a b w hra hrb hna hnb _ _ => by
  have h := divided_any 25 byLimbs_any (enters_of Try.func25 (by kernel_rfl) rfl) A A2 na ca nb cb a b w hra hrb hna hnb
  have H := Lib.hid h
  clear h hra hrb
  go_enter Try.func13, Try.ntmps13
  go_wp2_with fail
  refine H.out.mono ?_
  rintro e w1 ⟨A3, k3, c3, A4, k4, c4, rfl, o3, o4, hb1⟩
  go_wp2
  go_ret3
  exact ⟨_, _, _, _, _, _, rfl, o3, o4, hb1⟩
set_option maxRecDepth 100000 in
set_option maxHeartbeats 1000000 in
theorem long_is : DivIs 15 := fun A A2 na ca nb cb a b w hra hrb hna hnb _ _ => by
  have h := divided_any 28 bitByBit_any (enters_of Try.func28 (by kernel_rfl) rfl) A A2 na ca nb cb a b w hra hrb hna hnb
  have H := Lib.hid h
  clear h hra hrb
  go_enter Try.func15, Try.ntmps15
  go_wp2_with fail
  refine H.out.mono ?_
  rintro e w1 ⟨A3, k3, c3, A4, k4, c4, rfl, o3, o4, hb1⟩
  go_wp2
  go_ret3
  exact ⟨_, _, _, _, _, _, rfl, o3, o4, hb1⟩
set_option maxRecDepth 100000 in
set_option maxHeartbeats 2000000 in
theorem exact_is : ExactIs 8 := fun A A2 na ca nb cb a b w hra hrb hna hnb hca hcb => by
  have HD := Lib.hid (div_is A A2 na ca nb cb a b w hra hrb hna hnb hca hcb)
  clear hra hrb
  by_cases he : divE a b = 0
  · by_cases hz : val a % val b = 0
    · have e2 : exactE a b = 0 := by simp [exactE, he, hz]
      have e3 : exactL a b = quoL a b := by simp [exactL, e2, quoL_ok he]
      have e4 : (remL a b).length = 0 := by rw [remL_ok he, hz, limbs_zero]; rfl
      rw [e2, e3]
      have HE := Lib.hid he
      have H4 := Lib.hid e4
      clear he hz e2 e3 e4
      go_enter Try.func8, Try.ntmps8
      go_wp2_with fail
      refine HD.out.mono ?_
      rw [HE.out]
      rintro e w1 ⟨A3, k3, c3, A4, k4, c4, rfl, o3, o4, hb1⟩
      obtain rfl : k4 = 0 := by have h1 := o4.rd.2.1; have h2 := H4.out; omega
      clear o4
      go_wp2
      go_ret2
      exact ⟨_, _, _, rfl, o3, hb1⟩
    · have e2 : exactE a b = 6 := by simp [exactE, he, hz]
      have e3 : exactL a b = [] := by simp [exactL, e2]
      have e4 : 0 < (remL a b).length := by
        rw [remL_ok he]
        exact Nat.pos_of_ne_zero (fun h => hz (limbs_eq_nil.1 (List.eq_nil_of_length_eq_zero h)))
      rw [e2, e3]
      have HE := Lib.hid he
      have H4 := Lib.hid e4
      clear he hz e2 e3 e4
      go_enter Try.func8, Try.ntmps8
      go_wp2_with fail
      refine HD.out.mono ?_
      rw [HE.out]
      rintro e w1 ⟨A3, k3, c3, A4, k4, c4, rfl, o3, o4, hb1⟩
      have hk4 : (0 : Int) < (k4 : Int) := by have h1 := o4.rd.2.1; have h2 := H4.out; omega
      clear o4 o3
      go_wp2
      go_ret2
      exact answers_nil hb1
  · have e2 : exactE a b = divE a b := by simp [exactE, he]
    have e3 : exactL a b = [] := by simp [exactL, e2, he]
    have hne : (divE a b != 0) = true := by simpa using he
    rw [e2, e3]
    clear e2 e3 he
    generalize divE a b = E at *
    go_enter Try.func8, Try.ntmps8
    go_wp2_with fail
    refine HD.out.mono ?_
    rintro e w1 ⟨A3, k3, c3, A4, k4, c4, rfl, o3, o4, hb1⟩
    clear o4 o3
    go_wp2
    go_ret2
    exact answers_nil hb1
set_option maxRecDepth 100000 in
set_option maxHeartbeats 2000000 in
theorem word_is : WordIs 9 := fun A na ca a x w hra hx hna hca => by
  cases hma : may a with
  | false =>
    have hE8 : divE a (limbs x) = 8 := by unfold divE; rw [if_neg (by simp [both, hma])]
    rw [quoL_no (by rw [hE8]; omega), remL_no (by rw [hE8]; omega), hE8, val_nil]
    have HA := Lib.hid (bad_one' hma)
    clear hma hE8
    go_enter Try.func9, Try.ntmps9
    go_wp2_with fail
    refine (check_any A na ca a w hra (by omega)).mono ?_
    rw [HA.out]
    rintro e w1 ⟨rfl, hb1⟩
    go_wp2
    go_ret3
    exact ⟨_, _, _, rfl, own_nil _ _, hb1⟩
  | true =>
    have HA := Lib.hid (bad_one hma)
    by_cases h0 : x = 0
    · subst h0
      rw [limbs_zero]
      have hE3 : divE a [] = 30 := divE_zero hma
      rw [quoL_no (by rw [hE3]; omega), remL_no (by rw [hE3]; omega), hE3, val_nil]
      clear hma hE3
      go_enter Try.func9, Try.ntmps9
      go_wp2_with fail
      refine (check_any A na ca a w hra (by omega)).mono ?_
      rw [HA.out]
      rintro e w1 ⟨rfl, hb1⟩
      go_wp2
      go_ret3
      exact ⟨_, _, _, rfl, own_nil _ _, hb1⟩
    · have hne : limbs x ≠ [] := fun h => h0 (limbs_eq_nil.1 h)
      have hE0 := divE_ok hma (may_limbs x) hne
      rw [quoL_ok hE0, remL_ok hE0, hE0, val_limbs, val_limbs]
      have hx0 : ((x : Int) == 0) = false := by simp; omega
      clear hma hE0 hne
      go_enter Try.func9, Try.ntmps9
      go_wp2_with fail
      refine (check_any A na ca a w hra (by omega)).mono ?_
      rw [HA.out]
      rintro e w1 ⟨rfl, hb1⟩
      go_wp2_with fail
      refine (byWord_any A na ca x a w1 (hra.below hb1) (by omega) hx (by omega)).mono ?_
      rintro e w2 ⟨A', k, c, rfl, ho, hb2⟩
      have hb3 := below_then hb1 hb2
      have ho' := own_mono ho hb1.size
      clear ho
      go_wp2
      go_ret3
      exact ⟨_, _, _, rfl, ho', hb3⟩
end Go.Proofs.Ythenngajebkboaa
