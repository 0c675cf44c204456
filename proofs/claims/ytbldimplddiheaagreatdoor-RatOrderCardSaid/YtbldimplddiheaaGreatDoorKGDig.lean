import Derived.Test.YtbldimplddiheaaGreatDoorKDigits
import Derived.Test.YtbldimplddiheaaGreatDoorKNm
import Derived.Laws.IdiomStrings
import Derived.Test.YtbldimplddiheaaGreatDoorKGLow
import Derived.Test.YtbldimplddiheaaGreatDoorKRefText
import Derived.Test.YtbldimplddiheaaGreatDoorKGTexts
/- Bytes GDig. -/
/- Rows of bytes; the lowest digits of a number. -/
namespace Go.Proofs.YtbldimplddiheaaGreatDoor
open Go.RowKit Go.Shelf
set_option linter.unusedVariables false
set_option linter.unusedSimpArgs false

abbrev by8 (c : UInt8) : Value := .int .u8 (c.toNat : Int)
theorem u8_info : (Tryz.prog.info? 5).map (fun i => (i.zero, i.size, i.bytes)) = some (some (.int .u8 0), 1, 1) := by kernel_rfl
/-- A slice of bytes of the call's own. -/
def OwnY (w : World) (B : Nat) (v : Value) (l : List UInt8) : Prop := w.ownsRow B 5 1 v l.length (l.map by8)
theorem OwnY.below {w w' : World} {B : Nat} {v : Value} {l : List UInt8} (h : OwnY w B v l) (hb : Below w.heap.size w w') : OwnY w' B v l := by
  refine ⟨h.1, ?_⟩
  rcases h.2 with h2 | ⟨g, cap, cur, e, hg, hh, r⟩
  · exact .inl h2
  · exact .inr ⟨g, cap, cur, e, hg, (hb.block g (Array.getElem?_eq_some_iff.1 hh).1).trans hh, r⟩
theorem owny_block {w : World} {B : Nat} {v : Value} {l : List UInt8} (h : OwnY w B v l) : ∀ k, v.ownBlock = some k → B ≤ k := fun k e => (h.lt k e).1
theorem owny_nil (w : World) (B : Nat) : OwnY w B (.slice none 0 0) [] := ⟨rfl, .inl ⟨rfl, rfl⟩⟩
theorem OwnY.form {w : World} {B : Nat} {v : Value} {l : List UInt8} (h : OwnY w B v l) (hl : l ≠ []) : ∃ g c, v = .slice (some ⟨g, 0, none⟩) l.length c ∧ B ≤ g ∧ g < w.heap.size ∧ l.length ≤ c ∧ c ≤ maxLen ∧ (∀ i (hi : i < l.length), w.cell? ⟨g, i, none⟩ = some (by8 l[i]) ∧ w.frozen? ⟨g, i, none⟩ = false) := by
  rcases h.2 with ⟨e, h0⟩ | ⟨g, cap, cur, e, hg, hh, hn, hc, hs, ht⟩
  · exact absurd (List.eq_nil_of_length_eq_zero h0) hl
  · refine ⟨g, cap, e, hg, (Array.getElem?_eq_some_iff.1 hh).1, hn, hc, fun i hi => ⟨?_, by simp [World.frozen?, hh]⟩⟩
    have hci := h.cells (g := g) (by rw [e]; rfl) i (by8 l[i]) (by rw [List.getElem?_map, List.getElem?_eq_getElem hi]; rfl)
    by_cases h0 : i = 0
    · subst h0; simpa [Addr.add] using hci
    · simpa [Addr.add, h0] using hci
theorem OwnY.set {w : World} {B g n c : Nat} {l : List UInt8} (h : OwnY w B (.slice (some ⟨g, 0, none⟩) n c) l) (hn : n = l.length) {i : Nat} (hi : i < l.length) (x : UInt8) : OwnY (w.setCell ⟨g, i, none⟩ (by8 x)) B (.slice (some ⟨g, 0, none⟩) n c) (l.set i x) := by
  subst hn
  rcases h.2 with ⟨e, _⟩ | ⟨g2, cap, cur, e, hg, hh, hn, hc, hs, ht⟩
  · cases e
  · cases e
    refine ⟨by simp, .inr ⟨g, c, cur.set! i (by8 x), by rw [List.length_set], hg, ?_, by rw [List.length_set]; exact hn, hc, by simpa using hs, ?_⟩⟩
    · simp [World.setCell, Array.getElem?_modify, hh]
    · rw [List.length_set, Nat.mul_one] at *
      rw [List.map_set, ← ht]
      simp [List.take_set, Array.set!]
/-- Limbs and bytes lie apart. -/
theorem own_apart {w : World} {B B2 : Nat} {v m : Value} {l : List Nat} {y : List UInt8} (h : Own w B v l) (hy : OwnY w B2 m y) : v.ownBlock = none ∨ v.ownBlock ≠ m.ownBlock := by
  rcases h.1.2 with ⟨e, _⟩ | ⟨g, cap, cur, e, hg, hh, _⟩
  · exact .inl (by rw [e]; rfl)
  · rcases hy.2 with ⟨e2, _⟩ | ⟨g2, cap2, cur2, e2, hg2, hh2, _⟩
    · exact .inr (by rw [e, e2]; simp [Value.ownBlock])
    · refine .inr (fun hc => ?_)
      rw [e, e2] at hc
      have hgg : g = g2 := by simpa [Value.ownBlock] using hc
      rw [hgg, hh2] at hh
      simp at hh
theorem own_grown {w w' : World} {B B2 : Nat} {v m : Value} {l : List Nat} {y : List UInt8} (h : Own w B v l) (hy : OwnY w B2 m y) (hg : w.grownBy w' m.ownBlock) : Own w' B v l := ⟨h.1.kept hg (own_apart h hy), h.2⟩
theorem u8_wrap {d : Nat} (h : d < 10) : IntKind.u8.wrap (48 + IntKind.u8.wrap (d : Int)) = ((dig d).toNat : Int) := by
  rw [dig_nat h, IntKind.wrap_u8, IntKind.wrap_u8]
  omega

/-- n digits to ten, the lowest first. -/
def lowD : Nat → Nat → List Nat
  | 0, _ => []
  | n + 1, v => v % 10 :: lowD n (v / 10)
theorem lowD_len (n v : Nat) : (lowD n v).length = n := by
  induction n generalizing v with
  | zero => rfl
  | succ n ih => simp [lowD, ih]
theorem lowD_snoc (n v : Nat) : lowD (n + 1) v = lowD n v ++ [v / 10 ^ n % 10] := by
  induction n generalizing v with
  | zero => simp [lowD]
  | succ n ih =>
    show v % 10 :: lowD (n + 1) (v / 10) = (v % 10 :: lowD n (v / 10)) ++ [v / 10 ^ (n + 1) % 10]
    rw [ih, Nat.div_div_eq_div_mul, Nat.pow_succ, Nat.mul_comm 10]
    rfl
/-- .. as bytes. -/
def lowB (n v : Nat) : List UInt8 := (lowD n v).map dig
theorem lowB_len (n v : Nat) : (lowB n v).length = n := by rw [lowB, List.length_map, lowD_len]
theorem lowB_snoc (n v : Nat) : lowB (n + 1) v = lowB n v ++ [dig (v / 10 ^ n % 10)] := by rw [lowB, lowB, lowD_snoc, List.map_append]; rfl
theorem lowB_zero (v : Nat) : lowB 0 v = [] := rfl
theorem ten_pad {n v : Nat} (h : v < 10 ^ n) : (lowB n v).reverse = List.replicate (n - (tenL v).length) 48 ++ tenL v := by
  induction n generalizing v with
  | zero =>
    have : v = 0 := by simp at h; omega
    subst this
    simp [lowB, lowD, tenL_zero]
  | succ n ih =>
    have hv : v / 10 < 10 ^ n := by rw [Nat.pow_succ] at h; omega
    have e : (lowB (n + 1) v).reverse = (lowB n (v / 10)).reverse ++ [dig (v % 10)] := by simp [lowB, lowD]
    rw [e, ih hv]
    by_cases h0 : v = 0
    · subst h0
      simp only [Nat.zero_div, Nat.zero_mod, tenL_zero, List.length_nil, Nat.sub_zero, List.append_nil]
      rw [List.replicate_succ']
      rfl
    · rw [tenL_pos h0, List.length_append, List.length_singleton, Nat.add_sub_add_right, List.append_assoc]
theorem drop_pad {k : Nat} {l : List UInt8} (h : l.head? ≠ some 48) : (List.replicate k 48 ++ l).dropWhile (· == 48) = l := by
  induction k with
  | zero =>
    rw [List.replicate_zero, List.nil_append]
    cases l with
    | nil => rfl
    | cons x r =>
      have : x ≠ 48 := by simpa using h
      rw [List.dropWhile_cons, if_neg (by simpa using this)]
  | succ k ih => rw [List.replicate_succ, List.cons_append, List.dropWhile_cons, if_pos (by simp), ih]
theorem trim_low {n v : Nat} (h : v < 10 ^ n) (h0 : v ≠ 0) : ((lowB n v).reverse).dropWhile (· == 48) = tenL v := by rw [ten_pad h, drop_pad (head_ten h0)]
theorem low_digit {x j : Nat} (hj : j < 19) : x % 10 ^ 19 / 10 ^ j % 10 = x / 10 ^ j % 10 := by
  have e : 10 ^ 19 = 10 ^ j * 10 ^ (19 - j) := by rw [← Nat.pow_add]; congr 1; omega
  have e2 : 10 ^ (19 - j) = 10 * 10 ^ (18 - j) := by rw [← Nat.pow_succ']; congr 1; omega
  rw [e, Nat.mod_mul_right_div_self, e2, Nat.mod_mul_right_mod]
end Go.Proofs.YtbldimplddiheaaGreatDoor

/- gcd's digits and Text, as they landed. -/
namespace Go.Proofs.YtbldimplddiheaaGreatDoor
open Go.RowKit Go.Shelf
set_option linter.unusedVariables false
set_option linter.unusedSimpArgs false

section
variable (w : World)
set_option maxRecDepth 100000 in
set_option maxHeartbeats 1000000 in
/-- strings.trimLeftByte. -/
theorem trimB_any (s : ByteArray) (c : UInt8) (hs : s.size ≤ 9223372036854775807) :
    Calls Tryz.prog 147 #[.string s, .int .u8 (c.toNat : Int)] w fun e w' => e = .returned (.string ⟨(s.data.toList.dropWhile (· == c)).toArray⟩) ∧ w' = w := by
  go_enter Tryz.func147, Tryz.ntmps147
  go_wp2
  go_loop [0] (fun v => ∃ t : ByteArray, v = .string t ∧ t.size ≤ 9223372036854775807 ∧ t.data.toList.dropWhile (· == c) = s.data.toList.dropWhile (· == c)) (fun v => match v with | .string t => t.size | _ => 0)
  case atStart => exact ⟨s, rfl, hs, rfl⟩
  case round =>
    obtain ⟨t, rfl, ht, hd⟩ := hrel
    by_cases h0 : t.size = 0
    · have he : t.data.toList = [] := List.eq_nil_of_length_eq_zero (by rw [size_list]; exact h0)
      rw [he, List.dropWhile_nil] at hd
      have ht0 : t = ⟨#[]⟩ := by
        apply ByteArray.ext
        apply Array.toList_inj.1
        rw [he]
      subst ht0
      have HD := Lib.hid hd
      clear hd he h0 ht
      go_wp2
      go_ret
      exact ⟨by rw [← HD.out]; rfl, rfl⟩
    · have hp : 0 < t.size := Nat.pos_of_ne_zero h0
      have hpi : (0 : Int) < (t.size : Int) := by omega
      obtain ⟨x, r, e⟩ := List.exists_cons_of_ne_nil (fun h : t.data.toList = [] => h0 (by rw [← size_list, h]; rfl))
      have hx : t[0] = x := by
        have h1 : t.data.toList[0]'(by rw [size_list]; exact hp) = x := by simp [e]
        rw [← h1]; rfl
      rw [e, List.dropWhile_cons] at hd
      have hxn : (t[0].toNat : Int) = (x.toNat : Int) := by rw [hx]
      by_cases hc : x = c
      · subst hc
        rw [if_pos (by simp)] at hd
        have hext : (t.extract 1 t.size).data.toList = r := by
          rw [Lib.extract_data, e]
          simp
          rw [← size_list, e]
          simp
        have HX := Lib.hid hext
        have HD := Lib.hid hd
        clear hd e hs h0
        go_wp2
        refine ⟨⟨_, rfl, by rw [ByteArray.size_extract]; omega, by rw [HX.out]; exact HD.out⟩, ?_⟩
        show (t.extract 1 t.size).size < t.size
        rw [ByteArray.size_extract]
        omega
      · rw [if_neg (by simpa using hc), ← e] at hd
        have hne : ((x.toNat : Int) == (c.toNat : Int)) = false := by
          simp only [beq_eq_false_iff_ne, ne_eq]
          intro h
          exact hc (UInt8.toNat_inj.1 (by omega))
        have hne2 : ¬ x = c := hc
        have hne3 : ¬ x.toNat = c.toNat := fun h => hc (UInt8.toNat_inj.1 h)
        have HD := Lib.hid hd
        clear hd e hs h0
        go_wp2
        go_ret
        exact ⟨by rw [← HD.out]; simp, rfl⟩
set_option maxRecDepth 100000 in
set_option maxHeartbeats 1000000 in
/-- strings.TrimLeft(s, "0"). -/
theorem trimL_any (s : ByteArray) (hs : s.size ≤ 9223372036854775807) (h0 : 0 < s.size) :
    Calls Tryz.prog 130 #[.string s, .string ⟨#[48]⟩] w fun e w' => e = .returned (.string ⟨(s.data.toList.dropWhile (· == 48)).toArray⟩) ∧ w' = w := by
  have h1 : s.toList ≠ [] := by
    rw [Lib.toList_data]
    intro h
    have := size_list s
    rw [h] at this
    simp at this
    omega
  have h2 : s.toList.isEmpty = false := List.isEmpty_eq_false_iff.2 h1
  have HT := Lib.hid (trimB_any w s 48 hs)
  go_enter Tryz.func130, Tryz.ntmps130
  go_wp2_with fail
  refine HT.out.mono ?_
  rintro e w1 ⟨rfl, rfl⟩
  go_wp2
  go_ret
  exact ⟨rfl, rfl⟩

/-- The list behind i exchanges. -/
def Swapped (l lk : List UInt8) (i : Nat) : Prop := lk.length = l.length ∧ ∀ t, t < l.length → lk[t]? = if t < i ∨ l.length ≤ t + i then l[l.length - 1 - t]? else l[t]?
theorem Swapped.next {l lk : List UInt8} {i j : Nat} (h : Swapped l lk i) (hij : i < j) (hj : i + j + 1 = l.length) (hi : i < lk.length) (hjl : j < lk.length) : Swapped l ((lk.set i lk[j]).set j lk[i]) (i + 1) := by
  refine ⟨by simp [h.1], fun t ht => ?_⟩
  have hi1 := h.2 i (by omega)
  have hj1 := h.2 j (by omega)
  rw [if_neg (by omega), List.getElem?_eq_getElem hi] at hi1
  rw [if_neg (by omega), List.getElem?_eq_getElem hjl] at hj1
  have e1 : l.length - 1 - i = j := by omega
  have e2 : l.length - 1 - j = i := by omega
  rw [List.getElem?_set]
  by_cases h1 : j = t
  · subst h1
    rw [if_pos rfl, if_pos (by rw [List.length_set]; exact hjl), if_pos (by omega), e2, hi1]
  · rw [if_neg h1, List.getElem?_set]
    by_cases h2 : i = t
    · subst h2
      rw [if_pos rfl, if_pos hi, if_pos (by omega), e1, hj1]
    · rw [if_neg h2, h.2 t ht]
      by_cases h3 : t < i ∨ l.length ≤ t + i
      · rw [if_pos h3, if_pos (by omega)]
      · rw [if_neg h3, if_neg (by omega)]
theorem Swapped.done {l lk : List UInt8} {i : Nat} (h : Swapped l lk i) (hn : l.length ≤ 2 * i + 1) : lk = l.reverse := by
  apply List.ext_getElem?
  intro t
  by_cases ht : t < l.length
  · rw [List.getElem?_reverse ht, h.2 t ht]
    split
    · rfl
    · congr 1; omega
  · rw [List.getElem?_eq_none (by rw [h.1]; omega), List.getElem?_eq_none (by rw [List.length_reverse]; omega)]

set_option maxRecDepth 100000 in
set_option maxHeartbeats 2000000 in
/-- slices.Reverse of bytes of the call's own. -/
theorem rev_any (B n c : Nat) (A : Option Addr) (l : List UInt8) (ho : OwnY w B (.slice A n c) l) (hl : l ≠ []) (hn : n = l.length) (hmax : n ≤ 100000) (hBw : B ≤ w.heap.size) :
    Calls Tryz.prog 129 #[.slice A n c] w fun e w' => e = .returned (.tuple #[]) ∧ OwnY w' B (.slice A n c) l.reverse ∧ Below B w w' := by
  obtain ⟨g, _, he, hg, hgl, hc1, hc2, _⟩ := ho.form hl
  cases he
  have hlp : 0 < l.length := List.length_pos_iff.2 hl
  go_enter Tryz.func129, Tryz.ntmps129
  go_wp2
  go_loopw [2, 3] (fun s2 s3 wr => ∃ (i : Nat) (J : Int) (lk : List UInt8), s2 = .int .i64 (i : Int) ∧ s3 = .int .i64 J ∧ J = (l.length : Int) - 1 - i ∧ 2 * i ≤ l.length ∧ Swapped l lk i ∧ OwnY wr B (.slice (some ⟨g, 0, none⟩) l.length c) lk ∧ Below B w wr) (fun s2 _ _ => l.length - (intOf s2).toNat)
  case atStart =>
    refine ⟨0, _, l, rfl, rfl, ?_, by omega, ⟨rfl, fun t ht => by rw [if_neg (by omega)]⟩, ho, Below.refl _ _⟩
    omega
  case round =>
    obtain ⟨i, J, lk, rfl, rfl, hJ, h2i, hsw, hown, hB⟩ := hrel
    have hlen := hsw.1
    by_cases hlt : 2 * i + 1 < l.length
    · obtain ⟨j, hj⟩ : ∃ j : Nat, j = l.length - 1 - i := ⟨_, rfl⟩
      obtain rfl : J = (j : Int) := by omega
      obtain ⟨g2, c3, he2, hg2, hgl2, _, _, hcf⟩ := hown.form (fun h => by rw [h] at hlen; simp at hlen; omega)
      rw [hlen] at he2
      cases he2
      obtain ⟨ci, fi⟩ := hcf i (by omega)
      obtain ⟨cj, fj⟩ := hcf j (by omega)
      have hij : (i : Int) < (j : Int) := by omega
      have hil : (i : Int) < (l.length : Int) := by omega
      have hjl : (j : Int) < (l.length : Int) := by omega
      have hne : ¬ i = j := by omega
      have hsw2 := hsw.next (i := i) (j := j) (by omega) (by omega) (by omega) (by omega)
      have hset := (hown.set hlen.symm (i := i) (by omega) (lk[j]'(by omega))).set (i := j) (by rw [List.length_set]; exact hlen.symm) (by rw [List.length_set]; omega) (lk[i]'(by omega))
      obtain ⟨x, hx⟩ : ∃ x, lk[i]'(by omega) = x := ⟨_, rfl⟩
      obtain ⟨y, hy⟩ : ∃ y, lk[j]'(by omega) = y := ⟨_, rfl⟩
      rw [hx] at ci hsw2 hset
      rw [hy] at cj hsw2 hset
      have HS := Lib.hid hsw2
      have HT := Lib.hid hset
      have HJ := Lib.hid hj
      have HI := Lib.hid hlt
      have hij2 : i < j := by omega
      have hil2 : i < l.length := by omega
      have hjl2 : j < l.length := by omega
      clear hsw hown hcf hsw2 hset hx hy hJ h2i hlt ho hl hj hlen
      go_wp2_with fail
      go_region
      go_wp2
      go_roundw
      case rel =>
        refine ⟨i + 1, _, _, by go_num, rfl, by have := HJ.out; omega, by have := HI.out; omega, HS.out, HT.out.below (Below.refl _ _).drew, ?_⟩
        exact ((hB.setCell (p := ⟨g, i, none⟩) hg _).setCell (p := ⟨g, j, none⟩) hg _).drew
      case measure =>
        have := HI.out
        simp [intOf]
        omega
    · have hfin := hsw.done (by omega)
      subst hfin
      clear hsw
      go_wp2
      go_end0
      exact ⟨rfl, hown, hB⟩

theorem chunk_lt : 10000000000000000000 < B64 := by rw [B64_eq]; omega
theorem wordZ (A : Option Addr) (na ca v x : Nat) (z : Int) (w : World) (hz : z = (x : Int)) (h : Nm w A na ca v) (hx : x < B64) (hx0 : x ≠ 0) (hna : na ≤ 1000) :
    Calls Tryz.prog 113 #[.slice A na ca, .int .u64 z] w fun e w' => ∃ A' k c, e = .returned (.tuple #[.slice A' k c, .int .u64 ((v % x : Nat) : Int), .int .i64 0]) ∧ Own w' w.heap.size (.slice A' k c) (limbs (v / x)) ∧ Below w.heap.size w w' := by
  subst hz
  have hw := word_is A na ca (limbs v) x w h.rd hx hna ⟨h.nc, h.cm⟩
  have hE : divE (limbs v) (limbs x) = 0 := divE_ok (may_limbs v) (may_limbs x) (fun h => hx0 (limbs_eq_nil.1 h))
  rw [quoL_ok hE, remL_ok hE, hE, val_limbs, val_limbs, val_limbs] at hw
  exact hw
theorem digits_bound {v k na : Nat} (hv : v < B64 ^ na) (hna : na ≤ 217) (h : v / 10 ^ (19 * k) ≠ 0) : k ≤ 243 := by
  have h1 : 10 ^ (19 * k) ≤ v := by
    rcases Nat.lt_or_ge v (10 ^ (19 * k)) with h2 | h2
    · exact absurd (Nat.div_eq_of_lt h2) h
    · exact h2
  have h2 : 8 ^ (19 * k) ≤ 10 ^ (19 * k) := Nat.pow_le_pow_left (by omega) _
  have h3 : (8 : Nat) ^ (19 * k) = 2 ^ (3 * (19 * k)) := by rw [show (8 : Nat) = 2 ^ 3 from rfl, ← Nat.pow_mul]
  rw [B64_pow] at hv
  have h4 : 2 ^ (3 * (19 * k)) < 2 ^ (64 * na) := by omega
  have h5 := (Nat.pow_lt_pow_iff_right (by omega : 1 < 2)).1 h4
  omega

set_option maxRecDepth 100000 in
set_option maxHeartbeats 4000000 in
/-- gcd.digits. -/
theorem digits_any (A : Option Addr) (na ca v : Nat) (hva : Nm w A na ca v) (hna : na ≤ 217) :
    Calls Tryz.prog 100 #[.slice A na ca] w fun e w' => e = .returned (.string (textB v)) ∧ Below w.heap.size w w' := by
  by_cases h0 : na = 0
  · subst h0
    have hv0 : v = 0 := hva.zero.1 rfl
    subst hv0
    clear hva
    go_enter Tryz.func100, Tryz.ntmps100
    go_wp2
    go_ret
    exact ⟨rfl, Below.refl _ _⟩
  · have hv0 : v ≠ 0 := fun h => h0 (hva.zero.2 h)
    have hn0 : ((na : Int) == 0) = false := by simp; omega
    have hlt := hva.lt
    obtain ⟨i0, hi0, hz0, hz1, hz2⟩ := info_parts u8_info
    have HV0 := Lib.hid hv0
    have HV := Lib.hid hlt
    clear hv0 hlt
    go_enter Tryz.func100, Tryz.ntmps100
    go_wp2
    go_loopw [0, 3, 4] (fun a m x wr => ∃ (k n3 c3 : Nat) (A3 : Option Addr), a = .slice A3 n3 c3 ∧ Nm wr A3 n3 c3 (v / 10 ^ (19 * k)) ∧ n3 ≤ 217 ∧ OwnY wr w.heap.size m (lowB (19 * k) v) ∧ k ≤ 244 ∧ Below w.heap.size w wr) (fun a _ _ wr => numOf wr a)
    case atStart => exact ⟨0, na, ca, A, rfl, by rw [Nat.mul_zero, Nat.pow_zero, Nat.div_one]; exact hva, hna, owny_nil _ _, by omega, Below.refl _ _⟩
    case round =>
      obtain ⟨k, n3, c3, A3, rfl, hp, hn3, hy, hk, hB⟩ := hrel
      clear hva hn0 h0
      by_cases hz : n3 = 0
      · subst hz
        have hp0 := hp.zero.1 rfl
        have hlt : v < 10 ^ (19 * k) := by
          rcases Nat.lt_or_ge v (10 ^ (19 * k)) with h | h
          · exact h
          · exact absurd (Nat.div_pos h (Nat.pow_pos (by omega))) (by omega)
        have htrim := trim_low hlt HV0.out
        have hll := lowB_len (19 * k) v
        have hk0 : k ≠ 0 := fun h => by
          subst h
          have h0 := HV0.out
          simp at hlt
          omega
        have htx : textB v = ⟨(tenL v).toArray⟩ := by unfold textB textL; rw [if_neg HV0.out]
        obtain ⟨L, hL⟩ : ∃ L, lowB (19 * k) v = L := ⟨_, rfl⟩
        rw [hL] at hy htrim hll
        have hLne : L ≠ [] := fun h => by rw [h] at hll; simp at hll; omega
        obtain ⟨g, c, rfl, hg, hgl, hc1, hc2, _⟩ := hy.form hLne
        have HREV := Lib.hid (rev_any wr w.heap.size L.length c (some ⟨g, 0, none⟩) L hy hLne rfl (by omega) hB.size)
        have HTR := Lib.hid htrim
        have HLL := Lib.hid hll
        have HTX := Lib.hid htx
        have HNE := Lib.hid (show L.reverse ≠ [] by simpa using hLne)
        clear hp hp0 hlt htrim hll hk0 hL hy hLne hg hgl hc1 hc2 htx hi0 hz0 hz1 hz2
        go_wp2_with fail
        refine HREV.out.mono ?_
        rintro e w2 ⟨rfl, hy2, hb2⟩
        obtain ⟨g2, c2, he2, _, _, _, _, hcf⟩ := hy2.form HNE.out
        rw [List.length_reverse] at he2
        cases he2
        have hconv := run_convert_bytes_back (P := Tryz.prog) w2 135 9 5 ⟨g, 0, none⟩ c L.reverse Tryz.underlying135 Tryz.underlying5 Tryz.underlying9 (fun j hj => by
          rw [Addr.add_lit, Nat.zero_add]
          exact (hcf j hj).1)
        rw [List.length_reverse] at hconv
        have hB2 := hB.trans hb2
        have HS1 : Hid ((⟨L.reverse.toArray⟩ : ByteArray).size ≤ 9223372036854775807) := by
          show _ ≤ _
          have h := HLL.out
          simp [ByteArray.size]
          omega
        have HS2 : Hid (0 < (⟨L.reverse.toArray⟩ : ByteArray).size) := by
          show 0 < _
          have h := List.length_pos_iff.2 HNE.out
          simpa [ByteArray.size] using h
        clear hy2 hcf hb2 hB
        go_wp2_with fail
        refine (trimL_any w2 ⟨L.reverse.toArray⟩ HS1.out HS2.out).mono ?_
        rintro e w3 ⟨rfl, rfl⟩
        clear hconv
        go_wp2
        go_ret
        refine ⟨?_, hB2⟩
        rw [HTX.out, ← HTR.out]
        rfl
      · have hp0 : v / 10 ^ (19 * k) ≠ 0 := fun h => hz (hp.zero.2 h)
        have hk3 := digits_bound HV.out hna hp0
        obtain ⟨p, hpe⟩ : ∃ p, v / 10 ^ (19 * k) = p := ⟨_, rfl⟩
        rw [hpe] at hp hp0
        have hq : p / 10 ^ 19 = v / 10 ^ (19 * (k + 1)) := by rw [← hpe, Nat.div_div_eq_div_mul, ← Nat.pow_add]; rfl
        have HW := Lib.hid (wordZ A3 n3 c3 p (10 ^ 19) 10000000000000000000 wr (by rfl) hp (by rw [B64_eq]; omega) (by omega) (by omega))
        have hlt : p / 10 ^ 19 < p := Nat.div_lt_self (Nat.pos_of_ne_zero hp0) (by omega)
        have hl4 := length_of_le (words_limbs p) (n := p / 10 ^ 19) (by rw [val_limbs]; omega)
        rw [hp.rd.len] at hl4
        have hdig : ∀ j, j < 19 → p % 10 ^ 19 / 10 ^ j % 10 = v / 10 ^ (19 * k + j) % 10 := fun j hj => by
          rw [low_digit hj, ← hpe, Nat.div_div_eq_div_mul, ← Nat.pow_add]
        have hr : p % 10 ^ 19 < B64 := Nat.lt_trans (Nat.mod_lt _ (by omega)) (by rw [B64_eq]; omega)
        have hm0 : numOf wr (.slice A3 n3 c3) = p := numOf_is hp
        obtain ⟨q, hqe⟩ : ∃ q, p / 10 ^ 19 = q := ⟨_, rfl⟩
        obtain ⟨r, hre⟩ : ∃ r, p % 10 ^ 19 = r := ⟨_, rfl⟩
        rw [hqe] at hq HW hlt hl4
        rw [hre] at HW hdig hr
        have HM := Lib.hid hm0
        have HQ := Lib.hid hq
        have HLT := Lib.hid hlt
        have HL4 := Lib.hid hl4
        have HDG := Lib.hid hdig
        have HR := Lib.hid hr
        have hgt : decide ((0 : Int) < (n3 : Int)) = true := by simp; omega
        have hgt2 : 0 < n3 := Nat.pos_of_ne_zero hz
        clear hp hp0 hm0 hq hlt hl4 hdig hr hqe hre hpe hz
        go_wp2_with fail
        refine HW.out.mono ?_
        rintro e w2 ⟨A4, n4, c4, rfl, o4, hb2⟩
        replace hy := hy.below hb2
        replace o4 := own_mono o4 hB.size
        replace hb2 := below_then hB hb2
        clear hB HW hgt hgt2
        go_wp2
        go_loopw [3, 4, 17] (fun m x i W => ∃ j : Nat, j ≤ 19 ∧ i = .int .i64 (j : Int) ∧ x = wv (r / 10 ^ j) ∧ OwnY W w.heap.size m (lowB (19 * k + j) v) ∧ Own W w.heap.size (.slice A4 n4 c4) (limbs q) ∧ Below w.heap.size w W) (fun _ _ i _ => 19 - (intOf i).toNat)
        case atStart => exact ⟨0, by omega, rfl, by rw [Nat.pow_zero, Nat.div_one], hy, o4, hb2⟩
        case round =>
          clear hy o4 hb2
          obtain ⟨j, hj, rfl, rfl, hy, o4, hB2⟩ := hrel
          by_cases hlt : j < 19
          · have hlt2 : (j : Int) < 19 := by omega
            obtain ⟨X, hX⟩ : ∃ X, r / 10 ^ j = X := ⟨_, rfl⟩
            have hX2 : r / 10 ^ (j + 1) = X / 10 := by rw [Nat.pow_succ, ← Nat.div_div_eq_div_mul, hX]
            have hXB : X < B64 := by rw [← hX]; exact Nat.lt_of_le_of_lt (Nat.div_le_self _ _) HR.out
            have hd := HDG.out j hlt
            rw [hX] at hd ⊢
            obtain ⟨d, hde⟩ : ∃ d, X % 10 = d := ⟨_, rfl⟩
            have hd10 : d < 10 := by omega
            rw [hde] at hd
            have hlow : lowB (19 * k + (j + 1)) v = lowB (19 * k + j) v ++ [dig d] := by rw [← Nat.add_assoc, lowB_snoc, ← hd]
            have hown0 := fun u : Value => hy.below ((Below.refl _ wr).alloc (Nat.le_refl _) (.cells #[u] 5))
            have hyl := lowB_len (19 * k + j) v
            have HO0 := Lib.hid hown0
            have HBK := Lib.hid (owny_block hy)
            have hnew := Lib.hid (fun u : Value => cell_one_new wr u 5)
            have HLOW := Lib.hid hlow
            have HX2 := Lib.hid hX2
            have HXB := Lib.hid hXB
            have HDE := Lib.hid hde
            have HU := Lib.hid (u8_wrap hd10)
            have O4 := Lib.hid (fun u : Value => o4.below ((Below.refl _ wr).alloc (Nat.le_refl _) (.cells #[u] 5)))
            have hyl2 : (lowB (19 * k + j) v).length ≤ 5000 := by rw [hyl]; omega
            clear hX hX2 hXB hd hlow hown0 hyl hy o4 hde
            go_wp2_with (at_builtin; refine wpList_append_own _ rfl _ _ 135 rfl w.heap.size 5 i0 _ 1 1 Tryz.underlying135 hi0 hz0 hz1 hz2 rfl (by decide) _ _ _ rfl (HO0.out _) ⟨wr.heap.size, 0, none⟩ 1 1 _ rfl rfl (hnew.out _) (by simp [Value.oneCell']) (by simp only [maxLen]; omega) (by omega) (by have := hB2.size; simp; omega) ?_; intro v' w3 hown1 hgrow1 _)
            go_roundw
            case rel =>
              have hbyte : (48 + (X : Int) % 10) = ((dig d).toNat : Int) := by have := HDE.out; rw [dig_nat hd10]; omega
              have hb3 : Below w.heap.size w w3 := (hB2.alloc hB2.size _).grown hgrow1 (by rw [World.size_alloc]; have := hB2.size; omega) HBK.out
              refine ⟨j + 1, by omega, by go_num, ?_, ?_, own_grown (O4.out _) (HO0.out _) hgrow1, hb3⟩
              · rw [HX2.out]
                exact congrArg (Value.int .u64) (u64_div (b := 10) HXB.out)
              · rw [HLOW.out]
                unfold OwnY
                rw [List.length_append, List.map_append]
                rw [hbyte] at hown1
                exact hown1
            case measure => simp [intOf]; omega
          · obtain rfl : j = 19 := by omega
            have hn4 := o4.nm
            have hl := o4.rd.2.1
            rw [show 19 * k + 19 = 19 * (k + 1) by omega] at hy
            have HN4 := Lib.hid hl
            clear o4 hl
            go_wp2
            go_roundw
            case rel =>
              refine ⟨k + 1, n4, c4, A4, rfl, by rw [← HQ.out]; exact hn4, by have := HN4.out; have := HL4.out; omega, hy, by omega, hB2⟩
            case measure =>
              rw [HM.out]
              show numOf _ (.slice A4 n4 c4) < p
              rw [numOf_is hn4]
              exact HLT.out

theorem one_lens {a : List Nat} {na : Nat} (h1 : a.length = na) (h3 : na ≤ 5000) : ∀ l ∈ [a], l.length ≤ 4294967296 := by
  intro l h
  rcases List.mem_cons.1 h with rfl | h
  · omega
  · cases h
theorem text_many {A : Option Addr} {na ca v : Nat} {w : World} (h : Nm w A na ca v) (hn : 4096 ≤ (na - 1) * 19) : ¬ (textL v).length ≤ 4096 := by
  intro hle
  have hv0 : v ≠ 0 := fun h0 => by have := h.zero.2 h0; omega
  have h1 := le_of_limbs hv0
  rw [h.rd.len] at h1
  have h2 := text_lt v
  have h3 : 10 ^ (textL v).length ≤ 10 ^ (19 * (na - 1)) := Nat.pow_le_pow_right (by omega) (by omega)
  have h4 : (10 ^ 19) ^ (na - 1) ≤ B64 ^ (na - 1) := Nat.pow_le_pow_left (by rw [B64_eq]; omega) _
  rw [← Nat.pow_mul] at h4
  exact absurd (Nat.lt_of_lt_of_le h2 (Nat.le_trans h3 (Nat.le_trans h4 h1))) (Nat.lt_irrefl _)
theorem textB_sz (v : Nat) : (textB v).size = (textL v).length := by rw [← size_list, textB_list]

set_option maxRecDepth 100000 in
set_option maxHeartbeats 2000000 in
theorem text_is : TextIs 70 := fun A na ca a w hra hna hca => by
  have HR := Lib.hid (rows2_one (ca := ca) hra (by omega) 23)
  have HL := Lib.hid (one_lens hra.len hna)
  cases hm : may a with
  | false =>
    have HE := Lib.hid (textE_bad hm)
    have HS := Lib.hid (textS_no (a := a) (by rw [HE.out]; decide))
    have HM := Lib.hid (show [a].all may = false by simp [hm])
    clear hra hm
    go_enter Tryz.func70, Tryz.ntmps70
    go_wp2_with fail
    refine (mayBeG_any w.heap.size 0 1 1 [a] _ HR.out rfl (by omega) HL.out).mono ?_
    rw [bad_eight HM.out]
    rintro e w1 ⟨rfl, hb1⟩
    replace hb1 := below_new hb1
    clear HR HL
    go_wp2
    go_ret2
    exact ⟨by rw [HS.out, HE.out]; rfl, hb1⟩
  | true =>
    have hv := nm_of hra hm hca.1 hca.2
    have HM := Lib.hid (show [a].all may = true by simp [hm])
    by_cases hb : 4096 ≤ (na - 1) * 19
    · have HE := Lib.hid (textE_many hm (text_many hv hb))
      have HS := Lib.hid (textS_no (a := a) (by rw [HE.out]; decide))
      have hd1 : (4096 : Int) ≤ ((na : Int) - 1) * 19 := by omega
      have hd2 : decide ((4096 : Int) ≤ ((na : Int) - 1) * 19) = true := by simpa using hd1
      clear hra hm hv hb
      go_enter Tryz.func70, Tryz.ntmps70
      go_wp2_with fail
      refine (mayBeG_any w.heap.size 0 1 1 [a] _ HR.out rfl (by omega) HL.out).mono ?_
      rw [bad_zero HM.out]
      rintro e w1 ⟨rfl, hb1⟩
      replace hb1 := below_new hb1
      clear HR HL
      go_wp2
      go_ret2
      exact ⟨by rw [HS.out, HE.out]; rfl, hb1⟩
    · have hd1 : ¬ ((4096 : Int) ≤ ((na : Int) - 1) * 19) := by omega
      have hd2 : decide ((4096 : Int) ≤ ((na : Int) - 1) * 19) = false := by simpa using hd1
      have hsz := textB_sz (val a)
      obtain ⟨s, hs⟩ : ∃ s, textB (val a) = s := ⟨_, rfl⟩
      have HDG := Lib.hid (fun W (h : Nm W A na ca (val a)) => digits_any W A na ca (val a) h (by omega))
      rw [hs] at HDG hsz
      by_cases h4 : (textL (val a)).length ≤ 4096
      · have HE := Lib.hid (textE_ok hm h4)
        have HS := Lib.hid (textS_ok HE.out)
        rw [hs] at HS
        have hq : ¬ ((4096 : Int) < (s.size : Int)) := by omega
        have hq2 : ¬ (4096 < s.size) := by omega
        have hq3 : decide ((4096 : Int) < (s.size : Int)) = false := by simpa using hq
        clear hra hm hb hsz hs h4
        go_enter Tryz.func70, Tryz.ntmps70
        go_wp2_with fail
        refine (mayBeG_any w.heap.size 0 1 1 [a] _ HR.out rfl (by omega) HL.out).mono ?_
        rw [bad_zero HM.out]
        rintro e w1 ⟨rfl, hb1⟩
        replace hb1 := below_new hb1
        clear HR HL
        go_wp2_with fail
        refine (HDG.out w1 (hv.below hb1)).mono ?_
        rintro e w2 ⟨rfl, hb2⟩
        replace hb2 := below_then hb1 hb2
        clear hb1 HDG hv
        go_wp2
        go_ret2
        exact ⟨by rw [HS.out, HE.out]; rfl, hb2⟩
      · have HE := Lib.hid (textE_many hm h4)
        have HS := Lib.hid (textS_no (a := a) (by rw [HE.out]; decide))
        have hq : (4096 : Int) < (s.size : Int) := by omega
        have hq2 : 4096 < s.size := by omega
        have hq3 : decide ((4096 : Int) < (s.size : Int)) = true := by simpa using hq
        clear hra hm hb hsz hs h4
        go_enter Tryz.func70, Tryz.ntmps70
        go_wp2_with fail
        refine (mayBeG_any w.heap.size 0 1 1 [a] _ HR.out rfl (by omega) HL.out).mono ?_
        rw [bad_zero HM.out]
        rintro e w1 ⟨rfl, hb1⟩
        replace hb1 := below_new hb1
        clear HR HL
        go_wp2_with fail
        refine (HDG.out w1 (hv.below hb1)).mono ?_
        rintro e w2 ⟨rfl, hb2⟩
        replace hb2 := below_then hb1 hb2
        clear hb1 HDG hv
        go_wp2
        go_ret2
        exact ⟨by rw [HS.out, HE.out]; rfl, hb2⟩
end
end Go.Proofs.YtbldimplddiheaaGreatDoor
