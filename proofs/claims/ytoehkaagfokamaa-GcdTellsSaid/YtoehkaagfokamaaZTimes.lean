import Derived.Test.YtoehkaagfokamaaZHalf
import Derived.Test.YtoehkaagfokamaaZRefMay
import Derived.Test.YtoehkaagfokamaaZCopy
import Derived.Deep.RegionLaw
/- RefMul Times. -/
/- The document's product: digits to 2^32, by school. -/
namespace Go.Proofs.Ytoehkaagfokamaa
open Go.RowKit Go.Shelf
set_option linter.unusedVariables false
set_option linter.unusedSimpArgs false

theorem cell_two_new (w : World) (x y : Value) (T : TypeId) : ∀ j u, [x, y][j]? = some u → (w.alloc (.cells #[x, y] T)).cell? ((⟨w.heap.size, 0, none⟩ : Addr).add j) = some u := by
  intro j u hj
  rw [Addr.add_lit]
  match j, hj with
  | 0, hj => simp at hj; simp [hj]
  | 1, hj => simp at hj; simp [hj]
  | j + 2, hj => simp at hj
/-- append onto a row of the call's own, as one step of a region that draws. -/
theorem step_append_mine {P : Program} {ops : Array Oper} {o : Oper} {a : Act} {w : World} {K : Act → World → Prop} {Q : Exit → Act → World → Prop} {E : Prop}
    (hg : o.guard = none) (s x : Operand) (t : TypeId) (hop : o.op = Op.call { callee := Callee.builtin Builtin.append, args := #[s, x], argTypes := #[t, t] })
    (base : Nat) (e : TypeId) (i : TypeInfo) (z : Value) (size bytes : Nat) (h1 : P.underlying t = some (.slice e)) (h2 : P.info? e = some i) (h3 : i.zero = some z) (h4 : i.size = size) (h5 : i.bytes = bytes) (h6 : z.cells.size = size) (h7 : 0 < size)
    (v : Value) (n : Nat) (xs : List Value) (hs : a.eval s = v) (hown : w.ownsRow base e size v n xs)
    (ad : Addr) (m c : Nat) (news : List Value) (hx : a.eval x = .slice (some ad) m c) (hn : news.length = m * size) (hc : ∀ j u, news[j]? = some u → w.cell? (ad.add j) = some u) (h1c : ∀ u ∈ news, u.oneCell' = true)
    (b1 : n + m ≤ maxLen) (b2 : (n + m) * bytes ≤ 140737488355328) (b3 : base ≤ w.heap.size)
    (hK : ∀ v' w', w'.ownsRow base e size v' (n + m) (xs ++ news) → w.grownBy w' v.ownBlock → K (a.put o.dst v') w') :
    if Region.wanted o (yielded ops a.tmps) = true then Oper.wp P o a w K Q else E := by
  have hw : Region.wanted o (yielded ops a.tmps) = true := by simp [Region.wanted, hg]
  rw [if_pos hw]
  obtain ⟨v', w', hrun, r1, r2, _⟩ := run_append_own (P := P) w base t o.type e i z size bytes h1 h2 h3 h4 h5 h6 h7 v n xs hown ad m c news hn hc h1c b1 b2 b3
  unfold Oper.wp
  simp [execOp, hop, resolve, invoke, builtin, hs, hx, hrun, Result.andThen]
  exact hK v' w' r1 r2
theorem half_facts {x : Nat} {lo hi : Nat} (h1 : x % H = lo) (h2 : x / H = hi) : Int.tmod (x : Int) 4294967296 = (lo : Int) ∧ (x : Int) % 4294967296 = (lo : Int) ∧ Int.tdiv (x : Int) 4294967296 = (hi : Int) ∧ (x : Int) / 4294967296 = (hi : Int) := by
  rw [H_eq] at h1 h2
  refine ⟨?_, by omega, ?_, by omega⟩
  · rw [Int.tmod_eq_emod_of_nonneg (by omega)]; omega
  · rw [Int.tdiv_eq_ediv_of_nonneg (by omega)]; omega
theorem whole_facts {x y : Nat} (h : x + H * y < B64) : IntKind.u64.wrap (4294967296 * (y : Int)) = 4294967296 * (y : Int) ∧ IntKind.u64.wrap ((x : Int) + 4294967296 * (y : Int)) = ((x + H * y : Nat) : Int) := by
  rw [H_eq, B64_eq] at h
  rw [H_eq]
  constructor
  · rw [IntKind.wrap_u64]; omega
  · rw [IntKind.wrap_u64]; omega
theorem u64_is {x : Nat} (h : x < B64) : IntKind.u64.wrap (x : Int) = (x : Int) := by
  rw [IntKind.wrap_u64]; rw [B64_eq] at h; omega

section
variable (A A2 : Option Addr) (na ca nb cb : Nat) (a b : List Nat) (w : World)

set_option maxRecDepth 100000 in
set_option maxHeartbeats 2000000 in
/-- The document's halves. -/
theorem halves_any (hra : Rd w A na a) (hna : na ≤ 100000) :
    Calls Try.prog 36 #[.slice A na ca] w fun e w' => ∃ A' k c, e = .returned (.slice A' k c) ∧ Own w' w.heap.size (.slice A' k c) (halvesL a) ∧ Below w.heap.size w w' := by
  obtain ⟨i0, hi0, hz0, hz1, hz2⟩ := info_parts u64_info
  go_enter Try.func36, Try.ntmps36
  go_wp2
  go_loopw [3, 4] (fun v i wr => ∃ k : Nat, k ≤ na ∧ i = .int .i64 (k : Int) ∧ Own wr w.heap.size v (halvesL (a.take k)) ∧ Below w.heap.size w wr) (fun _ i _ => na - (intOf i).toNat)
  case atStart => exact ⟨0, by omega, rfl, ⟨World.ownsRow_nil _ _ _ _, words_nil⟩, Below.refl _ _⟩
  case round =>
    obtain ⟨k, hk, rfl, hown, hB⟩ := hrel
    by_cases hlt : k < na
    · obtain ⟨b1, o1, rfl, _, hc1⟩ := (hra.below hB).cells (by omega)
      have hca := hc1 k hlt
      have hx := hra.words.get k
      have htk := halves_take a k (by rw [hra.len]; exact hlt)
      obtain ⟨x, hxe⟩ : ∃ x, lim a k = x := ⟨_, rfl⟩
      rw [hxe] at hca hx htk
      obtain ⟨lo, hlo⟩ : ∃ lo, x % H = lo := ⟨_, rfl⟩
      obtain ⟨hi, hhi⟩ : ∃ hi, x / H = hi := ⟨_, rfl⟩
      obtain ⟨f1, f2, f3, f4⟩ := half_facts hlo hhi
      have b1' : lo < B64 := by rw [← hlo]; exact Nat.lt_trans (Nat.mod_lt _ H_pos) (by rw [H_eq, B64_eq]; omega)
      have b2' : hi < B64 := by rw [← hhi]; exact Nat.lt_of_le_of_lt (Nat.div_le_self _ _) hx
      have f5 := u64_is b1'
      have f6 := u64_is b2'
      rw [hlo, hhi] at htk
      have hlen : (halvesL (a.take k)).length = 2 * k := by rw [halves_length, List.length_take, hra.len]; omega
      have hol : (halvesL (a.take k)).length ≤ 200000 := by omega
      have hblk := own_block hown
      have HBK := Lib.hid hblk
      have hown0 := (own_drew hown).below ((Below.refl _ wr.drew).alloc (Nat.le_refl _) (.cells #[u64 lo, u64 hi] 30))
      have HO0 := Lib.hid hown0
      have hnew := Lib.hid (cell_two_new wr.drew (u64 lo) (u64 hi) 30)
      have HTK := Lib.hid htk
      have HW : Hid (lo < B64 ∧ hi < B64) := ⟨b1', b2'⟩
      have hBs := hB.size
      clear hc1 hxe hlo hhi hown hown0 hblk hx htk b1' b2' hlen
      go_wp2
      go_region_law (refine step_append_mine rfl _ _ 22 rfl w.heap.size 30 i0 _ 1 8 Try.underlying22 hi0 hz0 hz1 hz2 rfl (by decide) _ _ _ rfl HO0.out.1 ⟨wr.heap.size, 0, none⟩ 2 2 [u64 lo, u64 hi] rfl rfl hnew.out (by simp [Value.oneCell']) (by simp only [maxLen]; omega) (by omega) (by simp; omega) ?_; intro v' w3 hown1 hgrow1)
      all_goals
        go_wp2
        go_roundw
        case rel =>
          refine ⟨k + 1, by omega, by go_num, ⟨?_, ?_⟩, ((hB.drew).alloc hBs _).grown hgrow1 (by simp; omega) HBK.out⟩
          · rw [HTK.out, List.length_append, List.map_append]; exact hown1
          · rw [HTK.out]; exact words_append HO0.out.2 (words_cons HW.out.1 (words_cons HW.out.2 words_nil))
        case measure => simp [intOf]; omega
    · have hkn : k = na := by omega
      rw [hkn, List.take_of_length_le (by rw [hra.len]; omega)] at hown
      obtain ⟨A', c', rfl⟩ := own_shape hown
      have HO := Lib.hid hown
      clear hown hkn hra
      go_wp2
      go_ret
      exact ⟨_, _, _, rfl, HO.out, hB⟩

set_option maxRecDepth 100000 in
set_option maxHeartbeats 2000000 in
/-- The document's whole. -/
theorem whole_any (h : List Nat) (M : Nat) (hrh : Rd w A na h) (hd : Digs H h) (hM : na = 2 * M) (hM2 : M ≤ 200000) :
    Calls Try.prog 37 #[.slice A na ca] w fun e w' => ∃ A' k c, e = .returned (.slice A' k c) ∧ Own w' w.heap.size (.slice A' k c) (limbs (vb H h)) ∧ Below w.heap.size w w' := by
  obtain ⟨i0, hi0, hz0, hz1, hz2⟩ := info_parts u64_info
  have HM := Lib.hid hM
  have hMn : 2 * M ≤ na ∧ na ≤ 2 * M := by omega
  clear hM
  go_enter Try.func37, Try.ntmps37
  go_wp2
  go_loopw [3, 4] (fun v i wr => ∃ (k : Nat) (o : List Nat), k ≤ M ∧ i = .int .i64 (2 * (k : Int)) ∧ o.length = k ∧ val o = vb H (h.take (2 * k)) ∧ Own wr w.heap.size v o ∧ Below w.heap.size w wr) (fun _ i _ => na - (intOf i).toNat)
  case atStart => exact ⟨0, [], by omega, rfl, rfl, by simp [val, vb], ⟨World.ownsRow_nil _ _ _ _, words_nil⟩, Below.refl _ _⟩
  case round =>
    obtain ⟨k, o, hk, rfl, hlen, hval, hown, hB⟩ := hrel
    by_cases hlt : k < M
    · obtain ⟨b1, o1, rfl, _, hc1⟩ := (hrh.below hB).cells (by omega)
      have hca := hc1 (2 * k) (by omega)
      have hcb := hc1 (2 * k + 1) (by omega)
      obtain ⟨hst, hsl⟩ := whole_step hd hval hlen
      obtain ⟨x, hxe⟩ : ∃ x, lim h (2 * k) = x := ⟨_, rfl⟩
      obtain ⟨y, hye⟩ : ∃ y, lim h (2 * k + 1) = y := ⟨_, rfl⟩
      rw [hxe, hye] at hst hsl
      rw [hxe] at hca
      rw [hye] at hcb
      obtain ⟨f1, f2⟩ := whole_facts hsl
      have hcond : (2 * (k : Int) + 1 < (na : Int)) := by omega
      have hx1 : 0 ≤ 2 * (k : Int) ∧ 2 * (k : Int) < (na : Int) := by omega
      have hx2 : 0 ≤ 2 * (k : Int) + 1 ∧ 2 * (k : Int) + 1 < (na : Int) := by omega
      have hx3 : IntKind.i64.wrap (2 * (k : Int) + 1) = 2 * (k : Int) + 1 := by rw [IntKind.wrap_i64]; omega
      have hx4 : (2 * (k : Int)).toNat = 2 * k := by omega
      have hx5 : (2 * (k : Int) + 1).toNat = 2 * k + 1 := by omega
      have hblk := own_block hown
      have HBK := Lib.hid hblk
      obtain ⟨z, hz⟩ : ∃ z, x + H * y = z := ⟨_, rfl⟩
      rw [hz] at f2 hst hsl
      have hown0 := (own_drew hown).below ((Below.refl _ wr.drew).alloc (Nat.le_refl _) (.cells #[u64 z] 30))
      have HO0 := Lib.hid hown0
      have hnew := Lib.hid (cell_one_new wr.drew (u64 z) 30)
      have HST := Lib.hid hst
      have HLN := Lib.hid hlen
      have hol : o.length ≤ 200000 := by omega
      have hBs := hB.size
      clear hc1 hxe hye hown hown0 hblk hst hlen hval hz hd hrh
      go_wp2
      go_region_law (refine step_append_mine rfl _ _ 23 rfl w.heap.size 30 i0 _ 1 8 Try.underlying23 hi0 hz0 hz1 hz2 rfl (by decide) _ _ _ rfl HO0.out.1 ⟨wr.heap.size, 0, none⟩ 1 1 [u64 z] rfl rfl hnew.out (by simp [Value.oneCell']) (by simp only [maxLen]; omega) (by omega) (by simp; omega) ?_; intro v' w3 hown1 hgrow1)
      all_goals
        go_wp2
        go_roundw
        case rel =>
          refine ⟨k + 1, o ++ [z], by omega, by go_num, by rw [List.length_append, HLN.out]; rfl, HST.out, ⟨?_, words_append HO0.out.2 (words_cons hsl words_nil)⟩, ((hB.drew).alloc hBs _).grown hgrow1 (by simp; omega) HBK.out⟩
          rw [List.length_append, List.map_append]; exact hown1
        case measure => simp [intOf]; omega
    · have hkn : k = M := by omega
      have hcond : ¬ (2 * (k : Int) + 1 < (na : Int)) := by omega
      have hv2 : val o = vb H h := by rw [hval, List.take_of_length_le (by rw [hrh.len]; omega)]
      have HV := Lib.hid hv2
      obtain ⟨A', c', rfl⟩ := own_shape hown
      have HLN := Lib.hid hlen
      obtain ⟨_, _, hnc, hcm⟩ := hown.rd
      have hcm2 : c' ≤ 9223372036854775807 := hcm
      have HO := Lib.hid hown
      have hol : o.length ≤ 200000 := by omega
      clear hcm hown hlen hval hv2 hkn hrh hd
      generalize hN : o.length = n at *
      have HN := Lib.hid hN
      clear hN
      go_wp2
      go_loop [3] (fun v => ∃ j : Nat, j ≤ n ∧ v = .slice A' j c' ∧ ∀ i, j ≤ i → lim o i = 0) (fun v => match v with | .slice _ j _ => j | _ => 0)
      case atStart => exact ⟨n, Nat.le_refl _, rfl, fun i hi => lim_past (by rw [HN.out]; exact hi)⟩
      case round =>
        obtain ⟨j, hj, rfl, hzr⟩ := hrel
        by_cases h0 : j = 0
        · subst h0
          have ht : o.take 0 = limbs (val o) := take_limbs HO.out.2 (by omega) (fun h => absurd rfl h) hzr
          have HT := Lib.hid ht
          clear ht hzr
          go_wp2
          go_ret
          refine ⟨_, _, _, rfl, ?_, hB⟩
          rw [← HV.out, ← HT.out]
          exact own_trim HO.out (by omega)
        · obtain ⟨i, rfl⟩ : ∃ i, j = i + 1 := ⟨j - 1, by omega⟩
          obtain ⟨g, rfl, _, _⟩ := own_at HO.out (by omega)
          have hci := (own_cell HO.out (i := i) (by omega)).1
          by_cases hx : lim o i = 0
          · rw [hx] at hci
            have HX := Lib.hid hx
            have HZ := Lib.hid hzr
            have hic : ¬ ((c' : Int) < (i : Int)) := by omega
            clear hx hzr
            go_wp2
            go_round
            case rel => exact ⟨i, by omega, by go_num, fun t ht => by
              rcases Nat.eq_or_lt_of_le ht with rfl | ht
              · exact HX.out
              · exact HZ.out t ht⟩
            case measure => first | omega | (show i < i + 1; omega) | (simp; done)
          · have ht : o.take (i + 1) = limbs (val o) := take_limbs HO.out.2 (by rw [HN.out]; omega) (fun _ => hx) hzr
            have HT := Lib.hid ht
            have hne : ((lim o i : Int) == 0) = false := by simp; omega
            clear ht hzr hx
            go_wp2
            go_ret
            refine ⟨_, _, _, rfl, ?_, hB⟩
            rw [← HV.out, ← HT.out]
            exact own_trim HO.out (by omega)
end
end Go.Proofs.Ytoehkaagfokamaa

/- The document's product of two numbers, and its answers to Mul and Pow. -/
namespace Go.Proofs.Ytoehkaagfokamaa
open Go.RowKit Go.Shelf
set_option linter.unusedVariables false
set_option linter.unusedSimpArgs false

/-- A word as a value. (Another name: the walk calls slot 64 'u64'.) -/
abbrev wd (x : Nat) : Value := .int .u64 (x : Int)
theorem digit_facts {x y m c n t d : Nat} (hx : x < H) (hy : y < H) (hm : m < H) (hc : c < H) (hn : x * y + m + c = n) (ht : n % H = t) (hd : n / H = d) :
    IntKind.u64.wrap ((x : Int) * (y : Int)) = (x : Int) * (y : Int) ∧ IntKind.u64.wrap ((x : Int) * (y : Int) + (m : Int)) = (x : Int) * (y : Int) + (m : Int) ∧ IntKind.u64.wrap ((x : Int) * (y : Int) + (m : Int) + (c : Int)) = (n : Int) ∧
    t < H ∧ d < H ∧ t + H * d = x * y + c + m ∧ n < B64 := by
  have h1 := two_digs hx hy hm hc
  rw [hn, H_sq] at h1
  have e : ((x * y : Nat) : Int) = (x : Int) * (y : Int) := by simp
  rw [← e]
  have h2 : d < H := by rw [← hd, Nat.div_lt_iff_lt_mul H_pos, H_sq]; exact h1
  have h3 : t < H := by rw [← ht]; exact Nat.mod_lt _ H_pos
  have h4 := Nat.mod_add_div n H
  rw [ht, hd] at h4
  refine ⟨u64_is (by omega), ?_, ?_, h3, h2, by omega, h1⟩
  · rw [← Int.natCast_add]; exact u64_is (by omega)
  · rw [← Int.natCast_add, ← Int.natCast_add, hn]; exact u64_is h1
theorem sum_idx {i k N : Nat} (h : i + k < N) (hN : N ≤ 1000000) : IntKind.i64.wrap ((i : Int) + (k : Int)) = (i : Int) + (k : Int) := by rw [IntKind.wrap_i64]; omega

section
variable (A A2 : Option Addr) (na ca nb cb : Nat) (a b : List Nat) (w : World)

set_option maxRecDepth 100000 in
set_option maxHeartbeats 3000000 in
/-- The document's Times. -/
theorem times_any (hra : Rd w A na a) (hrb : Rd w A2 nb b) (hna : na ≤ 100000) (hnb : nb ≤ 100000) :
    Calls Try.prog 16 #[.slice A na ca, .slice A2 nb cb] w fun e w' => ∃ A' k c, e = .returned (.slice A' k c) ∧ Own w' w.heap.size (.slice A' k c) (limbs (val a * val b)) ∧ Below w.heap.size w w' := by
  have hlX : (halvesL a).length = 2 * na := by rw [halves_length, hra.len]
  have hlY : (halvesL b).length = 2 * nb := by rw [halves_length, hrb.len]
  have hdX := halves_digs hra.words
  have hdY := halves_digs hrb.words
  have hvX := halves_val a
  have hvY := halves_val b
  go_enter Try.func16, Try.ntmps16
  go_wp2_with fail
  refine (halves_any A na ca a _ hra hna).mono ?_
  rintro e w1 ⟨Ax, kx, cx, rfl, ox, hb1⟩
  replace hrb := hrb.below hb1
  go_wp2_with fail
  refine (halves_any A2 nb cb b _ hrb hnb).mono ?_
  rintro e w2 ⟨Ay, ky, cy, rfl, oy, hb2⟩
  have hrx := (ox.rd.1).below hb2
  have hry := oy.rd.1
  have lx : kx = 2 * na := by have := ox.rd.2.1; omega
  have ly : ky = 2 * nb := by have := oy.rd.2.1; omega
  generalize halvesL a = X at *
  generalize halvesL b = Y at *
  replace hb2 := below_then hb1 hb2
  have HXY : Hid (vb H X = val a ∧ vb H Y = val b) := ⟨hvX, hvY⟩
  have HLX := Lib.hid hlX
  have HLY := Lib.hid hlY
  have LX := Lib.hid lx
  have LY := Lib.hid ly
  have lxb : kx ≤ 200000 := by omega
  have lyb : ky ≤ 200000 := by omega
  clear ox oy hb1 hra hrb hvX hvY hlX hlY lx ly
  have hmk := fun W => run_make_row' (P := Try.prog) 22 30 (.int .u64 0) 8 Try.underlying22 u64_info rfl .i64 .i64 (kx + ky) (by omega) (by omega) W
  rw [show ((kx + ky : Nat) : Int) = (kx : Int) + (ky : Int) by omega] at hmk
  have hz := RowL.zeros w2 (kx + ky)
  have hB3 := hb2.alloc hb2.size (.cells (madeCells #[.int .u64 0] (kx + ky)) 30)
  have hB3' := (Below.refl w2.heap.size w2).alloc (Nat.le_refl _) (.cells (madeCells #[.int .u64 0] (kx + ky)) 30)
  have hxlt := hrx.lt
  have hylt := hry.lt
  replace hrx := hrx.below hB3'
  replace hry := hry.below hB3'
  have hg : w.heap.size ≤ w2.heap.size := hb2.size
  go_wp2
  clear hmk hB3' hb2
  generalize hW3 : w2.alloc (.cells (madeCells #[.int .u64 0] (kx + ky)) 30) = w3 at *
  generalize hG : w2.heap.size = g at *
  clear hW3 hG
  go_loopw [8] (fun i wr => ∃ (k : Nat) (l : List Nat), k ≤ kx ∧ i = .int .i64 (k : Int) ∧ RowL wr g l ∧ l.length = kx + ky ∧ Digs H l ∧ vb H l = vb H (X.take k) * vb H Y ∧ Below g w3 wr) (fun i _ => kx - (intOf i).toNat)
  case atStart => exact ⟨0, _, by omega, rfl, hz, by simp, digs_zeros H_pos _, by rw [vb_zeros]; simp [vb], Below.refl _ _⟩
  case round =>
    obtain ⟨i, l, hi, rfl, hrow, hlen, hdl, hval, hB⟩ := hrel
    clear hz
    by_cases hlt : i < kx
    · have hrx2 := hrx.keep (hxlt (by omega)) hB
      obtain ⟨b1, o1, rfl, _, hc1⟩ := hrx2.cells (by omega)
      have hcx := hc1 i hlt
      have hxd := hdX.get H_pos i
      obtain ⟨x, hxe⟩ : ∃ x, lim X i = x := ⟨_, rfl⟩
      rw [hxe] at hcx hxd
      have HXE := Lib.hid hxe
      have HV := Lib.hid hval
      have HROW := Lib.hid hrow
      have HLN := Lib.hid hlen
      have hxb : b1 < g := hxlt (by omega) b1 o1 rfl
      have hcx3 : w3.cell? ⟨b1, o1 + i, none⟩ = some (wd x) := (hB.cell (p := ⟨b1, o1 + i, none⟩) hxb).symm.trans hcx
      clear hc1 hxe hval hrow hlen hrx2
      go_wp2
      go_loopw [9, 10] (fun cy i2 wr2 => ∃ (j c : Nat) (l2 : List Nat), j ≤ ky ∧ i2 = .int .i64 (j : Int) ∧ cy = wd c ∧ c < H ∧ RowL wr2 g l2 ∧ l2.length = kx + ky ∧ Digs H l2 ∧ vb H l2 + H ^ (i + j) * c = vb H l + H ^ i * (x * vb H (Y.take j)) ∧ (∀ t, i + j ≤ t → lim l2 t = lim l t) ∧ Below g w3 wr2) (fun _ i2 _ => ky - (intOf i2).toNat)
      case atStart => exact ⟨0, 0, l, by omega, rfl, rfl, H_pos, HROW.out, HLN.out, hdl, by simp [vb], fun _ _ => rfl, hB⟩
      case round =>
        obtain ⟨j, c, l2, hj, rfl, rfl, hc, hrow2, hlen2, hd2, hval2, hsame, hB2⟩ := hrel
        by_cases hlt2 : j < ky
        · have hry2 := hry.keep (hylt (by omega)) hB2
          obtain ⟨b2, o2, rfl, _, hc2⟩ := hry2.cells (by omega)
          have hcy := hc2 j hlt2
          have hcx2 := (hB2.cell (p := ⟨b1, o1 + i, none⟩) hxb).trans hcx3
          have hcu : wr.cell? ⟨g, i + j, none⟩ = some (wd (lim l2 (i + j))) := hrow2.cell (by omega)
          have hfu : wr.frozen? ⟨g, i + j, none⟩ = false := hrow2.frozen _
          have hyd := hdY.get H_pos j
          have hmd := hd2.get H_pos (i + j)
          obtain ⟨y, hye⟩ : ∃ y, lim Y j = y := ⟨_, rfl⟩
          obtain ⟨m, hme⟩ : ∃ m, lim l2 (i + j) = m := ⟨_, rfl⟩
          rw [hye] at hcy hyd
          rw [hme] at hcu hmd
          obtain ⟨n, hn⟩ : ∃ n, x * y + m + c = n := ⟨_, rfl⟩
          obtain ⟨t, ht⟩ : ∃ t, n % H = t := ⟨_, rfl⟩
          obtain ⟨d, hd⟩ : ∃ d, n / H = d := ⟨_, rfl⟩
          obtain ⟨f1, f2, f3, htH, hdH, hkey, hnB⟩ := digit_facts hxd hyd hmd hc hn ht hd
          obtain ⟨g1, g2, g3, g4⟩ := half_facts ht hd
          have f6 := sum_idx (i := i) (k := j) (N := kx + ky) (by omega) (by omega)
          have hst := vrow_step (B := H) (L := l2) (L0 := l) (b := Y) (i := i) (j := j) (by omega) (by rw [hye, hme]; exact hkey) hval2
          have HST := Lib.hid hst
          have HR2 := Lib.hid hrow2
          have HSM := Lib.hid hsame
          have HD2 := Lib.hid hd2
          have HL2 := Lib.hid hlen2
          have hT : Hid (t < H ∧ d < H) := ⟨htH, hdH⟩
          have hwt := u64_is (x := t) (Nat.lt_trans htH (by rw [H_eq, B64_eq]; omega))
          have hwd := u64_is (x := d) (Nat.lt_trans hdH (by rw [H_eq, B64_eq]; omega))
          clear hst hrow2 hsame hd2 hlen2 htH hdH hkey hnB hn ht hd hye hme hc2 hval2 hry2 hdl hdX hdY
          go_wp2
          go_quiet (fail)
          go_wp2
          go_roundw
          case rel =>
            refine ⟨j + 1, d, l2.set (i + j) t, by omega, by go_num, by go_num, hT.out.2, ?_, by rw [List.length_set]; exact HL2.out, digs_set HD2.out hT.out.1, HST.out, fun s hs => ?_, ?_⟩
            · exact (HR2.out.drewN nq).set _ _
            · rw [lim_set (by rw [HL2.out]; omega), if_neg (by omega)]
              exact HSM.out s (by omega)
            · exact (below_drewN hB2 nq).setCell (p := ⟨g, i + j, none⟩) (Nat.le_refl _) _
          case measure => simp [intOf]; omega
        · have hjn : j = ky := by omega
          subst hjn
          have hs0 := hsame (i + j) (Nat.le_refl _)
          have hcu : wr.cell? ⟨g, i + j, none⟩ = some (wd (lim l2 (i + j))) := hrow2.cell (by omega)
          have hfu : wr.frozen? ⟨g, i + j, none⟩ = false := hrow2.frozen _
          have f6 := sum_idx (i := i) (k := j) (N := kx + j) (by omega) (by omega)
          have e1 : Y.length = j := by rw [HLY.out, ← LY.out]
          have e2 : X.length = kx := by rw [HLX.out, ← LX.out]
          rw [vb_take_all (by omega)] at hval2
          have hst := vschool_step H_pos (L := l) (L2 := l2) (a := X) (b := Y) (i := i) (over := c) hdl hdY hdX (by omega) HXE.out (by rw [e1, hlen2]; omega) HV.out (by rw [e1]; exact hval2) (by rw [e1]; exact hs0)
          rw [e1] at hst
          have HST := Lib.hid hst
          have HR2 := Lib.hid hrow2
          have HD2 := Lib.hid hd2
          have HL2 := Lib.hid hlen2
          clear hst hrow2 hsame hd2 hlen2 hval2 hs0 e1 e2
          go_wp2
          go_roundw
          case rel => exact ⟨i + 1, l2.set (i + j) c, by omega, by go_num, HR2.out.set _ _, by rw [List.length_set]; exact HL2.out, digs_set HD2.out hc, HST.out, hB2.setCell (p := ⟨g, i + j, none⟩) (Nat.le_refl _) _⟩
          case measure => simp [intOf]; omega
    · have hik : i = kx := by omega
      have e2 : X.length = kx := by rw [HLX.out, ← LX.out]
      have hv2 : vb H l = val a * val b := by rw [hval, hik, vb_take_all (by omega), HXY.out.1, HXY.out.2]
      have HV := Lib.hid hv2
      have hown := hrow.own (B := g) (n := kx + ky) (Nat.le_refl _) (digs_words hdl) hlen (by simp only [maxLen]; omega)
      have hre := hown.rd.1
      have hBe := hB3.trans (hB.mono hg)
      have hsz := hBe.size
      have e3 : kx + ky = 2 * (na + nb) := by have := LX.out; have := LY.out; omega
      have E3 := Lib.hid e3
      clear hval hv2 hrow hik e2 hown hrx hry e3
      go_wp2_with fail
      refine (whole_any _ (kx + ky) _ _ l (na + nb) hre hdl E3.out (by omega)).mono ?_
      rw [HV.out]
      rintro e w5 ⟨A5, k5, c5, rfl, o5, hb5⟩
      replace o5 := own_mono o5 hsz
      replace hb5 := below_then hBe hb5
      go_wp2_with fail
      go_ret
      exact ⟨_, _, _, rfl, o5, hb5⟩
end
end Go.Proofs.Ytoehkaagfokamaa
