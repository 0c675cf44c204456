/- The document's product: digits to 2^32, by school. -/
import Derived.Test.YtmiobjkbcmicbaaHalf
import Derived.Test.YtmiobjkbcmicbaaRefMay
import Derived.Test.YtmiobjkbcmicbaaCopy
import Derived.Deep.RegionLaw
namespace Go.Proofs.Ytmiobjkbcmicbaa
open Go.RowKit Go.Shelf
set_option linter.unusedVariables false
set_option linter.unusedSimpArgs false

theorem cell_two_new (w : World) (x y : Value) (T : TypeId) : ∀ j u, [x, y][j]? = some u → (w.alloc (.cells #[x, y] T)).cell? ((⟨w.heap.size, 0, none⟩ : Addr).add j) = some u := by
  intro j u hj
  rw [Addr.add_lit]
  match j, hj with
  | 0, hj => simp at hj; simp [hj]
  | 1, hj => simp at hj; simp [hj]
  | j + 2, hj => simp at hj
/-- append onto a row of the call's own, as one step of a region that draws. -/
theorem step_append_mine {P : Program} {ops : Array Oper} {o : Oper} {a : Act} {w : World} {K : Act → World → Prop} {Q : Exit → Act → World → Prop} {E : Prop}
    (hg : o.guard = none) (s x : Operand) (t : TypeId) (hop : o.op = Op.call { callee := Callee.builtin Builtin.append, args := #[s, x], argTypes := #[t, t] })
    (base : Nat) (e : TypeId) (i : TypeInfo) (z : Value) (size bytes : Nat) (h1 : P.underlying t = some (.slice e)) (h2 : P.info? e = some i) (h3 : i.zero = some z) (h4 : i.size = size) (h5 : i.bytes = bytes) (h6 : z.cells.size = size) (h7 : 0 < size)
    (v : Value) (n : Nat) (xs : List Value) (hs : a.eval s = v) (hown : w.ownsRow base e size v n xs)
    (ad : Addr) (m c : Nat) (news : List Value) (hx : a.eval x = .slice (some ad) m c) (hn : news.length = m * size) (hc : ∀ j u, news[j]? = some u → w.cell? (ad.add j) = some u) (h1c : ∀ u ∈ news, u.oneCell' = true)
    (b1 : n + m ≤ maxLen) (b2 : (n + m) * bytes ≤ 140737488355328) (b3 : base ≤ w.heap.size)
    (hK : ∀ v' w', w'.ownsRow base e size v' (n + m) (xs ++ news) → w.grownBy w' v.ownBlock → K (a.put o.dst v') w') :
    if Region.wanted o (yielded ops a.tmps) = true then Oper.wp P o a w K Q else E := by
  have hw : Region.wanted o (yielded ops a.tmps) = true := by simp [Region.wanted, hg]
  rw [if_pos hw]
  obtain ⟨v', w', hrun, r1, r2, _⟩ := run_append_own (P := P) w base t o.type e i z size bytes h1 h2 h3 h4 h5 h6 h7 v n xs hown ad m c news hn hc h1c b1 b2 b3
  unfold Oper.wp
  simp [execOp, hop, resolve, invoke, builtin, hs, hx, hrun, Result.andThen]
  exact hK v' w' r1 r2
theorem half_facts {x : Nat} {lo hi : Nat} (h1 : x % H = lo) (h2 : x / H = hi) : Int.tmod (x : Int) 4294967296 = (lo : Int) ∧ (x : Int) % 4294967296 = (lo : Int) ∧ Int.tdiv (x : Int) 4294967296 = (hi : Int) ∧ (x : Int) / 4294967296 = (hi : Int) := by
  rw [H_eq] at h1 h2
  refine ⟨?_, by omega, ?_, by omega⟩
  · rw [Int.tmod_eq_emod_of_nonneg (by omega)]; omega
  · rw [Int.tdiv_eq_ediv_of_nonneg (by omega)]; omega
theorem whole_facts {x y : Nat} (h : x + H * y < B64) : IntKind.u64.wrap (4294967296 * (y : Int)) = 4294967296 * (y : Int) ∧ IntKind.u64.wrap ((x : Int) + 4294967296 * (y : Int)) = ((x + H * y : Nat) : Int) := by
  rw [H_eq, B64_eq] at h
  rw [H_eq]
  constructor
  · rw [IntKind.wrap_u64]; omega
  · rw [IntKind.wrap_u64]; omega
theorem u64_is {x : Nat} (h : x < B64) : IntKind.u64.wrap (x : Int) = (x : Int) := by
  rw [IntKind.wrap_u64]; rw [B64_eq] at h; omega

section
variable (A A2 : Option Addr) (na ca nb cb : Nat) (a b : List Nat) (w : World)

set_option maxRecDepth 100000 in
set_option maxHeartbeats 2000000 in
/-- The document's halves. -/
theorem halves_any (hra : Rd w A na a) (hna : na ≤ 100000) :
    Calls Try.prog 39 #[.slice A na ca] w fun e w' => ∃ A' k c, e = .returned (.slice A' k c) ∧ Own w' w.heap.size (.slice A' k c) (halvesL a) ∧ Below w.heap.size w w' := by
  obtain ⟨i0, hi0, hz0, hz1, hz2⟩ := info_parts u64_info
  go_enter Try.func39, Try.ntmps39
  go_wp2
  go_loopw [3, 4] (fun v i wr => ∃ k : Nat, k ≤ na ∧ i = .int .i64 (k : Int) ∧ Own wr w.heap.size v (halvesL (a.take k)) ∧ Below w.heap.size w wr) (fun _ i _ => na - (intOf i).toNat)
  case atStart => exact ⟨0, by omega, rfl, ⟨World.ownsRow_nil _ _ _ _, words_nil⟩, Below.refl _ _⟩
  case round =>
    obtain ⟨k, hk, rfl, hown, hB⟩ := hrel
    by_cases hlt : k < na
    · obtain ⟨b1, o1, rfl, _, hc1⟩ := (hra.below hB).cells (by omega)
      have hca := hc1 k hlt
      have hx := hra.words.get k
      have htk := halves_take a k (by rw [hra.len]; exact hlt)
      obtain ⟨x, hxe⟩ : ∃ x, lim a k = x := ⟨_, rfl⟩
      rw [hxe] at hca hx htk
      obtain ⟨lo, hlo⟩ : ∃ lo, x % H = lo := ⟨_, rfl⟩
      obtain ⟨hi, hhi⟩ : ∃ hi, x / H = hi := ⟨_, rfl⟩
      obtain ⟨f1, f2, f3, f4⟩ := half_facts hlo hhi
      have b1' : lo < B64 := by rw [← hlo]; exact Nat.lt_trans (Nat.mod_lt _ H_pos) (by rw [H_eq, B64_eq]; omega)
      have b2' : hi < B64 := by rw [← hhi]; exact Nat.lt_of_le_of_lt (Nat.div_le_self _ _) hx
      have f5 := u64_is b1'
      have f6 := u64_is b2'
      rw [hlo, hhi] at htk
      have hlen : (halvesL (a.take k)).length = 2 * k := by rw [halves_length, List.length_take, hra.len]; omega
      have hol : (halvesL (a.take k)).length ≤ 200000 := by omega
      have hblk := own_block hown
      have HBK := Lib.hid hblk
      have hown0 := (own_drew hown).below ((Below.refl _ wr.drew).alloc (Nat.le_refl _) (.cells #[u64 lo, u64 hi] 27))
      have HO0 := Lib.hid hown0
      have hnew := Lib.hid (cell_two_new wr.drew (u64 lo) (u64 hi) 27)
      have HTK := Lib.hid htk
      have HW : Hid (lo < B64 ∧ hi < B64) := ⟨b1', b2'⟩
      have hBs := hB.size
      clear hc1 hxe hlo hhi hown hown0 hblk hx htk b1' b2' hlen
      go_wp2
      go_region_law (refine step_append_mine rfl _ _ 22 rfl w.heap.size 27 i0 _ 1 8 Try.underlying22 hi0 hz0 hz1 hz2 rfl (by decide) _ _ _ rfl HO0.out.1 ⟨wr.heap.size, 0, none⟩ 2 2 [u64 lo, u64 hi] rfl rfl hnew.out (by simp [Value.oneCell']) (by simp only [maxLen]; omega) (by omega) (by simp; omega) ?_; intro v' w3 hown1 hgrow1)
      all_goals
        go_wp2
        go_roundw
        case rel =>
          refine ⟨k + 1, by omega, by go_num, ⟨?_, ?_⟩, ((hB.drew).alloc hBs _).grown hgrow1 (by simp; omega) HBK.out⟩
          · rw [HTK.out, List.length_append, List.map_append]; exact hown1
          · rw [HTK.out]; exact words_append HO0.out.2 (words_cons HW.out.1 (words_cons HW.out.2 words_nil))
        case measure => simp [intOf]; omega
    · have hkn : k = na := by omega
      rw [hkn, List.take_of_length_le (by rw [hra.len]; omega)] at hown
      obtain ⟨A', c', rfl⟩ := own_shape hown
      have HO := Lib.hid hown
      clear hown hkn hra
      go_wp2
      go_ret
      exact ⟨_, _, _, rfl, HO.out, hB⟩

set_option maxRecDepth 100000 in
set_option maxHeartbeats 2000000 in
/-- The document's whole. -/
theorem whole_any (h : List Nat) (M : Nat) (hrh : Rd w A na h) (hd : Digs H h) (hM : na = 2 * M) (hM2 : M ≤ 200000) :
    Calls Try.prog 40 #[.slice A na ca] w fun e w' => ∃ A' k c, e = .returned (.slice A' k c) ∧ Own w' w.heap.size (.slice A' k c) (limbs (vb H h)) ∧ Below w.heap.size w w' := by
  obtain ⟨i0, hi0, hz0, hz1, hz2⟩ := info_parts u64_info
  have HM := Lib.hid hM
  have hMn : 2 * M ≤ na ∧ na ≤ 2 * M := by omega
  clear hM
  go_enter Try.func40, Try.ntmps40
  go_wp2
  go_loopw [3, 4] (fun v i wr => ∃ (k : Nat) (o : List Nat), k ≤ M ∧ i = .int .i64 (2 * (k : Int)) ∧ o.length = k ∧ val o = vb H (h.take (2 * k)) ∧ Own wr w.heap.size v o ∧ Below w.heap.size w wr) (fun _ i _ => na - (intOf i).toNat)
  case atStart => exact ⟨0, [], by omega, rfl, rfl, by simp [val, vb], ⟨World.ownsRow_nil _ _ _ _, words_nil⟩, Below.refl _ _⟩
  case round =>
    obtain ⟨k, o, hk, rfl, hlen, hval, hown, hB⟩ := hrel
    by_cases hlt : k < M
    · obtain ⟨b1, o1, rfl, _, hc1⟩ := (hrh.below hB).cells (by omega)
      have hca := hc1 (2 * k) (by omega)
      have hcb := hc1 (2 * k + 1) (by omega)
      obtain ⟨hst, hsl⟩ := whole_step hd hval hlen
      obtain ⟨x, hxe⟩ : ∃ x, lim h (2 * k) = x := ⟨_, rfl⟩
      obtain ⟨y, hye⟩ : ∃ y, lim h (2 * k + 1) = y := ⟨_, rfl⟩
      rw [hxe, hye] at hst hsl
      rw [hxe] at hca
      rw [hye] at hcb
      obtain ⟨f1, f2⟩ := whole_facts hsl
      have hcond : (2 * (k : Int) + 1 < (na : Int)) := by omega
      have hx1 : 0 ≤ 2 * (k : Int) ∧ 2 * (k : Int) < (na : Int) := by omega
      have hx2 : 0 ≤ 2 * (k : Int) + 1 ∧ 2 * (k : Int) + 1 < (na : Int) := by omega
      have hx3 : IntKind.i64.wrap (2 * (k : Int) + 1) = 2 * (k : Int) + 1 := by rw [IntKind.wrap_i64]; omega
      have hx4 : (2 * (k : Int)).toNat = 2 * k := by omega
      have hx5 : (2 * (k : Int) + 1).toNat = 2 * k + 1 := by omega
      have hblk := own_block hown
      have HBK := Lib.hid hblk
      obtain ⟨z, hz⟩ : ∃ z, x + H * y = z := ⟨_, rfl⟩
      rw [hz] at f2 hst hsl
      have hown0 := (own_drew hown).below ((Below.refl _ wr.drew).alloc (Nat.le_refl _) (.cells #[u64 z] 27))
      have HO0 := Lib.hid hown0
      have hnew := Lib.hid (cell_one_new wr.drew (u64 z) 27)
      have HST := Lib.hid hst
      have HLN := Lib.hid hlen
      have hol : o.length ≤ 200000 := by omega
      have hBs := hB.size
      clear hc1 hxe hye hown hown0 hblk hst hlen hval hz hd hrh
      go_wp2
      go_region_law (refine step_append_mine rfl _ _ 23 rfl w.heap.size 27 i0 _ 1 8 Try.underlying23 hi0 hz0 hz1 hz2 rfl (by decide) _ _ _ rfl HO0.out.1 ⟨wr.heap.size, 0, none⟩ 1 1 [u64 z] rfl rfl hnew.out (by simp [Value.oneCell']) (by simp only [maxLen]; omega) (by omega) (by simp; omega) ?_; intro v' w3 hown1 hgrow1)
      all_goals
        go_wp2
        go_roundw
        case rel =>
          refine ⟨k + 1, o ++ [z], by omega, by go_num, by rw [List.length_append, HLN.out]; rfl, HST.out, ⟨?_, words_append HO0.out.2 (words_cons hsl words_nil)⟩, ((hB.drew).alloc hBs _).grown hgrow1 (by simp; omega) HBK.out⟩
          rw [List.length_append, List.map_append]; exact hown1
        case measure => simp [intOf]; omega
    · have hkn : k = M := by omega
      have hcond : ¬ (2 * (k : Int) + 1 < (na : Int)) := by omega
      have hv2 : val o = vb H h := by rw [hval, List.take_of_length_le (by rw [hrh.len]; omega)]
      have HV := Lib.hid hv2
      obtain ⟨A', c', rfl⟩ := own_shape hown
      have HLN := Lib.hid hlen
      obtain ⟨_, _, hnc, hcm⟩ := hown.rd
      have hcm2 : c' ≤ 9223372036854775807 := hcm
      have HO := Lib.hid hown
      have hol : o.length ≤ 200000 := by omega
      clear hcm hown hlen hval hv2 hkn hrh hd
      generalize hN : o.length = n at *
      have HN := Lib.hid hN
      clear hN
      go_wp2
      go_loop [3] (fun v => ∃ j : Nat, j ≤ n ∧ v = .slice A' j c' ∧ ∀ i, j ≤ i → lim o i = 0) (fun v => match v with | .slice _ j _ => j | _ => 0)
      case atStart => exact ⟨n, Nat.le_refl _, rfl, fun i hi => lim_past (by rw [HN.out]; exact hi)⟩
      case round =>
        obtain ⟨j, hj, rfl, hzr⟩ := hrel
        by_cases h0 : j = 0
        · subst h0
          have ht : o.take 0 = limbs (val o) := take_limbs HO.out.2 (by omega) (fun h => absurd rfl h) hzr
          have HT := Lib.hid ht
          clear ht hzr
          go_wp2
          go_ret
          refine ⟨_, _, _, rfl, ?_, hB⟩
          rw [← HV.out, ← HT.out]
          exact own_trim HO.out (by omega)
        · obtain ⟨i, rfl⟩ : ∃ i, j = i + 1 := ⟨j - 1, by omega⟩
          obtain ⟨g, rfl, _, _⟩ := own_at HO.out (by omega)
          have hci := (own_cell HO.out (i := i) (by omega)).1
          by_cases hx : lim o i = 0
          · rw [hx] at hci
            have HX := Lib.hid hx
            have HZ := Lib.hid hzr
            have hic : ¬ ((c' : Int) < (i : Int)) := by omega
            clear hx hzr
            go_wp2
            go_round
            case rel => exact ⟨i, by omega, by go_num, fun t ht => by
              rcases Nat.eq_or_lt_of_le ht with rfl | ht
              · exact HX.out
              · exact HZ.out t ht⟩
            case measure => first | omega | (show i < i + 1; omega) | (simp; done)
          · have ht : o.take (i + 1) = limbs (val o) := take_limbs HO.out.2 (by rw [HN.out]; omega) (fun _ => hx) hzr
            have HT := Lib.hid ht
            have hne : ((lim o i : Int) == 0) = false := by simp; omega
            clear ht hzr hx
            go_wp2
            go_ret
            refine ⟨_, _, _, rfl, ?_, hB⟩
            rw [← HV.out, ← HT.out]
            exact own_trim HO.out (by omega)
end
end Go.Proofs.Ytmiobjkbcmicbaa
