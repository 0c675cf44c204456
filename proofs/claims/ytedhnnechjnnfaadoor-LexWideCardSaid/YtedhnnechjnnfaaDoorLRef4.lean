/- The document's Tokens. -/
import Derived.Test.YtedhnnechjnnfaaDoorLRef3
namespace Go.Proofs.YtedhnnechjnnfaaDoor
open Go.RowKit Go.Shelf
set_option linter.unusedVariables false
set_option linter.unusedSimpArgs false
set_option maxRecDepth 100000 in
set_option maxHeartbeats 2000000 in
theorem rtokens_long (s : ByteArray) (hs : 4096 < s.size) (hs2 : s.size ≤ 9223372036854775807) (w : World) :
    Calls Tryd.prog 11 #[.string s] w (ToksAns s w) := by
  have hsi : (4096 : Int) < (s.size : Int) := by omega
  have hR : toksR s = .error (0, 3) := by unfold toksR; rw [if_pos hs]
  have HR : Hid (ToksAns s w (.returned (.tuple #[.slice none 0 0, .int .i64 0, .int .i64 3])) w) := ⟨.inr ⟨0, 3, hR, rfl⟩, Below.refl _ _⟩
  generalize ToksAns s w = Q at HR
  clear hR hs hs2
  go_enter Tryd.func11, Tryd.ntmps11
  go_wp2_with fail
  refine bodyPost_ret (v := .tuple #[.slice none 0 0, .int .i64 0, .int .i64 3]) (by simp [results, Tryd.results11, go_sem]) rfl ?_
  exact HR.out
/-- What stands ahead of a round. -/
structure RTokRound (s : ByteArray) (w : World) (vl va : Value) (wr : World) where
  q : Nat
  A : Option Addr
  n : Nat
  c : Nat
  L : List LexTok
  el : vl = .slice A n c
  ea : va = .int .i64 (q : Int)
  hq : q ≤ s.size
  bw : Below w.heap.size w wr
  own : OwnT wr w.heap.size A n c L
  few : n ≤ q
  rest : Rest s.data.toList L q
set_option maxRecDepth 100000 in
set_option maxHeartbeats 8000000 in
theorem rtokens_main (s : ByteArray) (hs : s.size ≤ 4096) (w : World) :
    Calls Tryd.prog 11 #[.string s] w (ToksAns s w) := by
  obtain ⟨i0, hi0, hz0, hz1, hz2⟩ := info_parts tok_info
  have hsi : ¬ (4096 : Int) < (s.size : Int) := by omega
  have hR : toksR s = toks s.data.toList 0 := by unfold toksR; rw [if_neg (by omega)]
  have HR := Lib.hid hR
  obtain ⟨Q, hQ⟩ : ∃ Q, ToksAns s w = Q := ⟨_, rfl⟩
  have HQ := Lib.hid hQ
  rw [hQ]
  clear hR hQ
  go_enter Tryd.func11, Tryd.ntmps11
  go_wp2_with fail
  go_loopw [5, 6] (fun vl va wr => Nonempty (RTokRound s w vl va wr)) (fun _ va _ => s.size - (intOf va).toNat)
  case atStart => exact ⟨⟨0, none, 0, 0, [], rfl, rfl, Nat.zero_le _, Below.refl _ _, owne_nil _ _, Nat.le_refl _, rest_start _⟩⟩
  case round =>
    obtain ⟨⟨q, A, n, c, L, rfl, rfl, hq, hB, hO, hfew, hrest⟩⟩ := hrel
    have HBW := Lib.hid hB
    have HO := Lib.hid hO
    have HRE := Lib.hid hrest
    clear hB hO hrest
    by_cases hlt : q < s.size
    · have hqi : (q : Int) < (s.size : Int) := by omega
      have hq0 : (0 : Int) ≤ (q : Int) := by omega
      have hcb := rblank_any (s[q]'hlt)
      have HCL := Lib.hid (lx_at hlt)
      cases hbb : lexB (s[q]'hlt) with
      | true =>
        rw [hbb] at hcb
        have HBB := Lib.hid hbb
        have HCB := Lib.hid hcb
        clear hbb hcb
        go_wp2_with fail
        refine (HCB.out _).mono ?_
        rintro e w2 ⟨rfl, rfl⟩
        go_wp2_with fail
        go_roundw
        case rel => exact ⟨⟨q + 1, A, n, c, L, rfl, by go_num, hlt, HBW.out, HO.out, by omega, HRE.out.blank HCL.out HBB.out⟩⟩
        case measure => simp [intOf]; omega
      | false =>
        rw [hbb] at hcb
        have HBB := Lib.hid hbb
        have HCB := Lib.hid hcb
        have hone := one_any s q hlt hs
        cases ho : oneT (s.data.toList.drop q) with
        | error x =>
          rw [ho] at hone
          have HON := Lib.hid hone
          have HOO := Lib.hid ho
          have hx0 : ¬ x = 0 := (tokenR_err (l := s.data.toList.drop q) (x := x) (by unfold tokenR; rw [ho])).2
          have hxb : (x != 0) = true := by rw [bne_iff_ne]; exact hx0
          clear hbb hcb hone ho
          go_wp2_with fail
          refine (HCB.out _).mono ?_
          rintro e w2 ⟨rfl, rfl⟩
          go_wp2_with fail
          refine (HON.out _).mono ?_
          rintro e w3 ⟨rfl, hb3⟩
          have HB3 := Lib.hid (lx_then HBW.out hb3)
          clear hb3
          unfold oneR tokV
          go_wp2_with fail
          refine bodyPost_ret (v := .tuple #[.slice none 0 0, .int .i64 (q : Int), .int .i64 x]) (by simp [results, Tryd.results11, go_sem]) rfl ?_
          rw [← HQ.out]
          refine ⟨.inr ⟨q, x, by rw [HR.out]; exact HRE.out.bad HCL.out HBB.out HOO.out, rfl⟩, lx_then HB3.out (lx_new _ _)⟩
        | ok kn =>
          obtain ⟨k, n1⟩ := kn
          rw [ho] at hone
          have HON := Lib.hid hone
          have HOO := Lib.hid ho
          obtain ⟨tx, htx⟩ : ∃ tx, bs ((s.data.toList.drop q).take n1) = tx := ⟨_, rfl⟩
          have hn1 := oneT_len ho
          rw [List.length_drop, lx_size] at hn1
          have hsz : tx.size = n1 := by rw [← htx, bs_size, List.length_take, List.length_drop, lx_size]; omega
          have hts : tx.size ≤ 4096 := by omega
          have HTX := Lib.hid htx
          have HN1 := Lib.hid hn1
          have HSZ := Lib.hid hsz
          clear hbb hcb hone ho htx hn1 hsz
          go_wp2_with fail
          refine (HCB.out _).mono ?_
          rintro e w2 ⟨rfl, rfl⟩
          go_wp2_with fail
          refine (HON.out _).mono ?_
          rintro e w3 ⟨rfl, hb3⟩
          unfold oneR tokV
          dsimp only
          rw [HTX.out]
          have hnb : Below w2.heap.size w2 (w3.alloc (tokO k tx q)) := lx_then hb3 (lx_new _ _)
          have hb5 : Below w2.heap.size w2 ((w3.alloc (tokO k tx q)).alloc (.cells #[.int .u8 k, .string tx, .int .i64 (q : Int)] tokT)) := lx_then hnb (lx_new _ _)
          have HOW := Lib.hid (HO.out.below hb5)
          have HO3 := Lib.hid (HO.out.below hb3)
          have HBX := Lib.hid (lx_then HBW.out hb5)
          have hnw := tok_new (w3.alloc (tokO k tx q)) ⟨k, (s.data.toList.drop q).take n1, q⟩ tx HTX.out
          rw [World.size_alloc] at hnw
          have HNW := Lib.hid hnw
          have HGX := Lib.hid (lx_block (lx_made w3 (tokO k tx q)) (lx_new (w3.alloc (tokO k tx q)) (.cells #[.int .u8 k, .string tx, .int .i64 (q : Int)] tokT)))
          clear hb3 hnb hb5 hnw
          have hgw := (Array.getElem?_eq_some_iff.1 HGX.out).1
          have hgne : some w3.heap.size ≠ (Value.slice A n c).ownBlock := fun e => absurd (HO3.out.row.lt w3.heap.size e.symm).2 (Nat.lt_irrefl _)
          have HGN := Lib.hid hgne
          have HGW := Lib.hid hgw
          have HB5 : Hid (w.heap.size ≤ ((w3.alloc (tokO k tx q)).alloc (.cells #[.int .u8 k, .string tx, .int .i64 (q : Int)] tokT)).heap.size) := HBX.out.size
          have hsum : (q : Int) + (tx.size : Int) = ((q + n1 : Nat) : Int) := by have := HSZ.out; omega
          have HSU := Lib.hid hsum
          clear hgne hgw hsum
          go_wp2_with (at_builtin; go_loud (refine wpList_appendK rfl _ _ 22 rfl i0 _ 32 Tryd.underlying22 hi0 hz0 hz1 hz2 rfl (by decide) (by decide) tokCs_len tokCs_one rfl HOW.out ⟨w3.heap.size + 1, 0, none⟩ 1 rfl ⟨k, (s.data.toList.drop q).take n1, q⟩ HNW.out (by omega) HB5.out ?_); intro A5 c5 w5 ho5 hb5 hk5; obtain ⟨g0, g1, g2, z0, z1, z2⟩ := tokAt_of ((hk5 w3.heap.size HGW.out HGN.out).trans HGX.out); clear hk5)
          rw [HSU.out]
          go_roundw
          case rel => exact ⟨⟨q + n1, A5, n + 1, c5, _, rfl, rfl, by have := HN1.out.2; omega, hb5 w HBX.out, ho5, by have := HN1.out.1; omega, HRE.out.tok HCL.out HBB.out HOO.out⟩⟩
          case measure =>
            have h1 := HN1.out
            show s.size - ((q + n1 : Nat) : Int).toNat < s.size - (q : Int).toNat
            rw [Int.toNat_natCast, Int.toNat_natCast]
            omega
    · have hqi : ¬ (q : Int) < (s.size : Int) := by omega
      go_wp2_with fail
      refine bodyPost_ret (v := .tuple #[.slice A n c, .int .i64 0, .int .i64 0]) (by simp [results, Tryd.results11, go_sem]) rfl ?_
      rw [← HQ.out]
      exact ⟨.inl ⟨A, n, c, L, by rw [HR.out]; exact HRE.out.done (by rw [lx_size]; omega), by omega, rfl, HO.out⟩, HBW.out⟩
/-- The document's Tokens, of any text. -/
theorem rtokens_any (s : ByteArray) (hs2 : s.size ≤ 9223372036854775807) (w : World) :
    Calls Tryd.prog 11 #[.string s] w (ToksAns s w) := by
  by_cases h : 4096 < s.size
  · exact rtokens_long s h hs2 w
  · exact rtokens_main s (by omega) w
end Go.Proofs.YtedhnnechjnnfaaDoor
