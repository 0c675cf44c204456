/- lex: Tokens. -/
import Derived.Test.YtedhnnechjnnfaaDoorLToks
namespace Go.Proofs.YtedhnnechjnnfaaDoor
open Go.RowKit Go.Shelf
set_option linter.unusedVariables false
set_option linter.unusedSimpArgs false
theorem lx_far {w : World} {g i g2 i2 : Nat} {v : Value} (h : w.cell? ⟨g2, i2, none⟩ = some v) (hne : g2 ≠ g) (u : Value) : (w.setCell ⟨g, i, none⟩ u).cell? ⟨g2, i2, none⟩ = some v := by
  rw [World.cell?_of_block (w := w) (Below.heap_setCell w ⟨g, i, none⟩ u g2 hne)]
  exact h
theorem lx_far3 {w : World} {g g2 i2 : Nat} {v : Value} (h : w.cell? ⟨g2, i2, none⟩ = some v) (hne : g2 ≠ g) (a b c : Value) : (((w.setCell ⟨g, 0, none⟩ a).setCell ⟨g, 1, none⟩ b).setCell ⟨g, 2, none⟩ c).cell? ⟨g2, i2, none⟩ = some v := lx_far (lx_far (lx_far h hne a) hne b) hne c
/-- Such a block, stored anew. -/
theorem tok_set {w : World} {g : Nat} {k : Int} {s : ByteArray} {a : Int} (h : w.heap[g]? = some (tokO k s a)) (k2 : Int) (s2 : ByteArray) (a2 : Int) : (((w.setCell ⟨g, 0, none⟩ (.int .u8 k2)).setCell ⟨g, 1, none⟩ (.string s2)).setCell ⟨g, 2, none⟩ (.int .i64 a2)).heap[g]? = some (tokO k2 s2 a2) := by
  have h1 := heap_setCell_same w g 0 _ _ (.int .u8 k2) h
  have h2 := heap_setCell_same _ g 1 _ _ (.string s2) h1
  have h3 := heap_setCell_same _ g 2 _ _ (.int .i64 a2) h2
  rw [h3]
  rfl
/-- What stands ahead of a round: the row that there is, where the token ahead ends, where the loop stands. -/
structure TokRound (s : ByteArray) (WM : World) (vl ve : Value) (wr : World) where
  pos : Nat
  en : Nat
  A : Option Addr
  n : Nat
  c : Nat
  L : List LexTok
  el : vl = .slice A n c
  ee : ve = .int .i64 (en : Int)
  hp : pos ≤ s.size
  he : en ≤ s.size
  it : wr.heap[WM.heap.size]? = some (.stringIter s pos)
  bw : Below WM.heap.size WM wr
  own : OwnT wr (WM.heap.size + 1) A n c L
  few : n ≤ pos
  rest : Rest s.data.toList L (max pos en)
  low : ∀ j c, pos ≤ j → j < en → s.data.toList[j]? = some c → c.toNat < 128
set_option maxRecDepth 100000 in
set_option maxHeartbeats 8000000 in
theorem tokens_main (s : ByteArray) (hs : s.size ≤ 4096) (w : World) (hV : LexVars w) :
    Calls Tryd.prog 7 #[.string s] w (ToksAns s w) := by
  obtain ⟨i0, hi0, hz0, hz1, hz2⟩ := info_parts tok_info
  have hsi : ¬ (4096 : Int) < (s.size : Int) := by omega
  have hR : toksR s = toks s.data.toList 0 := by unfold toksR; rw [if_neg (by omega)]
  unfold ToksAns
  rw [hR]
  clear hR
  have HV := Lib.hid hV
  clear hV
  go_enter Tryd.func7, Tryd.ntmps7
  go_wp2_with fail
  refine (allMarks_any _).mono ?_
  rintro e w1 ⟨v, rfl, m1, b1⟩
  obtain ⟨vb, vd, vp, rfl, mb, md, mp⟩ := m1.out
  obtain ⟨Fb, kb, rfl⟩ := mb.shape
  obtain ⟨Fd, kd, rfl⟩ := md.shape
  obtain ⟨Fp, kp, rfl⟩ := mp.shape
  have hn1 := lx_new w1 (.cells #[Value.func (.func Fb) #[] kb, Value.func (.func Fd) #[] kd, Value.func (.func Fp) #[] kp] 37)
  have hbm := lx_made w1 (.cells #[Value.func (.func Fb) #[] kb, Value.func (.func Fd) #[] kd, Value.func (.func Fp) #[] kp] 37)
  have hms : (w1.alloc (.cells #[Value.func (.func Fb) #[] kb, Value.func (.func Fd) #[] kd, Value.func (.func Fp) #[] kp] 37)).heap.size = w1.heap.size + 1 := World.size_alloc ..
  have HVM := Lib.hid ((HV.out.later b1).later hn1)
  have HMM := Lib.hid (m1.later hn1)
  have HMB := Lib.hid (mb.later hn1)
  have HBM := Lib.hid hbm
  have HBW := Lib.hid (lx_then b1 hn1)
  have HMS := Lib.hid hms
  have hst : (w1.alloc (.cells #[Value.func (.func Fb) #[] kb, Value.func (.func Fd) #[] kd, Value.func (.func Fp) #[] kp] 37)).heap[w1.heap.size]? = _ := hbm
  clear mb md mp m1 hn1 hbm hst b1
  go_wp2_with fail
  obtain ⟨WM, hWM⟩ : ∃ WM, w1.alloc (.cells #[Value.func (.func Fb) #[] kb, Value.func (.func Fd) #[] kd, Value.func (.func Fp) #[] kp] 37) = WM := ⟨_, rfl⟩
  rw [hWM] at hms HVM HMM HMB HBM HBW HMS
  rw [hWM]
  go_loopw [2, 6] (fun vl ve wr => Nonempty (TokRound s WM vl ve wr)) (fun _ _ wr => s.size - wr.iterPos (w1.heap.size + 1))
  case atStart =>
    refine ⟨⟨0, 0, none, 0, 0, [], rfl, rfl, Nat.zero_le _, Nat.zero_le _, World.iter_heap WM s 0, (Below.refl _ WM).alloc (Nat.le_refl _) _, owne_nil _ _, Nat.le_refl _, rest_start _, fun j c h1 h2 => absurd h2 (by omega)⟩⟩
  case round =>
    obtain ⟨⟨pos, en, A, n, c, L, rfl, rfl, hp, he, hit, hB, hO, hfew, hrest, hlow⟩⟩ := hrel
    rw [HMS.out] at hit
    have hit0 := hit
    have HMU : Hid (wr.iterPos (w1.heap.size + 1) = pos) := by
      unfold World.iterPos
      rw [hit]
      exact rfl
    have hbx := lx_block HBM.out hB
    clear hms hWM
    by_cases hlt : pos < s.size
    · have hnx : ∀ ty, (Instr.next (.pointer (some ⟨w1.heap.size + 1, 0, none⟩)) true ty).run Tryd.prog wr = _ := fun ty => Lib.run_next_any_at wr (w1.heap.size + 1) s pos ty hit hlt
      have hge := Lib.rune_le s pos
      have hbw2 := Lib.below_iterAt hB (k := w1.heap.size + 1) (by rw [HMS.out]; exact Nat.le_refl _) s (pos + (Utf8.decode s pos).2)
      have hit2 := Lib.iterAt_heap wr (w1.heap.size + 1) s pos (pos + (Utf8.decode s pos).2) hit
      have hO2 := hO.iterAt hit (pos + (Utf8.decode s pos).2)
      have hrun : ∀ p : UInt8 → Bool, (∀ c : UInt8, 128 ≤ c.toNat → p c = false) → runeB p (Utf8.decode s pos).1 = p (s[pos]'hlt) := by
        intro p hp128
        rcases Nat.lt_or_ge (s[pos]'hlt).toNat 128 with h | h
        · rw [decode_ascii s pos hlt h]; exact runeB_low h
        · rw [runeB_high (decode_high s pos hlt h).1, hp128 _ h]
      have hone : (s[pos]'hlt).toNat < 128 → (Utf8.decode s pos).2 = 1 := by
        intro h
        rw [decode_ascii s pos hlt h]
      have hrb := hrun lexB (fun c h => by unfold lexB; rw [decide_eq_false_iff_not]; omega)
      obtain ⟨X, hX⟩ : ∃ X, (Utf8.decode s pos).1 = X := ⟨_, rfl⟩
      obtain ⟨K, hK⟩ : ∃ K, (Utf8.decode s pos).2 = K := ⟨_, rfl⟩
      rw [hX] at hrb hge
      rw [hK] at hone hbw2 hit2 hO2
      rw [hX, hK] at hnx
      obtain ⟨W, hW⟩ : ∃ W, wr.iterAt (w1.heap.size + 1) s (pos + K) = W := ⟨_, rfl⟩
      rw [hW] at hnx hbw2 hit2 hO2
      clear hrun hX hK hW hit0 hbx
      have HIT := Lib.hid hit2
      have HBW2 := Lib.hid hbw2
      have HO2 := Lib.hid hO2
      have HON := Lib.hid hone
      have HRB := Lib.hid hrb
      have HRE := Lib.hid hrest
      have HLO := Lib.hid hlow
      have hcl := lx_at hlt
      have HCL := Lib.hid hcl
      clear hit hB hO hit2 hbw2 hO2 hone hrb hrest hlow hcl
      by_cases hpe : pos < en
      · have h128 : (s[pos]'hlt).toNat < 128 := HLO.out pos _ (Nat.le_refl _) hpe HCL.out
        have hK1 : K = 1 := HON.out h128
        have hpi : (pos : Int) < (en : Int) := by omega
        have HK1 := Lib.hid hK1
        clear hK1 h128
        go_wp2_with fail
        go_roundw
        case rel =>
          refine ⟨⟨pos + 1, en, A, n, c, L, rfl, rfl, hlt, he, (by have h1 := HIT.out; rw [HK1.out] at h1; rw [HMS.out]; exact h1), HBW2.out, HO2.out, by omega, ?_, fun j c h1 h2 h3 => HLO.out j c (by omega) h2 h3⟩⟩
          have e1 : max (pos + 1) en = max pos en := by omega
          rw [e1]
          exact HRE.out
        case measure =>
          have h1 : W.iterPos (w1.heap.size + 1) = pos + 1 := by
            unfold World.iterPos
            rw [HIT.out, HK1.out]
          rw [HMU.out, h1]
          omega
      · have hpi : ¬ (pos : Int) < (en : Int) := by omega
        have hmx : max pos en = pos := by omega
        have HRE2 : Hid (Rest s.data.toList L pos) := by
          have h1 := HRE.out
          rw [hmx] at h1
          exact h1
        obtain ⟨cb, yb⟩ := lx_cells (lx_block HBM.out HBW2.out) (i := 0) (v := .func (.func Fb) #[] kb) rfl
        obtain ⟨Fb2, kb2, eb, hEb, hFb⟩ := HMB.out.out
        cases eb
        have hcb := hFb W X hge (kept_below HBW2.out)
        rw [HRB.out] at hcb
        clear hFb hmx hpe
        cases hbb : lexB (s[pos]'hlt) with
        | true =>
          rw [hbb] at hcb
          have HBB := Lib.hid hbb
          clear hbb
          go_wp2_with (go_at_fn Fb; refine hcb.mono ?_; rintro e W2 ⟨rfl, hb2⟩)
          have hK1 : K = 1 := HON.out (by have h1 := HBB.out; unfold lexB at h1; have h2 := of_decide_eq_true h1; omega)
          have HK1 := Lib.hid hK1
          clear hK1
          go_roundw
          case rel =>
            refine ⟨⟨pos + 1, en, A, n, c, L, rfl, rfl, hlt, he, (by have h1 := lx_block HIT.out hb2; rw [HK1.out] at h1; rw [HMS.out]; exact h1), lx_then HBW2.out hb2, HO2.out.below hb2, by omega, ?_, fun j c h1 h2 h3 => HLO.out j c (by omega) h2 h3⟩⟩
            have e1 : max (pos + 1) en = pos + 1 := by omega
            rw [e1]
            exact HRE2.out.blank HCL.out HBB.out
          case measure =>
            have h1 : W2.iterPos (w1.heap.size + 1) = pos + 1 := by
              unfold World.iterPos
              rw [lx_block HIT.out hb2, HK1.out]
            rw [HMU.out, h1]
            omega
        | false =>
          rw [hbb] at hcb
          have HBB := Lib.hid hbb
          clear hbb
          have hdl : (s.extract pos s.size).data.toList = s.data.toList.drop pos := by
            rw [bs_extract, bs_list, List.take_of_length_le]
            rw [List.length_drop, lx_size]
            omega
          have hts : (s.extract pos s.size).size ≤ 1000000 := by
            rw [← lx_size, hdl, List.length_drop, lx_size]
            omega
          obtain ⟨sx, hsx⟩ : ∃ sx, s.extract pos s.size = sx := ⟨_, rfl⟩
          rw [hsx] at hdl hts
          obtain ⟨R, hR⟩ : ∃ R, tokenR sx.data.toList = R := ⟨_, rfl⟩
          have htk : ∀ W', KeptFrom (w.heap.size + 1) WM W' → LexVars W' → Calls Tryd.prog 17 #[.agg #[Value.func (.func Fb) #[] kb, Value.func (.func Fd) #[] kd, Value.func (.func Fp) #[] kp], .string sx] W' fun e w' => e = .returned (tokR R) ∧ Below W'.heap.size W' w' := fun W' hW' hV' => by
            obtain ⟨x1, x2, x3, e1, y1, y2, y3⟩ := HMM.out.out
            have h1 := token_any (w.heap.size + 1) sx hts _ W' hV' ⟨x1, x2, x3, e1, y1.kept hW', y2.kept hW', y3.kept hW'⟩
            rw [hR] at h1
            exact h1
          have HTK := Lib.hid htk
          have HDL := Lib.hid hdl
          have HRR := Lib.hid hR
          have HSX := Lib.hid hsx
          have hpj : (pos : Int) ≤ (s.size : Int) := by omega
          have hp0 : (0 : Int) ≤ (pos : Int) := by omega
          clear hdl hts hR htk hsx
          go_wp2_with (go_at_fn Fb; refine hcb.mono ?_; rintro e W2 ⟨rfl, hb2⟩)
          have HIT2 := Lib.hid (lx_block HIT.out hb2)
          have HBW3 := Lib.hid (lx_then HBW2.out hb2)
          have HO3 := Lib.hid (HO2.out.below hb2)
          have hbx3 := lx_block HBM.out HBW3.out
          obtain ⟨m0, y0⟩ := lx_cells hbx3 (i := 0) (v := .func (.func Fb) #[] kb) rfl
          obtain ⟨m1, y1⟩ := lx_cells hbx3 (i := 1) (v := .func (.func Fd) #[] kd) rfl
          obtain ⟨m2, y2⟩ := lx_cells hbx3 (i := 2) (v := .func (.func Fp) #[] kp) rfl
          have hml : w1.heap.size < W2.heap.size := Lib.lt_of_cell m0
          have hdz : Below W2.heap.size W2 (W2.alloc (tokO 0 ⟨#[]⟩ 0)).drew := (lx_new W2 (tokO 0 ⟨#[]⟩ 0)).drew
          have mz0 := lx_cell m0 hdz hml
          have mz1 := lx_cell m1 hdz hml
          have mz2 := lx_cell m2 hdz hml
          have d0 : W2.drew.cell? ⟨w1.heap.size, 0, none⟩ = some (.func (.func Fb) #[] kb) := m0
          have d1 : W2.drew.cell? ⟨w1.heap.size, 1, none⟩ = some (.func (.func Fd) #[] kd) := m1
          have d2 : W2.drew.cell? ⟨w1.heap.size, 2, none⟩ = some (.func (.func Fp) #[] kp) := m2
          have my0 : (W2.drew.alloc (tokO 0 ⟨#[]⟩ 0)).cell? ⟨w1.heap.size, 0, none⟩ = some (.func (.func Fb) #[] kb) := mz0
          have my1 : (W2.drew.alloc (tokO 0 ⟨#[]⟩ 0)).cell? ⟨w1.heap.size, 1, none⟩ = some (.func (.func Fd) #[] kd) := mz1
          have my2 : (W2.drew.alloc (tokO 0 ⟨#[]⟩ 0)).cell? ⟨w1.heap.size, 2, none⟩ = some (.func (.func Fp) #[] kp) := mz2
          have n0 := True.intro
          have n1 := True.intro
          have n2 := True.intro
          have hn3 := True.intro
          have HTZ := Lib.hid (lx_made W2 (tokO 0 ⟨#[]⟩ 0))
          have HCA := Lib.hid (HTK.out (W2.alloc (tokO 0 ⟨#[]⟩ 0)).drew (kept_below (lx_then HBW3.out hdz)) (HVM.out.later (lx_then HBW3.out hdz)))
          have HCB := Lib.hid (HTK.out W2.drew (kept_below (lx_then HBW3.out (Below.refl _ W2).drew)) (HVM.out.later (lx_then HBW3.out (Below.refl _ W2).drew)))
          have HDZ := Lib.hid hdz
          have hsl : ∀ w', (Instr.slice 9 (.string s) (some (.int .i64 (pos : Int))) none none).run Tryd.prog w' = .ok (.string sx) w' := fun w' => by
            rw [run_slice_string_from_if _ _ _ _ _ Tryd.underlying9, if_pos ⟨hp0, hpj⟩, Int.toNat_natCast, HSX.out]
          clear hb2 hcb cb yb hbx3 hdz
          cases R with
          | error x =>
            unfold tokR tokV at HCA HCB
            go_wp2_with fail
            go_region_held3 (fun w' => w'.cell? ⟨w1.heap.size, 0, none⟩ = some (.func (.func Fb) #[] kb) ∧ w'.cell? ⟨w1.heap.size, 1, none⟩ = some (.func (.func Fd) #[] kd) ∧ w'.cell? ⟨w1.heap.size, 2, none⟩ = some (.func (.func Fp) #[] kp))
              (first
                | (with_reducible exact ⟨d0, d1, d2⟩)
                | (with_reducible exact ⟨mz0, mz1, mz2⟩)
                | (with_reducible exact ⟨my0, my1, my2⟩)
                | (with_reducible exact ⟨n0, n1, n2⟩)
                | (with_reducible exact ⟨lx_far3 n0 (Nat.ne_of_lt hml) _ _ _, lx_far3 n1 (Nat.ne_of_lt hml) _ _ _, lx_far3 n2 (Nat.ne_of_lt hml) _ _ _⟩)
                | (with_reducible exact ⟨lx_cell n0 (lx_new _ _) hn3, lx_cell n1 (lx_new _ _) hn3, lx_cell n2 (lx_new _ _) hn3⟩)
                | go_keep)
              (first
                | (go_at_call 17; (with_reducible refine Calls.mono HCA.out ?_); rintro e w3 ⟨rfl, hb3⟩; obtain ⟨c0, c1, c2, z0, z1, z2⟩ := tokAt_of (lx_block (w := (W2.alloc (tokO 0 ⟨#[]⟩ 0)).drew) HTZ.out hb3); clear n0 n1 n2 hn3; have n0 := lx_cell mz0 hb3 (Lib.lt_of_cell mz0); have n1 := lx_cell mz1 hb3 (Lib.lt_of_cell mz0); have n2 := lx_cell mz2 hb3 (Lib.lt_of_cell mz0); have hn3 := Lib.lt_of_cell n0)
                | (go_at_call 17; (with_reducible refine Calls.mono HCB.out ?_); rintro e w3 ⟨rfl, hb3⟩; clear n0 n1 n2 hn3; have n0 := lx_cell d0 hb3 (Lib.lt_of_cell d0); have n1 := lx_cell d1 hb3 (Lib.lt_of_cell d0); have n2 := lx_cell d2 hb3 (Lib.lt_of_cell d0); have hn3 := Lib.lt_of_cell n0))
            all_goals first
              | (have h9 : Below W2.heap.size W2 w3 := lx_then HDZ.out hb3; have hfin := tok_below h9 (Nat.le_refl _) (.int .u8 0) (.string ⟨#[]⟩) (.int .i64 0))
              | (have h9 : Below W2.heap.size W2 w3 := lx_then ((Below.refl _ W2).drew) hb3; have hfin := lx_then h9 (lx_new w3 (tokO 0 ⟨#[]⟩ 0)))
            all_goals
              have HFI := Lib.hid (lx_then HBW3.out hfin)
              obtain ⟨hoo, hx0⟩ := tokenR_err HRR.out
              rw [HDL.out] at hoo
              have HOO := Lib.hid hoo
              have hxb : (x != 0) = true := by rw [bne_iff_ne]; exact hx0
              clear hfin h9 hb3 hoo hsl m0 m1 m2 n0 n1 n2 hn3 d0 d1 d2 mz0 mz1 mz2 my0 my1 my2
              go_wp2_with fail
              refine bodyPost_ret (v := .tuple #[.slice none 0 0, .int .i64 (pos : Int), .int .i64 x]) (by simp [results, Tryd.results7, go_sem]) rfl ?_
              exact ⟨.inr ⟨pos, x, HRE2.out.bad HCL.out HBB.out HOO.out, rfl⟩, HBW.out.trans (HFI.out.mono HBW.out.size)⟩
          | ok kt =>
            obtain ⟨k, tx⟩ := kt
            unfold tokR tokV at HCA HCB
            go_wp2_with fail
            go_region_held3 (fun w' => w'.cell? ⟨w1.heap.size, 0, none⟩ = some (.func (.func Fb) #[] kb) ∧ w'.cell? ⟨w1.heap.size, 1, none⟩ = some (.func (.func Fd) #[] kd) ∧ w'.cell? ⟨w1.heap.size, 2, none⟩ = some (.func (.func Fp) #[] kp))
              (first
                | (with_reducible exact ⟨d0, d1, d2⟩)
                | (with_reducible exact ⟨mz0, mz1, mz2⟩)
                | (with_reducible exact ⟨my0, my1, my2⟩)
                | (with_reducible exact ⟨n0, n1, n2⟩)
                | (with_reducible exact ⟨lx_far3 n0 (Nat.ne_of_lt hml) _ _ _, lx_far3 n1 (Nat.ne_of_lt hml) _ _ _, lx_far3 n2 (Nat.ne_of_lt hml) _ _ _⟩)
                | (with_reducible exact ⟨lx_cell n0 (lx_new _ _) hn3, lx_cell n1 (lx_new _ _) hn3, lx_cell n2 (lx_new _ _) hn3⟩)
                | go_keep)
              (first
                | (go_at_call 17; (with_reducible refine Calls.mono HCA.out ?_); rintro e w3 ⟨rfl, hb3⟩; obtain ⟨c0, c1, c2, z0, z1, z2⟩ := tokAt_of (lx_block (w := (W2.alloc (tokO 0 ⟨#[]⟩ 0)).drew) HTZ.out hb3); clear n0 n1 n2 hn3; have n0 := lx_cell mz0 hb3 (Lib.lt_of_cell mz0); have n1 := lx_cell mz1 hb3 (Lib.lt_of_cell mz0); have n2 := lx_cell mz2 hb3 (Lib.lt_of_cell mz0); have hn3 := Lib.lt_of_cell n0)
                | (go_at_call 17; (with_reducible refine Calls.mono HCB.out ?_); rintro e w3 ⟨rfl, hb3⟩; clear n0 n1 n2 hn3; have n0 := lx_cell d0 hb3 (Lib.lt_of_cell d0); have n1 := lx_cell d1 hb3 (Lib.lt_of_cell d0); have n2 := lx_cell d2 hb3 (Lib.lt_of_cell d0); have hn3 := Lib.lt_of_cell n0))
            all_goals first
              | (have h9 : Below W2.heap.size W2 w3 := lx_then HDZ.out hb3; have hfin := tok_below h9 (Nat.le_refl _) (.int .u8 k) (.string tx) (.int .i64 0); have hgx : (((w3.setCell ⟨W2.heap.size, 0, none⟩ (.int .u8 k)).setCell ⟨W2.heap.size, 1, none⟩ (.string tx)).setCell ⟨W2.heap.size, 2, none⟩ (.int .i64 0)).heap[W2.heap.size]? = some (tokO k tx 0) := tok_set (lx_block (w := (W2.alloc (tokO 0 ⟨#[]⟩ 0)).drew) HTZ.out hb3) k tx 0; generalize hW3 : (((w3.setCell ⟨W2.heap.size, 0, none⟩ (.int .u8 k)).setCell ⟨W2.heap.size, 1, none⟩ (.string tx)).setCell ⟨W2.heap.size, 2, none⟩ (.int .i64 0)) = W3 at *; obtain ⟨GX, hgl, hge⟩ : ∃ g, W2.heap.size ≤ g ∧ g = W2.heap.size := ⟨_, Nat.le_refl _, rfl⟩; rw [← hge] at hgx; rw [← hge]; clear hge hW3)
              | (have h9 : Below W2.heap.size W2 w3 := lx_then ((Below.refl _ W2).drew) hb3; have hfin := lx_then h9 (lx_new w3 (tokO k tx 0)); have hgx := lx_made w3 (tokO k tx 0); generalize hW3 : w3.alloc (tokO k tx 0) = W3 at *; obtain ⟨GX, hgl, hge⟩ : ∃ g, W2.heap.size ≤ g ∧ g = w3.heap.size := ⟨_, h9.size, rfl⟩; rw [← hge] at hgx; rw [← hge]; clear hge hW3)
            all_goals
              clear m0 m1 m2 n0 n1 n2 hn3 d0 d1 d2 mz0 mz1 mz2 my0 my1 my2
              obtain ⟨c0, c1, c2, z0, z1, z2⟩ := tokAt_of hgx
              obtain ⟨n1, hoo, htx⟩ := tokenR_ok HRR.out
              rw [HDL.out] at hoo htx
              have hn1 := oneT_len hoo
              rw [List.length_drop, lx_size] at hn1
              have hsz : tx.size = n1 := by rw [htx, bs_size, List.length_take, List.length_drop, lx_size]; omega
              have hts : tx.size ≤ 4096 := by omega
              have hsum : (pos : Int) + (tx.size : Int) = ((pos + n1 : Nat) : Int) := by omega
              have HOO := Lib.hid hoo
              have HTX := Lib.hid htx
              have HN1 := Lib.hid hn1
              have HSZ := Lib.hid hsz
              have HSU := Lib.hid hsum
              have HFI := Lib.hid hfin
              have HGX := Lib.hid hgx
              have HGL := Lib.hid hgl
              have hb5 : Below W2.heap.size W2 ((W3.setCell ⟨GX, 2, none⟩ (.int .i64 (pos : Int))).alloc (.cells #[.int .u8 k, .string tx, .int .i64 (pos : Int)] tokT)) := (hfin.setCell (p := ⟨GX, 2, none⟩) hgl _).alloc (by rw [size_set]; exact hfin.size) _
              have HOW := Lib.hid (HO3.out.below hb5)
              have HBX := Lib.hid hb5
              have hnw := tok_new (W3.setCell ⟨GX, 2, none⟩ (.int .i64 (pos : Int))) ⟨k, (s.data.toList.drop pos).take n1, pos⟩ tx htx.symm
              rw [size_set] at hnw
              have HNW := Lib.hid hnw
              have HB5 : Hid (WM.heap.size + 1 ≤ ((W3.setCell ⟨GX, 2, none⟩ (.int .i64 (pos : Int))).alloc (.cells #[.int .u8 k, .string tx, .int .i64 (pos : Int)] tokT)).heap.size) := by
                have h1 := (lx_then HBW3.out hb5).size
                have h2 := (Array.getElem?_eq_some_iff.1 HIT2.out).1
                have h3 := hb5.size
                have h4 := HMS.out
                show _ ≤ _
                omega
              clear hfin h9 hb3 hoo htx hn1 hsz hsum hsl hgx hgl hb5 hnw
              go_wp2_with (at_builtin; go_loud (refine wpList_appendE rfl _ _ 22 rfl i0 _ 32 Tryd.underlying22 hi0 hz0 hz1 hz2 rfl (by decide) (by decide) tokCs_len tokCs_one rfl HOW.out ⟨W3.heap.size, 0, none⟩ 1 rfl ⟨k, (s.data.toList.drop pos).take n1, pos⟩ HNW.out (by omega) HB5.out ?_); intro A5 c5 w5 ho5 hb5)
              have hK1 : K = 1 := HON.out (oneT_low HOO.out _ (mem_piece (Nat.le_refl _) (by have := HN1.out.1; omega) HCL.out))
              have hrefl := hb5 _ (Below.refl (WM.heap.size + 1) _)
              have hit5 : w5.heap[w1.heap.size + 1]? = some (.stringIter s (pos + K)) := (hrefl.block (w1.heap.size + 1) (by rw [HMS.out]; exact Nat.lt_succ_self _)).trans (lx_block HIT2.out HBX.out)
              have hbw5 : Below WM.heap.size WM w5 := (lx_then HBW3.out HBX.out).trans (hrefl.mono (Nat.le_succ _))
              rw [hK1] at hit5
              go_roundw
              case rel =>
                refine ⟨⟨pos + 1, pos + n1, A5, n + 1, c5, _, rfl, by rw [HSU.out], hlt, by have := HN1.out.2; omega, by rw [HMS.out]; exact hit5, hbw5, ho5, by omega, ?_, fun j c h1 h2 h3 => oneT_low HOO.out _ (mem_piece (Nat.le_of_succ_le h1) h2 h3)⟩⟩
                have e1 : max (pos + 1) (pos + n1) = pos + n1 := by have := HN1.out.1; omega
                rw [e1]
                exact HRE2.out.tok HCL.out HBB.out HOO.out
              case measure =>
                have h1 : w5.iterPos (w1.heap.size + 1) = pos + 1 := by
                  unfold World.iterPos
                  rw [hit5]
                rw [HMU.out, h1]
                omega
    · have HRE := Lib.hid hrest
      have HO := Lib.hid hO
      have HB := Lib.hid hB
      have hnx : ∀ ty, (Instr.next (.pointer (some ⟨w1.heap.size + 1, 0, none⟩)) true ty).run Tryd.prog wr = _ := fun ty => Lib.run_next_end_at wr (w1.heap.size + 1) s pos ty hit hlt
      clear hit hit0 hrest hO hB hlow hbx
      go_wp2
      refine bodyPost_ret (v := .tuple #[.slice A n c, .int .i64 0, .int .i64 0]) (by simp [results, Tryd.results7, go_sem]) rfl ?_
      have hd := HRE.out.done (by rw [lx_size]; omega)
      exact ⟨.inl ⟨A, n, c, L, hd, by omega, rfl, HO.out.mono (by have h1 := HBW.out.size; omega)⟩, HBW.out.trans (HB.out.mono HBW.out.size)⟩
set_option maxRecDepth 100000 in
set_option maxHeartbeats 2000000 in
theorem tokens_long (s : ByteArray) (hs : 4096 < s.size) (hs2 : s.size ≤ 9223372036854775807) (w : World) :
    Calls Tryd.prog 7 #[.string s] w (ToksAns s w) := by
  have hsi : (4096 : Int) < (s.size : Int) := by omega
  have hR : toksR s = .error (0, 3) := by unfold toksR; rw [if_pos hs]
  have HR : Hid (ToksAns s w (.returned (.tuple #[.slice none 0 0, .int .i64 0, .int .i64 3])) w) := ⟨.inr ⟨0, 3, hR, rfl⟩, Below.refl _ _⟩
  generalize ToksAns s w = Q at HR
  clear hR hs hs2
  go_enter Tryd.func7, Tryd.ntmps7
  go_wp2_with fail
  refine bodyPost_ret (v := .tuple #[.slice none 0 0, .int .i64 0, .int .i64 3]) (by simp [results, Tryd.results7, go_sem]) rfl ?_
  exact HR.out
/-- lex.Tokens, of any text. -/
theorem tokens_any (s : ByteArray) (hs2 : s.size ≤ 9223372036854775807) (w : World) (hV : LexVars w) :
    Calls Tryd.prog 7 #[.string s] w (ToksAns s w) := by
  by_cases h : 4096 < s.size
  · exact tokens_long s h hs2 w
  · exact tokens_main s (by omega) w hV
end Go.Proofs.YtedhnnechjnnfaaDoor
