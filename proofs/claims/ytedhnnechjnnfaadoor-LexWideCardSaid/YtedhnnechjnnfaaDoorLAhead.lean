/- lex: ahead. -/
import Derived.Test.YtedhnnechjnnfaaDoorLNumb
import Derived.Laws.Strings3
import Derived.Laws.DeepStrings4
import Derived.Lib.TrimU
namespace Go.Proofs.YtedhnnechjnnfaaDoor
open Go.RowKit Go.Shelf
set_option linter.unusedVariables false
set_option linter.unusedSimpArgs false

theorem bs_extract (s : ByteArray) (a b : Nat) : s.extract a b = bs ((s.data.toList.drop a).take (b - a)) := by
  apply ByteArray.ext
  rw [ByteArray.data_extract]
  apply Array.ext'
  rw [Array.toList_extract]
  unfold bs
  simp [List.extract_eq_take_drop]
theorem lx_at {s : ByteArray} {k : Nat} (h : k < s.size) : s.data.toList[k]? = some (s[k]'h) := by
  rw [List.getElem?_eq_getElem (by simpa using h)]
  rfl
theorem lx_size (s : ByteArray) : s.data.toList.length = s.size := by simp
/-- What a loop over a text has gone over. -/
def Gone (p : UInt8 → Bool) (s : ByteArray) (pos : Nat) : Prop := ∀ j c, j < pos → s.data.toList[j]? = some c → p c = true
theorem gone_end {p : UInt8 → Bool} {s : ByteArray} {pos : Nat} (h : Gone p s pos) (hp : pos ≤ s.size) (he : pos = s.size ∨ ∃ c, s.data.toList[pos]? = some c ∧ p c = false) : s.data.toList.takeWhile p = s.data.toList.take pos := by
  have h1 := lex_over (p := p) pos 0 s.data.toList (by rw [lx_size]; omega) (fun j c hj hc => h j c hj (by rw [Nat.zero_add] at hc; exact hc)) (by rw [lx_size, Nat.zero_add]; exact he)
  exact h1.1
theorem Gone.step {p : UInt8 → Bool} {s : ByteArray} {pos : Nat} (h : Gone p s pos) (hl : pos < s.size) (hc : p (s[pos]'hl) = true) : Gone p s (pos + 1) := by
  intro j c hj hcc
  rcases Nat.lt_or_ge j pos with h1 | h1
  · exact h j c h1 hcc
  · obtain rfl : j = pos := by omega
    rw [lx_at hl] at hcc
    cases hcc
    exact hc
set_option maxRecDepth 100000 in
set_option maxHeartbeats 2000000 in
theorem ahead_any (B : Nat) (s : ByteArray) (hs : s.size ≤ 1000000) (v : Value) (p : UInt8 → Bool) (w : World) (hm : MarkIs B w v p) (hp128 : ∀ c : UInt8, 128 ≤ c.toNat → p c = false) :
    Calls Tryd.prog 25 #[.string s, v] w fun e w' => e = .returned (.string (bs (s.data.toList.takeWhile p))) ∧ Below w.heap.size w w' := by
  obtain ⟨F, caps, rfl, hE, hF⟩ := hm.out
  have HF := Lib.hid hF
  have HP := Lib.hid hp128
  clear hF hm hp128
  generalize hR : bs (s.data.toList.takeWhile p) = R
  have HR := Lib.hid hR
  clear hR
  go_enter Tryd.func25, Tryd.ntmps25
  go_wp2
  go_loopw [] (fun wr => ∃ pos : Nat, pos ≤ s.size ∧ wr.heap[w.heap.size]? = some (.stringIter s pos) ∧ Below w.heap.size w wr ∧ Gone p s pos) (fun wr => s.size - wr.iterPos w.heap.size)
  case atStart => exact ⟨0, Nat.zero_le _, World.iter_heap w s 0, (Below.refl _ w).alloc (Nat.le_refl _) _, fun j c hj => absurd hj (by omega)⟩
  case round =>
    obtain ⟨pos, hp, hit, hB, hgo⟩ := hrel
    have HMU : Hid (wr.iterPos w.heap.size = pos) := by
      unfold World.iterPos
      rw [hit]
      exact rfl
    by_cases hlt : pos < s.size
    · have hnx : ∀ ty, (Instr.next (.pointer (some ⟨w.heap.size, 0, none⟩)) true ty).run Tryd.prog wr = _ := fun ty => Lib.run_next_any_at wr w.heap.size s pos ty hit hlt
      have hge := Lib.rune_le s pos
      have hbw2 := Lib.below_iterAt hB (k := w.heap.size) (Nat.le_refl _) s (pos + (Utf8.decode s pos).2)
      have hit2 := Lib.iterAt_heap wr w.heap.size s pos (pos + (Utf8.decode s pos).2) hit
      have hcase : (∃ q, (s[pos]'hlt).toNat < 128 ∧ Utf8.decode s pos = (((s[pos]'hlt).toNat), 1) ∧ q = ()) ∨ 128 ≤ (s[pos]'hlt).toNat := by
        rcases Nat.lt_or_ge (s[pos]'hlt).toNat 128 with h | h
        · exact .inl ⟨(), h, decode_ascii s pos hlt h, rfl⟩
        · exact .inr h
      have hrun : runeB p (Utf8.decode s pos).1 = p (s[pos]'hlt) := by
        rcases hcase with ⟨_, h1, h2, _⟩ | h1
        · rw [h2]; exact runeB_low h1
        · rw [runeB_high (decode_high s pos hlt h1).1, HP.out _ h1]
      have hone : p (s[pos]'hlt) = true → (Utf8.decode s pos).2 = 1 := by
        intro h
        rcases hcase with ⟨_, h1, h2, _⟩ | h1
        · rw [h2]
        · rw [HP.out _ h1] at h; cases h
      obtain ⟨X, hX⟩ : ∃ X, (Utf8.decode s pos).1 = X := ⟨_, rfl⟩
      obtain ⟨K, hK⟩ : ∃ K, (Utf8.decode s pos).2 = K := ⟨_, rfl⟩
      rw [hX] at hrun hge
      rw [hK] at hone hbw2 hit2
      rw [hX, hK] at hnx
      obtain ⟨W, hW⟩ : ∃ W, wr.iterAt w.heap.size s (pos + K) = W := ⟨_, rfl⟩
      rw [hW] at hnx hbw2 hit2
      have hc := HF.out W X hge (kept_below hbw2)
      rw [hrun] at hc
      have HG := Lib.hid hgo
      have HIT := Lib.hid hit2
      have HBW := Lib.hid hbw2
      have HON := Lib.hid hone
      have hpi : (0 : Int) ≤ (pos : Int) := by omega
      have hpj : (pos : Int) ≤ (s.size : Int) := by omega
      clear hcase hrun hit hB hgo hit2 hbw2 hW hX hK hone hge
      cases hpp : p (s[pos]'hlt) with
      | true =>
        rw [hpp] at hc
        have HPP := Lib.hid hpp
        clear hpp
        go_wp2_with (go_at_fn F; refine hc.mono ?_; rintro e W' ⟨rfl, hb2⟩)
        go_roundw
        case rel => exact ⟨pos + 1, hlt, by rw [← HON.out HPP.out]; exact lx_block HIT.out hb2, lx_then HBW.out hb2, HG.out.step hlt HPP.out⟩
        case measure =>
          have h1 : W'.iterPos w.heap.size = pos + 1 := by
            unfold World.iterPos
            rw [lx_block HIT.out hb2, HON.out HPP.out]
          rw [HMU.out, h1]
          omega
      | false =>
        rw [hpp] at hc
        have HPP := Lib.hid hpp
        clear hpp
        go_wp2_with (go_at_fn F; refine hc.mono ?_; rintro e W' ⟨rfl, hb2⟩)
        go_ret
        refine ⟨?_, lx_then HBW.out hb2⟩
        rw [← HR.out, gone_end HG.out hp (.inr ⟨_, lx_at hlt, HPP.out⟩)]
        have h1 : s.extract 0 pos = bs (s.data.toList.take pos) := by rw [bs_extract]; rfl
        rw [← h1]
        rfl
    · have hnx : ∀ ty, (Instr.next (.pointer (some ⟨w.heap.size, 0, none⟩)) true ty).run Tryd.prog wr = _ := fun ty => Lib.run_next_end_at wr w.heap.size s pos ty hit hlt
      have HG := Lib.hid hgo
      have HBW := Lib.hid hB
      clear hgo hB
      go_wp2
      go_ret
      refine ⟨?_, HBW.out⟩
      have hpe : pos = s.size := by omega
      rw [← HR.out, gone_end HG.out hp (.inl hpe), hpe, ← lx_size, List.take_length, bs_of]
      rfl
end Go.Proofs.YtedhnnechjnnfaaDoor
