import Derived.Test.YtgiokmfdafmaoaaKVLawW
/- VGuard. -/
/- Rows that came in, and a law's guards. -/
namespace Go.Proofs.Ytgiokmfdafmaoaa
open Go.RowKit Go.Shelf
set_option linter.unusedVariables false
set_option linter.unusedSimpArgs false

/-- A row that came in. -/
structure RV (w : World) (A : Option Addr) (n c : Nat) (L : List ZE) : Prop where
  rd : RdV w A n L
  c1 : n ≤ c
  c2 : c ≤ 9223372036854775807
  nil0 : ∀ e, e ∈ L → e.A = none → e.n = 0 ∧ e.c = 0
theorem RV.below {w w' : World} {A : Option Addr} {n c : Nat} {L : List ZE} (h : RV w A n c L) (hb : Below w.heap.size w w') : RV w' A n c L := ⟨h.rd.below hb, h.c1, h.c2, h.nil0⟩
theorem RV.great {w : World} {A : Option Addr} {n c : Nat} {L : List ZE} (h : RV w A n c L) (many limbs : Nat) : Calls Try.prog 10 #[.slice A n c, .int .i64 (many : Int), .int .i64 (limbs : Int)] w fun e w' => e = .returned (.bool (greatV L many limbs)) ∧ Below w.heap.size w w' :=
  greatV_any h.rd (Nat.le_trans h.c1 h.c2) (fun e he => Nat.le_trans (h.rd.ok e he).c1 (h.rd.ok e he).c2)
theorem RV.great20 {w : World} {A : Option Addr} {n c : Nat} {L : List ZE} (h : RV w A n c L) : Calls Try.prog 10 #[.slice A n c, .int .i64 20, .int .i64 10] w fun e w' => e = .returned (.bool (greatV L 20 10)) ∧ Below w.heap.size w w' := h.great 20 10
theorem RV.great80 {w : World} {A : Option Addr} {n c : Nat} {L : List ZE} (h : RV w A n c L) : Calls Try.prog 10 #[.slice A n c, .int .i64 80, .int .i64 3] w fun e w' => e = .returned (.bool (greatV L 80 3)) ∧ Below w.heap.size w w' := h.great 80 3
theorem RV.v1 {w : World} {A : Option Addr} {n c many limbs : Nat} {L : List ZE} (h : RV w A n c L) (hg : greatV L many limbs = false) (h1 : many ≤ 1000) (h2 : limbs ≤ 60) : V1 w A n c L := by
  obtain ⟨k1, k2⟩ := great_no hg
  rw [h.rd.len] at k1
  exact ⟨h.rd, h.c1, h.c2, by omega, fun e he => Nat.le_trans (k2 e he) h2, h.nil0⟩
/-- A call answered a number, whatever it is, and the error E. -/
def WNum (w : World) (E : Int) (e : Ending) (w' : World) : Prop := ∃ (p : Bool) (A : Option Addr) (n c : Nat), e = .returned (.tuple #[.agg #[.bool p, .slice A n c], .int .i64 E]) ∧ Below w.heap.size w w'
def WRow (w : World) (E : Int) (e : Ending) (w' : World) : Prop := ∃ (A : Option Addr) (n c : Nat), e = .returned (.tuple #[.slice A n c, .int .i64 E]) ∧ Below w.heap.size w w'
theorem VAns.w {w w' : World} {ok : Bool} {n : Nat} {f : Nat → Int} {E F : Int} {e : Ending} (h : VAns w ok n f E e w') (hF : F = if ok then 0 else E) : WRow w F e w' := by
  unfold VAns at h
  cases ok with
  | true =>
    rw [if_pos rfl] at h hF
    subst hF
    obtain ⟨A, c, L, he, hN, hb⟩ := h
    exact ⟨A, n, c, he, hb⟩
  | false =>
    rw [if_neg (by decide)] at h hF
    subst hF
    exact ⟨none, 0, 0, h.1, h.2⟩
section
variable {A A2 B B2 : Option Addr} {n c m d nb cb na ca g1 g2 g3 g4 k : Nat} {L M : List ZE} {w W : World} {z y : Int}
theorem dotW (h : V1 w A n c L) (h2 : V1 w A2 m d M) : Calls Try.prog 11 #[.slice A n c, .slice A2 m d] w (WNum w (twoVE L M)) :=
  (dotV_is A A2 n c m d L M w h h2).mono fun e w' ⟨A', k, c', he, _, hb⟩ => ⟨_, A', k, c', he, hb⟩
theorem addW (h : V1 w A n c L) (h2 : V1 w A2 m d M) : Calls Try.prog 16 #[.slice A n c, .slice A2 m d] w (WRow w (twoVE L M)) :=
  (addV_is A A2 n c m d L M w h h2).mono fun e w' h => h.w (by by_cases hz : twoVE L M = 0 <;> simp [hz])
theorem cmpW (h : V1 w A n c L) (h2 : V1 w A2 m d M) : Calls Try.prog 18 #[.slice A n c, .slice A2 m d] w (IAns w (if twoVE L M = 0 then firstTo (fun i => sgn (zat L i - zat M i)) n else 0) (twoVE L M)) := cmpV_is A A2 n c m d L M w h h2
theorem mixW {p q : Bool} {a b : List Nat} {E : Int} (h : V1 w A n c L) (h2 : V1 w A2 m d M) (ha : Z1 w B na ca a) (hb : Z1 w B2 nb cb b) (la : na ≤ 60) (lb : nb ≤ 60) (hE : E = if mayZ p a && mayZ q b then twoVE L M else 8) : Calls Try.prog 12 #[.agg #[.bool p, .slice B na ca], .slice A n c, .agg #[.bool q, .slice B2 nb cb], .slice A2 m d] w (WRow w E) :=
  (mixV_is A A2 B B2 n c m d na ca nb cb p q a b L M w h h2 ha hb la lb).mono fun e w' h => h.w (by
    rw [hE]
    by_cases hm : (mayZ p a && mayZ q b) = true
    · by_cases hz : twoVE L M = 0 <;> simp [hm, hz]
    · simp [hm])
theorem cmpS {f g : Nat → Int} {s : Int} (h : V1 w A n c L) (h2 : V1 w A2 n d M) (i : IsV L n f) (j : IsV M n g) (hn : n ≤ 64) (e : firstTo (fun i => sgn (f i - g i)) n = s) : Calls Try.prog 18 #[.slice A n c, .slice A2 n d] w (IAns w s 0) := by
  rw [← e]
  exact cmpR h h2 i j hn
theorem sameB (h : V1 w A n c L) (h2 : V1 w A2 m d M) (t : Bool) (hp : keys L = keys M ↔ t = true) : Calls Try.prog 19 #[.slice A n c, .slice A2 m d] w fun e w' => e = .returned (.bool t) ∧ Below w.heap.size w w' := by
  have hc := sameR h h2 hp
  rwa [show decide (t = true) = t by cases t <;> rfl] at hc
theorem zeroB (h : V1 w A n c L) (t : Bool) (hp : noughts L = true ↔ t = true) : Calls Try.prog 20 #[.slice A n c] w fun e w' => e = .returned (.bool t) ∧ Below w.heap.size w w' := by
  have hc := zeroR h hp
  rwa [show decide (t = true) = t by cases t <;> rfl] at hc
end
end Go.Proofs.Ytgiokmfdafmaoaa
