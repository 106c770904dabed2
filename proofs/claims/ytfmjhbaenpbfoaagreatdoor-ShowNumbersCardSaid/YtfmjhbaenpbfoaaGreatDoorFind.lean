/- Has a look one of the shapes? -/
import Derived.Test.YtfmjhbaenpbfoaaGreatDoorHas2
namespace Go.Proofs.YtfmjhbaenpbfoaaGreatDoor
open Go.RowKit

abbrev Line := Sh × FuncId × Value
def cellsS : List Line → List Value
  | [] => []
  | p :: l => .int .u8 p.1.kind :: .func (.func p.2.1) #[] #[] :: .int .i64 p.1.low :: .int .i64 p.1.high :: p.2.2 :: cellsS l
theorem cellsS_length (l : List Line) : (cellsS l).length = l.length * 5 := by
  induction l with
  | nil => rfl
  | cons x l ih => simp only [cellsS, List.length_cons, ih]; omega
theorem cellsS_at (l : List Line) : ∀ (i : Nat) (h : i < l.length), (cellsS l)[i * 5]? = some (.int .u8 (l[i]).1.kind) ∧ (cellsS l)[i * 5 + 1]? = some (.func (.func (l[i]).2.1) #[] #[]) ∧ (cellsS l)[i * 5 + 2]? = some (.int .i64 (l[i]).1.low) ∧ (cellsS l)[i * 5 + 3]? = some (.int .i64 (l[i]).1.high) ∧ (cellsS l)[i * 5 + 4]? = some (l[i]).2.2 := by
  induction l with
  | nil => intro i h; cases h
  | cons x l ih =>
    intro i h
    cases i with
    | zero => exact ⟨rfl, rfl, rfl, rfl, rfl⟩
    | succ i =>
      obtain ⟨h1, h2, h3, h4, h5⟩ := ih i (by simpa using h)
      rw [show (i + 1) * 5 = i * 5 + 1 + 1 + 1 + 1 + 1 by omega]
      exact ⟨h1, h2, h3, h4, h5⟩
theorem ShAt.up {B B' : Nat} {w w' : World} {s : Sh} {f : FuncId} {u : Value} (h : ShAt B w s f u) (b : Below B w w') (hB : B ≤ B') : ShAt B' w' s f u := ⟨h.ok, h.clos.up b hB, h.rl, h.kl⟩
/-- The lines, as they lie. -/
structure LinesAt (B : Nat) (w : World) (v : Value) (L : List Line) : Prop where
  sl : ∃ ao c, v = .slice ao L.length c ∧ SlG B w ao (cellsS L)
  each : ∀ p, p ∈ L → ShAt B w p.1 p.2.1 p.2.2
  len : L.length ≤ 1000
theorem LinesAt.up {B B' : Nat} {w w' : World} {v : Value} {L : List Line} (h : LinesAt B w v L) (b : Below B w w') (hB : B ≤ B') : LinesAt B' w' v L := by
  obtain ⟨⟨ao, c, h1, h2⟩, h3, h4⟩ := h
  exact ⟨⟨ao, c, h1, h2.up b hB⟩, fun p hp => (h3 p hp).up b hB, h4⟩
def anyHas (L : List Line) (t : T) : Bool := L.any fun p => p.1.has t.kind t.text t.num t.kids
abbrev lookV (t : T) (v : Value) (ab : Int) : Value := .agg #[.int .u8 t.kind, .string t.text, .int .i64 t.num, .int .i64 t.pos, v, .int .i64 ab]

set_option maxRecDepth 100000 in
set_option maxHeartbeats 2000000 in
theorem findIdx_any (L : List Line) (sv : Value) (t : T) (v : Value) (ab : Int) (w : World) (hs : LinesAt w.heap.size w sv L) (hL : Laid w) (hk : Lies w.heap.size w t v) (hx : t.text.size ≤ 281474976710656) :
    Calls Tryz.prog 78 #[sv, .func (.func 55) #[lookV t v ab] #[]] w fun e w' => ∃ r : Int, e = .returned (.int .i64 r) ∧ decide (0 ≤ r) = anyHas L t ∧ Below w.heap.size w w' := by
  obtain ⟨⟨ao, c, rfl, hsl⟩, hse, hlen⟩ := hs
  have HK := Lib.hid (And.intro hse (And.intro hL (And.intro hk hx)))
  have HS := Lib.hid hsl
  have HE : Hid (anyHas L t = ((L.drop 0).any fun p => p.1.has t.kind t.text t.num t.kids)) := rfl
  obtain ⟨lk, hlk⟩ : ∃ lk, lk = lookV t v ab := ⟨_, rfl⟩
  have HLk := Lib.hid hlk
  rw [← hlk]
  clear hse hL hk hx hsl hlk
  go_enter Tryz.func78, Tryz.ntmps78
  go_wp2_with fail
  go_loopw [8] (fun i wr => ∃ j : Nat, j ≤ L.length ∧ i = .int .i64 j ∧ Hid (anyHas L t = ((L.drop j).any fun p => p.1.has t.kind t.text t.num t.kids)) ∧ Hid (Below w.heap.size w wr)) (fun i _ => L.length - (intOf i).toNat)
  case atStart => exact ⟨0, by omega, rfl, HE, Below.refl _ _⟩
  case round =>
    clear HE
    obtain ⟨j, hj, rfl, HJ, HB⟩ := hrel
    by_cases hlt : j < L.length
    · have hjn : (j : Int) < (L.length : Int) := by omega
      obtain ⟨sb, off, rfl, hsb, hc⟩ := HS.out (by intro e; have := congrArg List.length e; rw [cellsS_length, List.length_nil] at this; omega)
      obtain ⟨d0, d1, d2, d3, d4⟩ := cellsS_at L j hlt
      have e0 := (HB.out.cell (p := ⟨sb, off + j * 5, none⟩) hsb).trans (hc _ _ d0)
      have e1 := (HB.out.cell (p := ⟨sb, off + (j * 5 + 1), none⟩) hsb).trans (hc _ _ d1)
      have e2 := (HB.out.cell (p := ⟨sb, off + (j * 5 + 2), none⟩) hsb).trans (hc _ _ d2)
      have e3 := (HB.out.cell (p := ⟨sb, off + (j * 5 + 3), none⟩) hsb).trans (hc _ _ d3)
      have e4 := (HB.out.cell (p := ⟨sb, off + (j * 5 + 4), none⟩) hsb).trans (hc _ _ d4)
      rw [← Nat.add_assoc] at e1 e2 e3 e4
      have HJ1 : Hid (anyHas L t = ((L[j]).1.has t.kind t.text t.num t.kids || ((L.drop (j + 1)).any fun p => p.1.has t.kind t.text t.num t.kids))) := by
        have := HJ.out
        rw [List.drop_eq_getElem_cons hlt, List.any_cons] at this
        exact this
      have KH : Hid (Calls Tryz.prog 55 #[lk, shV (L[j]).1 (L[j]).2.1 (L[j]).2.2] wr fun e w' => e = .returned (.bool ((L[j]).1.has t.kind t.text t.num t.kids)) ∧ Below wr.heap.size wr w') := by
        rw [HLk.out]
        obtain ⟨h1, h2, h3, h4⟩ := HK.out
        exact has_any _ _ _ t v ab wr ((h1 _ (List.getElem_mem hlt)).up HB.out HB.out.size) (h2.below HB.out) (h3.up HB.out HB.out.size) h4
      clear hc d0 d1 d2 d3 d4 HJ
      generalize L[j] = p at e0 e1 e2 e3 e4 HJ1 KH
      unfold shV at KH
      generalize p.1.has t.kind t.text t.num t.kids = r at HJ1 KH
      generalize p.1.kind = z0 at e0 KH
      generalize p.2.1 = z1 at e1 KH
      generalize p.1.low = z2 at e2 KH
      generalize p.1.high = z3 at e3 KH
      generalize p.2.2 = z4 at e4 KH
      cases r with
      | true =>
        have HR : Hid (anyHas L t = true) := by
          have := HJ1.out
          rw [Bool.true_or] at this
          exact this
        clear HJ1
        go_wp2_with (go_at_call 55; go_must (refine (KH.out).mono ?_; rintro e w3 ⟨rfl, hb3⟩; have HBx := Lib.hid hb3; clear hb3))
        go_ret
        exact ⟨_, rfl, by rw [HR.out]; exact decide_eq_true (by omega), HB.out.trans (HBx.out.mono HB.out.size)⟩
      | false =>
        have HR : Hid (anyHas L t = ((L.drop (j + 1)).any fun p => p.1.has t.kind t.text t.num t.kids)) := by
          have := HJ1.out
          rw [Bool.false_or] at this
          exact this
        clear HJ1
        go_wp2_with (go_at_call 55; go_must (refine (KH.out).mono ?_; rintro e w3 ⟨rfl, hb3⟩; have HBx := Lib.hid (HB.out.trans (hb3.mono HB.out.size)); clear hb3))
        clear KH e0 e1 e2 e3 e4
        go_roundw
        case rel => exact ⟨j + 1, by omega, by go_num, HR, HBx⟩
        case measure => simp [intOf]; omega
    · obtain rfl : j = L.length := by omega
      have HR : Hid (anyHas L t = false) := by
        have := HJ.out
        rw [List.drop_length] at this
        exact this
      clear HJ
      go_wp2_with fail
      go_ret
      exact ⟨_, rfl, by rw [HR.out]; decide, HB.out⟩

theorem finds_any (L : List Line) (sv : Value) (t : T) (v : Value) (ab : Int) (w : World) (hs : LinesAt w.heap.size w sv L) (hL : Laid w) (hk : Lies w.heap.size w t v) (hx : t.text.size ≤ 281474976710656) :
    Calls Tryz.prog 54 #[sv, .func (.func 55) #[lookV t v ab] #[]] w fun e w' => e = .returned (.bool (anyHas L t)) ∧ Below w.heap.size w w' := by
  have K := Lib.hid (findIdx_any L sv t v ab w hs hL hk hx)
  obtain ⟨⟨ao, c, rfl, -⟩, -, -⟩ := hs
  obtain ⟨lk, hlk⟩ : ∃ lk, lk = lookV t v ab := ⟨_, rfl⟩
  rw [← hlk] at K ⊢
  clear hlk
  generalize anyHas L t = r at K ⊢
  go_enter Tryz.func54, Tryz.ntmps54
  go_wp2_with (go_at_call 78; go_must (refine (K.out).mono ?_; rintro e w1 ⟨q, rfl, hr, hb⟩; have HR := Lib.hid (And.intro hr hb); clear hr hb))
  go_ret
  rw [← HR.out.1]
  exact ⟨by simp, HR.out.2⟩
end Go.Proofs.YtfmjhbaenpbfoaaGreatDoor
