/- A reader's place: what is left of its bytes; take and spoil. -/
import Derived.Test.YtmocfielcllfmaaDoorBase
namespace Go.Proofs.YtmocfielcllfmaaDoor
open Go.RowKit

/-- What is left, and whether the reader is bad. -/
abbrev St := List UInt8 × Bool
def badS : St := ([], true)
def takeS (n : Nat) (s : St) : List UInt8 × St := if n ≤ s.1.length then (s.1.take n, (s.1.drop n, s.2)) else ([], badS)

/-- A slice that holds bytes, away from the block pb. -/
def Cut (w : World) (pb B : Nat) (ao : Option Addr) (l : List UInt8) (c : Nat) : Prop :=
  l.length ≤ c ∧ c ≤ maxLen ∧ (ao = none → c = 0) ∧ (0 < l.length → ∃ sb off, ao = some ⟨sb, off, none⟩ ∧ sb ≠ pb ∧ sb < B ∧ ∀ j, (h : j < l.length) → w.cell? ⟨sb, off + j, none⟩ = some (.int .u8 ((l[j]).toNat : Int)))

theorem Cut.fr {w w' : World} {pb B : Nat} {ao : Option Addr} {l : List UInt8} {c : Nat} (h : Cut w pb B ao l c) (f : Fr pb w w') : Cut w' pb B ao l c := by
  obtain ⟨h1, h2, h3, h4⟩ := h
  refine ⟨h1, h2, h3, fun hl => ?_⟩
  obtain ⟨sb, off, e, ne, lb, hc⟩ := h4 hl
  exact ⟨sb, off, e, ne, lb, fun j hj => f.cell (hc j hj) ne⟩

theorem Cut.nil (w : World) (pb B : Nat) : Cut w pb B none [] 0 := ⟨Nat.le_refl _, Nat.zero_le _, fun _ => rfl, fun h => absurd h (Nat.lt_irrefl _)⟩

/-- The place pb. -/
def PlS (w : World) (pb B : Nat) (s : St) : Prop :=
  ∃ ao c, w.heap[pb]? = some (.cells #[.slice ao s.1.length c, .bool s.2] 97 (0, 0)) ∧ Cut w pb B ao s.1 c

theorem lt_of_heap {w : World} {b : Nat} {o : Obj} (h : w.heap[b]? = some o) : b < w.heap.size := (Array.getElem?_eq_some_iff.1 h).1

/-- What take answers, and leaves. -/
def TakeP (r : List UInt8 × St) (pb B : Nat) (w : World) (e : Ending) (w' : World) : Prop :=
  ∃ ao c, e = .returned (.slice ao r.1.length c) ∧ Cut w' pb B ao r.1 c ∧ PlS w' pb B r.2 ∧ Fr pb w w'

theorem spoil_any (pb B : Nat) (s : St) (w : World) (h : PlS w pb B s) :
    Calls Tryd.prog 102 #[.pointer (some ⟨pb, 0, none⟩)] w fun e w' => e = .returned (.tuple #[]) ∧ PlS w' pb B badS ∧ Fr pb w w' := by
  obtain ⟨ao, c, hp, hc⟩ := h
  have c0 : w.cell? ⟨pb, 0, none⟩ = some (.slice ao s.1.length c) := Lib.cell_of_heap hp 0
  have c1 : w.cell? ⟨pb, 1, none⟩ = some (.bool s.2) := Lib.cell_of_heap hp 1
  have f0 : w.frozen? ⟨pb, 0, none⟩ = false := Lib.frozen_of_heap hp 0
  have f1 : w.frozen? ⟨pb, 1, none⟩ = false := Lib.frozen_of_heap hp 1
  have HP := Lib.hid hp
  clear hp hc
  go_enter Tryd.func102, Tryd.ntmps102
  go_wp2
  first | go_end0 | go_ret
  have h1 := Lib.heap_setCell_same (i := 0) HP.out (.slice none 0 0)
  have h2 := Lib.heap_setCell_same (i := 1) h1 (.bool true)
  exact ⟨rfl, ⟨none, 0, h2, Cut.nil _ _ _⟩, ((Fr.refl pb w).set 0 _).set 1 _⟩

theorem take_any (pb B n : Nat) (s : St) (w : World) (hn : n ≤ 9223372036854775807) (h : PlS w pb B s) :
    Calls Tryd.prog 99 #[.pointer (some ⟨pb, 0, none⟩), .int .i64 n] w (TakeP (takeS n s) pb B w) := by
  obtain ⟨l, b⟩ := s
  have hpl := h
  obtain ⟨ao, c, hp, hc⟩ := h
  simp only at hp hc
  have c0 : w.cell? ⟨pb, 0, none⟩ = some (.slice ao l.length c) := Lib.cell_of_heap hp 0
  have f0 : w.frozen? ⟨pb, 0, none⟩ = false := Lib.frozen_of_heap hp 0
  by_cases hle : n ≤ l.length
  · have ht : takeS n (l, b) = (l.take n, (l.drop n, b)) := if_pos hle
    rw [ht]
    obtain ⟨g1, g2, g3, g4⟩ := hc
    have hd : decide ((l.length : Int) < (n : Int)) = false := by simp; omega
    have hd' : decide (l.length < n) = false := by simp; omega
    have hnc : n ≤ c := by omega
    have HP := Lib.hid hp
    have HL := Lib.hid hpl
    have H4 := Lib.hid g4
    have HT := Lib.hid ht
    clear hp hpl g4 ht
    unfold maxLen at g2
    cases ao with
    | none =>
      obtain rfl := g3 rfl
      obtain rfl : n = 0 := by omega
      have hl : l = [] := List.eq_nil_of_length_eq_zero (by omega)
      subst hl
      clear g3
      go_enter Tryd.func99, Tryd.ntmps99
      go_wp2
      go_ret
      exact ⟨none, 0, rfl, Cut.nil _ _ _, ⟨none, 0, Lib.heap_setCell_same (i := 0) HP.out _, Cut.nil _ _ _⟩, (Fr.refl pb w).set 0 _⟩
    | some ad =>
      clear g3
      by_cases hcn : c = n
      · obtain rfl : l.length = n := by omega
        subst hcn
        rw [List.take_length, List.drop_length]
        go_enter Tryd.func99, Tryd.ntmps99
        go_wp2
        go_ret
        refine ⟨some ad, l.length, rfl, Cut.fr ⟨Nat.le_refl _, by unfold maxLen; omega, by simp, H4.out⟩ ((Fr.refl pb w).set 0 _), ⟨some ad, 0, Lib.heap_setCell_same (i := 0) HP.out _, ⟨Nat.le_refl _, Nat.zero_le _, by simp, fun h => absurd h (Nat.lt_irrefl _)⟩⟩, (Fr.refl pb w).set 0 _⟩
      · have hl1 : (l.take n).length = n := by rw [List.length_take]; omega
        have hl2 : (l.drop n).length = l.length - n := List.length_drop
        have HCN := Lib.hid hcn
        have F1 : ∀ v, Cut (w.setCell ⟨pb, 0, none⟩ v) pb B (some ad) (l.take n) c := fun v => Cut.fr ⟨by rw [hl1]; omega, by unfold maxLen; omega, by simp, fun hl => by
          obtain ⟨sb, off, e, ne, lb, hcs⟩ := H4.out (by omega)
          refine ⟨sb, off, e, ne, lb, fun j hj => ?_⟩
          rw [hl1] at hj
          rw [List.getElem_take]
          exact hcs j (by omega)⟩ ((Fr.refl pb w).set 0 _)
        have F2 : ∀ v, Cut (w.setCell ⟨pb, 0, none⟩ v) pb B (some (ad.add n)) (l.drop n) (c - n) := fun v => Cut.fr ⟨by rw [hl2]; omega, by unfold maxLen; omega, by simp, fun hl => by
          obtain ⟨sb, off, e, ne, lb, hcs⟩ := H4.out (by omega)
          obtain rfl := Option.some.inj e
          refine ⟨sb, off + n, by rw [Addr.add_lit], ne, lb, fun j hj => ?_⟩
          rw [hl2] at hj
          rw [List.getElem_drop, Nat.add_assoc]
          exact hcs (n + j) (by omega)⟩ ((Fr.refl pb w).set 0 _)
        have F1' := Lib.hid F1
        have F2' := Lib.hid F2
        have E1 := Lib.hid hl1
        have E2 := Lib.hid hl2
        clear F1 F2 hl1 hl2
        have K1 : (l.length : Int) - (n : Int) = ((l.length - n : Nat) : Int) := by omega
        have K2 : (c : Int) - (n : Int) = ((c - n : Nat) : Int) := by omega
        go_enter Tryd.func99, Tryd.ntmps99
        go_wp2
        go_ret
        refine ⟨some ad, c, congrArg (fun m => Ending.returned (.slice (some ad) m c)) E1.out.symm, F1'.out _, ⟨some (ad.add n), c - n, ?_, F2'.out _⟩, (Fr.refl pb w).set 0 _⟩
        have hs := Lib.heap_setCell_same (i := 0) HP.out (.slice (some (ad.add n)) (l.length - n) (c - n))
        rw [E2.out]
        exact hs
  · have ht : takeS n (l, b) = ([], badS) := if_neg hle
    rw [ht]
    have hd : decide ((l.length : Int) < (n : Int)) = true := by simp; omega
    have hlt : (l.length : Int) < (n : Int) := by omega
    have HL := Lib.hid hpl
    have HT := Lib.hid ht
    clear hp hc hpl ht
    go_enter Tryd.func99, Tryd.ntmps99
    go_wp2_with (go_at_call 102; refine (spoil_any pb B (l, b) w HL.out).mono ?_; rintro e w' ⟨rfl, h1, h2⟩)
    go_ret
    exact ⟨none, 0, rfl, Cut.nil _ _ _, h1, h2⟩
end Go.Proofs.YtmocfielcllfmaaDoor
