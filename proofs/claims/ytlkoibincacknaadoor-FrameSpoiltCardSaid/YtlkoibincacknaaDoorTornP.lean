/- Beginnings of rows; how many frames are whole in a beginning. -/
import Derived.Test.YtlkoibincacknaaDoorAwake
import Derived.Test.YtlkoibincacknaaDoorPick
namespace Go.Proofs.YtlkoibincacknaaDoor
open Go.RowKit

theorem SlG.pre {B : Nat} {w : World} {ao : Option Addr} {xs ys : List Value} (h : SlG B w ao (xs ++ ys)) : SlG B w ao xs := fun hne => by
  obtain ⟨sb, off, e, lt, hc⟩ := h (by simp [hne])
  refine ⟨sb, off, e, lt, fun j u hj => hc j u ?_⟩
  rw [List.getElem?_append_left (List.getElem?_eq_some_iff.1 hj).1]
  exact hj
theorem SlG.takeB {B : Nat} {w : World} {ao : Option Addr} {l : List UInt8} (h : SlG B w ao (bcells l)) (n : Nat) : SlG B w ao (bcells (l.take n)) := by
  have e : bcells l = bcells (l.take n) ++ bcells (l.drop n) := by rw [← bcells_append, List.take_append_drop]
  rw [e] at h
  exact h.pre
theorem SlFr.take {B : Nat} {w : World} {ao : Option Addr} {l : List FR} (h : SlFr B w ao l) (n : Nat) : SlFr B w ao (l.take n) := by
  obtain ⟨ps, rfl, h2, h3⟩ := h
  have e : cellsFr ps = cellsFr (ps.take n) ++ cellsFr (ps.drop n) := by rw [← cellsFr_append, List.take_append_drop]
  rw [e] at h2
  exact ⟨ps.take n, by rw [List.map_take], h2.pre, fun p hp => h3 p (List.mem_of_mem_take hp)⟩

theorem lenF_take (l : List FR) (j : Nat) (h : j < l.length) : lenF (l.take (j + 1)) = lenF (l.take j) + 9 + (l[j]).2.length := by
  unfold lenF
  rw [flat_take l j h, List.length_append, frB_length]
  omega
theorem lenF_take_le (l : List FR) (j : Nat) : lenF (l.take j) ≤ lenF l := by
  have e : l.flatMap frB = (l.take j).flatMap frB ++ (l.drop j).flatMap frB := by rw [← List.flatMap_append, List.take_append_drop]
  unfold lenF
  rw [e, List.length_append]
  omega
theorem whole_step (l : List FR) (j cut : Nat) (h : j < l.length) (hl : lenF (l.take j) + 9 + (l[j]).2.length ≤ cut) (hw : wholeF l cut = j + wholeF (l.drop j) (cut - lenF (l.take j))) : wholeF l cut = (j + 1) + wholeF (l.drop (j + 1)) (cut - lenF (l.take (j + 1))) := by
  rw [hw, List.drop_eq_getElem_cons h, lenF_take l j h]
  conv => lhs; unfold wholeF
  rw [if_pos (by omega), show cut - lenF (l.take j) - (9 + (l[j]).2.length) = cut - (lenF (l.take j) + 9 + (l[j]).2.length) by omega]
  omega
theorem whole_stop (l : List FR) (j cut : Nat) (h : j < l.length) (h0 : lenF (l.take j) ≤ cut) (hl : ¬ lenF (l.take j) + 9 + (l[j]).2.length ≤ cut) (hw : wholeF l cut = j + wholeF (l.drop j) (cut - lenF (l.take j))) : wholeF l cut = j := by
  rw [hw, List.drop_eq_getElem_cons h]
  conv => lhs; unfold wholeF
  rw [if_neg (by omega)]
  rfl
theorem whole_end (l : List FR) (cut : Nat) (hw : wholeF l cut = l.length + wholeF (l.drop l.length) (cut - lenF (l.take l.length))) : wholeF l cut = l.length := by
  rw [hw, List.drop_length]
  rfl
theorem scan_all (l : List FR) (h : OkFs l) : scanP (l.flatMap frB) = (l, lenF l, false) := by
  have := scan_put l h []
  rw [List.append_nil, scan_nil, List.append_nil] at this
  exact this
theorem ok_of_put {l : List FR} (h : (putF l).2 = 0) : OkFs l := by
  induction l with
  | nil => exact fun f hf => by cases hf
  | cons f l ih =>
    unfold putF at h
    split at h
    · rename_i h0
      exact absurd h h0
    · rename_i h0
      split at h
      · rename_i h1
        exact absurd h h1
      · rename_i h1
        intro g hg
        rcases List.mem_cons.1 hg with rfl | hg
        · exact Classical.byContradiction fun hh => h0 hh
        · exact ih (Classical.byContradiction fun hh => h1 hh) g hg
theorem put_back (b : List UInt8) : putF (scanP b).1 = (b.take (scanP b).2.1, 0) := by
  obtain ⟨h1, h2, h3⟩ := scan_back (b.length + 1) b (by omega)
  rw [putF_ok _ h1, h3]
end Go.Proofs.YtlkoibincacknaaDoor
