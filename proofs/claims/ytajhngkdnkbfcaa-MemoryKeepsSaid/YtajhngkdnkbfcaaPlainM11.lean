/- What Drop and Get are, plainly. -/
import Derived.Test.YtajhngkdnkbfcaaAdd11
import Derived.Test.YtajhngkdnkbfcaaTake11
namespace Go.Proofs.Ytajhngkdnkbfcaa
open Go.RowKit

def hasId (l : List F11) (t : Int) : Bool := l.any fun f => decide (f.id = t)
def lessId (l : List F11) (t : Int) : List F11 := l.filter fun f => decide (f.id ≠ t)
theorem getD_append_left {l m : List F11} {k : Nat} (h : k < l.length) : (l ++ m).getD k default = l.getD k default := by
  rw [List.getD_eq_getElem?_getD, List.getD_eq_getElem?_getD, List.getElem?_append_left h]
theorem mem_getD {l : List F11} {f : F11} (h : f ∈ l) : ∃ k, k < l.length ∧ l.getD k default = f := by
  obtain ⟨k, hk, rfl⟩ := List.getElem_of_mem h
  exact ⟨k, hk, by rw [List.getD_eq_getElem?_getD, List.getElem?_eq_getElem hk]; rfl⟩
theorem getD_mem11 {l : List F11} {k : Nat} (h : k < l.length) : l.getD k default ∈ l := by
  rw [List.getD_eq_getElem?_getD, List.getElem?_eq_getElem h]
  exact List.getElem_mem h
theorem has_of {l : List F11} {t : Int} {k : Nat} (hr : Rise l) (hs : Stands l t k) : hasId l t = hasB l t k := by
  rw [Bool.eq_iff_iff]
  unfold hasId hasB
  rw [List.any_eq_true, decide_eq_true_eq]
  constructor
  · rintro ⟨f, hf, he⟩
    obtain ⟨m, hm, rfl⟩ := mem_getD hf
    have he := of_decide_eq_true he
    have h1 : k ≤ m := by
      apply Classical.byContradiction
      intro hn
      have := hs.lo m (by omega)
      omega
    have hkl : k < l.length := by omega
    refine ⟨hkl, ?_⟩
    rcases Nat.lt_or_ge k m with h2 | h2
    · have a := hr k m h2 hm
      have b := hs.hi k (Nat.le_refl _) hkl
      omega
    · obtain rfl : k = m := by omega
      exact he
  · rintro ⟨h1, h2⟩
    exact ⟨_, getD_mem11 h1, decide_eq_true h2⟩
theorem filter_all {l : List F11} {p : F11 → Bool} (h : ∀ k, k < l.length → p (l.getD k default) = true) : l.filter p = l := by
  rw [List.filter_eq_self]
  intro f hf
  obtain ⟨k, hk, rfl⟩ := mem_getD hf
  exact h k hk
theorem less_of {l : List F11} {t : Int} {k : Nat} (hr : Rise l) (hs : Stands l t k) (hb : hasB l t k = true) : l.take k ++ l.drop (k + 1) = lessId l t := by
  unfold hasB at hb
  obtain ⟨hk, he⟩ := of_decide_eq_true hb
  have hd : l.drop k = l.getD k default :: l.drop (k + 1) := by
    rw [List.getD_eq_getElem?_getD, List.getElem?_eq_getElem hk]
    exact List.drop_eq_getElem_cons hk
  have e : lessId l t = (l.take k).filter (fun f => decide (f.id ≠ t)) ++ (l.drop k).filter (fun f => decide (f.id ≠ t)) := by
    unfold lessId
    rw [← List.filter_append, List.take_append_drop]
  rw [e, hd, List.filter_cons_of_neg (by rw [he]; simp)]
  rw [filter_all (l := l.take k), filter_all (l := l.drop (k + 1))]
  · intro j hj
    rw [List.length_drop] at hj
    have h1 : (l.drop (k + 1)).getD j default = l.getD (k + 1 + j) default := by
      rw [List.getD_eq_getElem?_getD, List.getD_eq_getElem?_getD, List.getElem?_drop]
    rw [h1]
    have := hr k (k + 1 + j) (by omega) (by omega)
    exact decide_eq_true (by omega)
  · intro j hj
    rw [List.length_take] at hj
    have h1 : (l.take k).getD j default = l.getD j default := by
      rw [List.getD_eq_getElem?_getD, List.getD_eq_getElem?_getD, List.getElem?_take_of_lt (by omega)]
    rw [h1]
    have := hs.lo j (by omega)
    exact decide_eq_true (by omega)
theorem rise_filter {l : List F11} (p : F11 → Bool) (h : Rise l) : Rise (l.filter p) := by
  have h' : l.Pairwise fun f g => f.id < g.id := by
    rw [List.pairwise_iff_getElem]
    intro i j hi hj hij
    have := h i j hij hj
    rw [List.getD_eq_getElem?_getD, List.getD_eq_getElem?_getD, List.getElem?_eq_getElem hi, List.getElem?_eq_getElem hj] at this
    exact this
  have h2 := h'.filter p
  intro i j hij hj
  rw [List.pairwise_iff_getElem] at h2
  have := h2 i j (by omega) hj hij
  rw [List.getD_eq_getElem?_getD, List.getD_eq_getElem?_getD, List.getElem?_eq_getElem (by omega), List.getElem?_eq_getElem hj]
  exact this
def dropM (l : List F11) (nx t : Int) : M11 := if hasId l t = true then ⟨.int .i64 0, lessId l t, nx⟩ else ⟨.int .i64 6, l, nx⟩
theorem Mm.less {w W : World} {mb rb : Nat} {ao ao' : Option Addr} {c c' : Nat} {l : List F11} {nx : Int} (t : Int) (h : Mm w mb rb ao c l nx) (hp : Mp W mb rb) (hr : Rw W rb ao' c' (lessId l t) nx) : Mm W mb rb ao' c' (lessId l t) nx :=
  ⟨hp, hr, rise_filter _ h.rise, fun f hf => h.top f ((List.mem_filter.1 hf).1), h.lo, h.hi, fun f hf => h.txt f ((List.mem_filter.1 hf).1)⟩
def findA (l : List F11) (kind : Int) (vs : List V3) : Value := if mayB kind vs = false then .tuple #[.int .i64 0, .bool false] else whoA l kind vs
end Go.Proofs.Ytajhngkdnkbfcaa
