/- Rows that the call made itself; envs, and a match on its way, as they lie. -/
import Derived.Test.YtnnhgbncghpecaaGreatFillsP10
import Derived.Test.YtnnhgbncghpecaaGreatLentV10
namespace Go.Proofs.YtnnhgbncghpecaaGreat
open Go.RowKit

def cellsB (l : List Bool) : List Value := l.map .bool
theorem cellsB_length (l : List Bool) : (cellsB l).length = l.length := by simp [cellsB]
theorem cellsB_one (l : List Bool) : ∀ u ∈ cellsB l, u.oneCell' = true := by
  intro u hu
  obtain ⟨b, -, rfl⟩ := List.mem_map.1 hu
  rfl
theorem cellsB_get (l : List Bool) (j : Nat) (h : j < l.length) : (cellsB l)[j]? = some (.bool (l.getD j false)) := by
  simp [cellsB, List.getD_eq_getElem?_getD, h]
theorem cellsB_set (l : List Bool) (j : Nat) (b : Bool) : cellsB (l.set j b) = (cellsB l).set j (.bool b) := by simp [cellsB, List.map_set]
theorem infoB : (Tryz.prog.info? 4).map (fun i => (i.zero, i.size, i.bytes)) = some (some (.bool false), 1, 1) := by kernel_rfl
theorem cellsV_get (l : List V3) : ∀ (j : Nat), j < l.length → (cellsV l)[j * 3]? = some (.int .u8 (l.getD j zeroT).1) ∧ (cellsV l)[j * 3 + 1]? = some (.int .i64 (l.getD j zeroT).2.1) ∧ (cellsV l)[j * 3 + 2]? = some (.string (l.getD j zeroT).2.2) := by
  induction l with
  | nil => intro j h; cases h
  | cons x l ih =>
    intro j h
    match j with
    | 0 => exact ⟨rfl, rfl, rfl⟩
    | j + 1 =>
      have := ih j (by simpa using h)
      rw [show (j + 1) * 3 = j * 3 + 1 + 1 + 1 by omega]
      simpa [cellsV] using this
theorem cellsV_set (l : List V3) (x : V3) : ∀ (j : Nat), cellsV (l.set j x) = (((cellsV l).set (j * 3) (.int .u8 x.1)).set (j * 3 + 1) (.int .i64 x.2.1)).set (j * 3 + 2) (.string x.2.2) := by
  induction l with
  | nil => intro j; rfl
  | cons y l ih =>
    intro j
    match j with
    | 0 => rfl
    | j + 1 =>
      rw [List.set_cons_succ, cellsV, cellsV, ih j, show (j + 1) * 3 = j * 3 + 1 + 1 + 1 by omega]
      rfl
abbrev aggV (v : V3) : Value := .agg #[.int .u8 v.1, .int .i64 v.2.1, .string v.2.2]
/-- An argument's five cells. -/
def cellsA : List A10 → List Value
  | [] => []
  | a :: l => .int .u8 a.kind :: .int .i64 a.var :: .int .u8 a.val.1 :: .int .i64 a.val.2.1 :: .string a.val.2.2 :: cellsA l
abbrev aggA (a : A10) : Value := .agg #[.int .u8 a.kind, .int .i64 a.var, .int .u8 a.val.1, .int .i64 a.val.2.1, .string a.val.2.2]
theorem cellsA_length (l : List A10) : (cellsA l).length = l.length * 5 := by
  induction l with
  | nil => rfl
  | cons x l ih => simp only [cellsA, List.length_cons, ih]; omega
theorem cellsA_append (l m : List A10) : cellsA (l ++ m) = cellsA l ++ cellsA m := by
  induction l with
  | nil => rfl
  | cons x l ih => simp only [cellsA, List.cons_append, ih]
theorem cellsA_at (l : List A10) : ∀ (i : Nat) (h : i < l.length), (cellsA l)[i * 5]? = some (.int .u8 (l[i]).kind) ∧ (cellsA l)[i * 5 + 1]? = some (.int .i64 (l[i]).var) ∧ (cellsA l)[i * 5 + 2]? = some (.int .u8 (l[i]).val.1) ∧ (cellsA l)[i * 5 + 3]? = some (.int .i64 (l[i]).val.2.1) ∧ (cellsA l)[i * 5 + 4]? = some (.string (l[i]).val.2.2) := by
  induction l with
  | nil => intro i h; cases h
  | cons x l ih =>
    intro i h
    match i with
    | 0 => exact ⟨rfl, rfl, rfl, rfl, rfl⟩
    | i + 1 =>
      have := ih i (by simpa using h)
      rw [show (i + 1) * 5 = i * 5 + 1 + 1 + 1 + 1 + 1 by omega]
      simpa [cellsA] using this

/-- A slice of these cells, below B: n elements. -/
structure Sl10 (B : Nat) (w : World) (n : Nat) (ao : Option Addr) (c : Nat) (cs : List Value) : Prop where
  row : SlG B w ao cs
  nil : ao = none → n = 0 ∧ c = 0
  cap : n ≤ c
  top : c ≤ maxLen
theorem Sl10.up {B B' : Nat} {w w' : World} {n : Nat} {ao : Option Addr} {c : Nat} {cs : List Value} (h : Sl10 B w n ao c cs) (b : Below B w w') (hB : B ≤ B') : Sl10 B' w' n ao c cs := ⟨h.row.up b hB, h.nil, h.cap, h.top⟩
/-- An env, as it was handed in: below B. -/
structure Env10 (B : Nat) (w : World) (e : E10) (ho : Option Addr) (hc : Nat) (vo : Option Addr) (vc : Nat) : Prop where
  has : Sl10 B w e.1.length ho hc (cellsB e.1)
  vals : Sl10 B w e.2.length vo vc (cellsV e.2)
theorem Env10.up {B B' : Nat} {w w' : World} {e : E10} {ho : Option Addr} {hc : Nat} {vo : Option Addr} {vc : Nat} (h : Env10 B w e ho hc vo vc) (b : Below B w w') (hB : B ≤ B') : Env10 B' w' e ho hc vo vc := ⟨h.has.up b hB, h.vals.up b hB⟩
abbrev aggE (e : E10) (ho : Option Addr) (hc : Nat) (vo : Option Addr) (vc : Nat) : Value := .agg #[.slice ho e.1.length hc, .slice vo e.2.length vc]
/-- An env of one's own. -/
structure Own10 (base : Nat) (w : World) (e : E10) (hv vv : Value) : Prop where
  has : w.ownsRow base 4 1 hv e.1.length (cellsB e.1)
  vals : w.ownsRow base 27 3 vv e.2.length (cellsV e.2)
theorem Own10.old {base : Nat} {w w' : World} {e : E10} {hv vv : Value} (h : Own10 base w e hv vv) (b : Below w.heap.size w w') : Own10 base w' e hv vv := ⟨owns_below h.has b, owns_below h.vals b⟩
theorem ne_block {w : World} {b1 b2 : Nat} {c1 c2 : Array Value} {t1 t2 : TypeId} {f1 f2 : Nat × Nat} (h1 : w.heap[b1]? = some (.cells c1 t1 f1)) (h2 : w.heap[b2]? = some (.cells c2 t2 f2)) (h : t1 ≠ t2) : b1 ≠ b2 := by
  rintro rfl
  rw [h1] at h2
  injection h2 with h2
  injection h2 with _ h3 _
  exact h h3
/-- A slice's three parts, and where it lies. -/
theorem owns_at {base : Nat} {w : World} {e size n : Nat} {v : Value} {xs : List Value} (h : w.ownsRow base e size v n xs) (hn : 0 < n) : ∃ g cap cur, v = .slice (some ⟨g, 0, none⟩) n cap ∧ base ≤ g ∧ w.heap[g]? = some (.cells cur e (0, 0)) ∧ n ≤ cap ∧ cap ≤ maxLen ∧ (∀ j, j < n * size → w.cell? ⟨g, j, none⟩ = xs[j]?) := by
  rcases h.2 with ⟨rfl, rfl⟩ | ⟨g, cap, cur, rfl, hb, hg, hnc, hcm, hcs, htk⟩
  · omega
  · exact ⟨g, cap, cur, rfl, hb, hg, hnc, hcm, fun j hj => h.cellAt j hj⟩
end Go.Proofs.YtnnhgbncghpecaaGreat
