/- The document's reader: its state, and the next bytes. -/
import Derived.Test.YtmocfielcllfmaaDoorLentB
import Derived.Deep.RegionLaw
import Derived.Laws.AppendOwnNone
namespace Go.Proofs.YtmocfielcllfmaaDoor
open Go.RowKit

/-- append to a row of one's own, wherever the source lies, as a step of a drawn region. -/
theorem step_append_any {P : Program} {ops : Array Oper} {o : Oper} {a : Act} {w : World} {K : Act → World → Prop} {Q : Exit → Act → World → Prop} {E : Prop}
    (hg : o.guard = none) (s x : Operand) (t : TypeId) (hop : o.op = Op.call { callee := Callee.builtin Builtin.append, args := #[s, x], argTypes := #[t, t] })
    (base : Nat) (e : TypeId) (i : TypeInfo) (z : Value) (size bytes : Nat) (ht : P.underlying t = some (.slice e)) (hi : P.info? e = some i) (hz : i.zero = some z) (hsize : i.size = size) (hby : i.bytes = bytes) (hzs : z.cells.size = size) (hsz : 0 < size)
    (v : Value) (n : Nat) (xs : List Value) (hs : a.eval s = v) (hown : w.ownsRow base e size v n xs) (ao : Option Addr) (m c : Nat) (news : List Value) (hx : a.eval x = .slice ao m c) (hl : news.length = m * size)
    (hnone : ao = none → m = 0 ∧ c = 0) (hnews : ∀ ad, ao = some ad → ∀ j u, news[j]? = some u → w.cell? (ad.add j) = some u) (h1 : ∀ u ∈ news, u.oneCell' = true)
    (h63 : n + m ≤ maxLen) (hbytes : (n + m) * bytes ≤ 140737488355328) (hbase : base ≤ w.heap.size)
    (hK : ∀ v' w', w'.ownsRow base e size v' (n + m) (xs ++ news) → w.grownBy w' v.ownBlock → K (a.put o.dst v') w') :
    if Region.wanted o (yielded ops a.tmps) = true then Oper.wp P o a w K Q else E := by
  have hw : Region.wanted o (yielded ops a.tmps) = true := by simp [Region.wanted, hg]
  rw [if_pos hw]
  cases ao with
  | some ad => exact wp_append_own w s x t hop base e i z size bytes ht hi hz hsize hby hzs hsz v n xs hs hown ad m c news hx hl (hnews ad rfl) h1 h63 hbytes hbase fun v' w' h2 h3 _ => hK v' w' h2 h3
  | none =>
    obtain ⟨rfl, rfl⟩ := hnone rfl
    have hn : news = [] := List.eq_nil_of_length_eq_zero (by simpa using hl)
    subst hn
    have hrun := run_append_owned_none (P := P) (w := w) base t o.type e i size ht hi v n xs hown
    unfold Oper.wp
    simp [execOp, hop, resolve, invoke, builtin, hs, hx, hrun, Result.andThen]
    exact hK v w (by simpa using hown) (World.grownBy.refl _ _)

/-- The document's reader at D, of bytes l0 that lie below B. -/
structure RfS (w : World) (D B : Nat) (ao : Option Addr) (l0 : List UInt8) (c : Nat) (s : St) : Prop where
  ex : ∃ (k : Nat) (b : Bool), w.heap[D]? = some (.cells #[.slice ao l0.length c, .int .i64 k, .bool b] 35 (0, 0)) ∧ k ≤ l0.length ∧ s = if b = true then badS else (l0.drop k, false)
  row : SlG B w ao (bcells l0)
  nil : ao = none → c = 0
  cap : l0.length ≤ c
  big : l0.length ≤ 100000
  capm : c ≤ maxLen
  ld : B ≤ D
  lb : B ≤ w.heap.size

theorem RfS.ok {w : World} {D B : Nat} {ao : Option Addr} {l0 : List UInt8} {c : Nat} {s : St} (h : RfS w D B ao l0 c s) : OkS s := by
  obtain ⟨k, b, _, _, rfl⟩ := h.ex
  intro hs
  cases b with
  | true => rfl
  | false => simp at hs

theorem RfS.lt {w : World} {D B : Nat} {ao : Option Addr} {l0 : List UInt8} {c : Nat} {s : St} (h : RfS w D B ao l0 c s) : D < w.heap.size := by
  obtain ⟨k, b, h1, _⟩ := h.ex
  exact lt_of_heap h1

/-- Behind a world in which D and what lies below B stand. -/
theorem RfS.keep {w w' : World} {D B : Nat} {ao : Option Addr} {l0 : List UInt8} {c : Nat} {s : St} (h : RfS w D B ao l0 c s) (hD : w'.heap[D]? = w.heap[D]?) (hB : Below B w w') : RfS w' D B ao l0 c s := by
  obtain ⟨k, b, h1, h2, h3⟩ := h.ex
  exact ⟨⟨k, b, hD.trans h1, h2, h3⟩, h.row.below hB, h.nil, h.cap, h.big, h.capm, h.ld, Nat.le_trans h.lb hB.size⟩
theorem RfS.below {w w' : World} {D B : Nat} {ao : Option Addr} {l0 : List UInt8} {c : Nat} {s : St} (h : RfS w D B ao l0 c s) (b : Below w.heap.size w w') : RfS w' D B ao l0 c s :=
  h.keep (b.block D h.lt) (b.mono h.lb)
theorem RfS.alloc {w : World} {D B : Nat} {ao : Option Addr} {l0 : List UInt8} {c : Nat} {s : St} (h : RfS w D B ao l0 c s) (o : Obj) : RfS (w.alloc o) D B ao l0 c s := h.below (below_own o)
theorem RfS.drewN {w : World} {D B : Nat} {ao : Option Addr} {l0 : List UInt8} {c : Nat} {s : St} (h : RfS w D B ao l0 c s) (n : Nat) : RfS (w.drewN n) D B ao l0 c s := h.below (RowKit_drewN (Below.refl _ _) n)
theorem RfS.setNew {w : World} {D B : Nat} {ao : Option Addr} {l0 : List UInt8} {c : Nat} {s : St} (h : RfS w D B ao l0 c s) {b : Nat} (hb : D < b) (i : Nat) (v : Value) : RfS (w.setCell ⟨b, i, none⟩ v) D B ao l0 c s :=
  h.keep (Below.heap_setCell _ _ _ _ (by simp; omega)) ((Below.refl _ _).setCell (p := ⟨b, i, none⟩) (by have := h.ld; show B ≤ b; omega) v)

/-- What bytes answers. -/
def RbP (r : List UInt8 × St) (D B : Nat) (ao : Option Addr) (l0 : List UInt8) (c : Nat) (w : World) (e : Ending) (w' : World) : Prop :=
  ∃ ao' c', e = .returned (.slice ao' r.1.length c') ∧ (ao' = none → c' = 0) ∧ SlG w'.heap.size w' ao' (bcells r.1) ∧ RfS w' D B ao l0 c r.2 ∧ Fr D w w'


theorem RefS_up {w : World} {base : Nat} {ao : Option Addr} {c : Nat} {l : List UInt8} (h : w.ownsRow base 5 1 (.slice ao l.length c) l.length (bcells l)) (D : Nat) : D < base → ∀ v, SlG (w.setCell ⟨D, 1, none⟩ v).heap.size (w.setCell ⟨D, 1, none⟩ v) ao (bcells l) := fun hD v => by
  have h2 := ownsRow_setCell_below h (a := ⟨D, 1, none⟩) hD v
  exact owns_slB h2
end Go.Proofs.YtmocfielcllfmaaDoor
