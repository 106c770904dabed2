/- A match on its way, as it lies; knows. -/
import Derived.Test.YtnnhgbncghpecaaGreatRows10
namespace Go.Proofs.YtnnhgbncghpecaaGreat
open Go.RowKit

/-- A match on its way, at block nb: ahead it had e0, now it has e; bd: its rows are its own. -/
structure M10 (B : Nat) (w : World) (nb n : Nat) (e0 e : E10) (ho : Option Addr) (hc : Nat) (vo : Option Addr) (vc : Nat) (bd : Bool) : Prop where
  low : B ≤ nb
  few : n ≤ 100000
  even0 : Even n e0
  even : Even n e
  ahead : Env10 B w e0 ho hc vo vc
  lies : ∃ hv vv, w.heap[nb]? = some (.cells #[hv, vv, .slice ho n hc, .slice vo n vc, .bool bd] 70 (0, 0)) ∧
    (bd = false → hv = .slice ho n hc ∧ vv = .slice vo n vc ∧ e = e0) ∧ (bd = true → Own10 B w e hv vv)
/-- What a match may turn: itself, and rows of its own. -/
structure MFr (B nb : Nat) (w w' : World) : Prop where
  bel : Below B w w'
  keep : ∀ k cs t fz, w.heap[k]? = some (.cells cs t fz) → k ≠ nb → t ≠ 4 → t ≠ 27 → w'.heap[k]? = some (.cells cs t fz)
theorem MFr.refl (B nb : Nat) (w : World) : MFr B nb w w := ⟨Below.refl _ _, fun _ _ _ _ h _ _ _ => h⟩
theorem MFr.trans {B nb : Nat} {a b c : World} (h : MFr B nb a b) (k : MFr B nb b c) : MFr B nb a c := ⟨h.bel.trans k.bel, fun i cs t fz h1 h2 h3 h4 => k.keep i cs t fz (h.keep i cs t fz h1 h2 h3 h4) h2 h3 h4⟩
theorem MFr.of_below {B nb : Nat} {w w' : World} (h : Below w.heap.size w w') (hB : B ≤ w.heap.size) : MFr B nb w w' := ⟨h.mono hB, fun k _ _ _ h1 _ _ _ => (h.block k (lt_of_heap h1)).trans h1⟩
theorem MFr.set_nb {B nb : Nat} {w w1 : World} (h : MFr B nb w w1) (hB : B ≤ nb) (i : Nat) (v : Value) : MFr B nb w (w1.setCell ⟨nb, i, none⟩ v) := ⟨h.bel.setCell hB v, fun k cs t fz h1 h2 h3 h4 => by
  have := h.keep k cs t fz h1 h2 h3 h4
  rw [← this]
  exact heap_setCell_other w1 ⟨nb, i, none⟩ k v (fun e => h2 (by simpa using e))⟩
theorem MFr.set_own {B nb g : Nat} {w w1 : World} (h : MFr B nb w w1) (hB : B ≤ g) {cs : Array Value} {t : TypeId} {fz : Nat × Nat} (hg : w1.heap[g]? = some (.cells cs t fz)) (ht : t = 4 ∨ t = 27) (i : Nat) (v : Value) : MFr B nb w (w1.setCell ⟨g, i, none⟩ v) := ⟨h.bel.setCell hB v, fun k cs' t' fz' h1 h2 h3 h4 => by
  have := h.keep k cs' t' fz' h1 h2 h3 h4
  rw [← this]
  refine heap_setCell_other w1 ⟨g, i, none⟩ k v (fun e => ?_)
  have e' : k = g := by simpa using e
  subst e'
  rw [hg] at this
  injection this with this
  injection this with _ h5 _
  rcases ht with ht | ht
  · exact h3 (by rw [← h5, ht])
  · exact h4 (by rw [← h5, ht])⟩
theorem MFr.drew {B nb : Nat} {w w1 : World} (h : MFr B nb w w1) : MFr B nb w w1.drew := ⟨below_drew h.bel, h.keep⟩
theorem M10.slices {B : Nat} {w : World} {nb n : Nat} {e0 e : E10} {ho : Option Addr} {hc : Nat} {vo : Option Addr} {vc : Nat} {bd : Bool} (h : M10 B w nb n e0 e ho hc vo vc bd) :
    ∃ a1 c1 a2 c2, w.heap[nb]? = some (.cells #[.slice a1 n c1, .slice a2 n c2, .slice ho n hc, .slice vo n vc, .bool bd] 70 (0, 0)) ∧
      (bd = false → .slice a1 n c1 = Value.slice ho n hc ∧ Value.slice a2 n c2 = .slice vo n vc ∧ e = e0) ∧ (bd = true → Own10 B w e (.slice a1 n c1) (.slice a2 n c2)) := by
  obtain ⟨hv, vv, h1, h2, h3⟩ := h.lies
  cases bd with
  | false =>
    obtain ⟨rfl, rfl, h4⟩ := h2 rfl
    exact ⟨ho, hc, vo, vc, h1, fun _ => ⟨rfl, rfl, h4⟩, (fun e => by cases e)⟩
  | true =>
    have h4 := h3 rfl
    obtain ⟨a1, c1, e1⟩ := owns_slice h4.has
    obtain ⟨a2, c2, e2⟩ := owns_slice h4.vals
    rw [h.even.1] at e1
    rw [h.even.2] at e2
    subst e1; subst e2
    exact ⟨a1, c1, a2, c2, h1, (fun e => by cases e), h3⟩

theorem knows_any {B : Nat} {w : World} {nb n : Nat} {e0 e : E10} {ho : Option Addr} {hc : Nat} {vo : Option Addr} {vc : Nat} {bd : Bool} (h : M10 B w nb n e0 e ho hc vo vc bd) (i : Int) :
    Calls Tryz.prog 92 #[.pointer (some ⟨nb, 0, none⟩), .int .i64 i] w fun r w' => r = .returned (.bool (known10 i n)) ∧ w = w' := by
  obtain ⟨a1, c1, a2, c2, h1, -⟩ := h.slices
  have y := fun j => Lib.cell_of_heap h1 j
  have hn := h.few
  clear h h1
  by_cases h0 : 0 ≤ i
  · rw [show known10 i n = decide (i < (n : Int)) by simp [known10, h0]]
    go_enter Tryz.func92, Tryz.ntmps92
    go_wp2
    go_ret
    exact ⟨rfl, rfl⟩
  · rw [show known10 i n = false by simp [known10, h0]]
    go_enter Tryz.func92, Tryz.ntmps92
    go_wp2
    go_ret
    exact ⟨rfl, rfl⟩
end Go.Proofs.YtnnhgbncghpecaaGreat
