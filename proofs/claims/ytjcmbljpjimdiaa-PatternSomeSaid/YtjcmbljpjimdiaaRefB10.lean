/- The document's Match, argument by argument: what stands while it goes on. -/
import Derived.Test.YtjcmbljpjimdiaaRefA10
namespace Go.Proofs.Ytjcmbljpjimdiaa
open Go.RowKit

structure RAt (w W : World) (c : C10) (ao : Option Addr) (ac : Nat) (xo : Option Addr) (xc : Nat) (fi ft : Int) (fo : Option Addr) (fc : Nat) (n : Nat) (ej : E10) (g8 : Nat) (a1 : Option Addr) (d1 : Nat) (a2 : Option Addr) (d2 : Nat) : Prop where
  bel : Below w.heap.size w W
  le : w.heap.size + 4 ≤ W.heap.size
  cb : W.heap[w.heap.size]? = some (.cells (cellsC c ao ac xo xc) 33 (0, 0))
  fb : W.heap[w.heap.size + 1]? = some (.cells #[.int .i64 fi, .int .i64 ft, .slice fo c.args.length fc] 39 (0, 0))
  rb : W.heap[w.heap.size + 3]? = some (.cells #[.slice none 0 0, .slice none 0 0] 45 (0, 0))
  eb : W.heap[g8]? = some (.cells #[.slice a1 n d1, .slice a2 n d2] 45 (0, 0))
  ne : g8 ≠ w.heap.size + 3
  own : Own10 w.heap.size W ej (.slice a1 n d1) (.slice a2 n d2)
  even : Even n ej
section
variable {w W W' : World} {c : C10} {ao : Option Addr} {ac : Nat} {xo : Option Addr} {xc : Nat} {fi ft : Int} {fo : Option Addr} {fc : Nat} {n : Nat} {ej : E10} {g8 : Nat} {a1 : Option Addr} {d1 : Nat} {a2 : Option Addr} {d2 : Nat}
theorem RAt.low (h : RAt w W c ao ac xo xc fi ft fo fc n ej g8 a1 d1 a2 d2) : w.heap.size ≤ W.heap.size := h.bel.size
theorem RAt.old (h : RAt w W c ao ac xo xc fi ft fo fc n ej g8 a1 d1 a2 d2) (b : Below W.heap.size W W') : RAt w W' c ao ac xo xc fi ft fo fc n ej g8 a1 d1 a2 d2 :=
  ⟨h.bel.trans (b.mono h.low), Nat.le_trans h.le b.size, (b.block _ (lt_of_heap h.cb)).trans h.cb, (b.block _ (lt_of_heap h.fb)).trans h.fb, (b.block _ (lt_of_heap h.rb)).trans h.rb, (b.block _ (lt_of_heap h.eb)).trans h.eb, h.ne, h.own.old b, h.even⟩
/-- A variable's cells. -/
theorem RAt.reads (h : RAt w W c ao ac xo xc fi ft fo fc n ej g8 a1 d1 a2 d2) {k : Nat} (hk : k < n) :
    ∃ g1 g2, a1 = some ⟨g1, 0, none⟩ ∧ a2 = some ⟨g2, 0, none⟩ ∧ w.heap.size ≤ g1 ∧ w.heap.size ≤ g2 ∧ (∃ cs, W.heap[g1]? = some (.cells cs 4 (0, 0))) ∧ (∃ cs, W.heap[g2]? = some (.cells cs 27 (0, 0))) ∧
      W.cell? ⟨g1, k, none⟩ = some (.bool (ej.1.getD k false)) ∧ W.cell? ⟨g2, k * 3, none⟩ = some (.int .u8 (ej.2.getD k zeroT).1) ∧ W.cell? ⟨g2, k * 3 + 1, none⟩ = some (.int .i64 (ej.2.getD k zeroT).2.1) ∧ W.cell? ⟨g2, k * 3 + 2, none⟩ = some (.string (ej.2.getD k zeroT).2.2) := by
  have e1 := h.even.1
  have e2 := h.even.2
  obtain ⟨p1, s1, cur1, q1, hb1, hp1, -, -, hc1⟩ := owns_at h.own.has (by omega)
  obtain ⟨p2, s2, cur2, q2, hb2, hp2, -, -, hc2⟩ := owns_at h.own.vals (by omega)
  rw [e1] at q1 hc1
  rw [e2] at q2 hc2
  simp only [Value.slice.injEq, true_and] at q1 q2
  obtain ⟨rfl, rfl⟩ := q1
  obtain ⟨rfl, rfl⟩ := q2
  obtain ⟨t1, t2, t3⟩ := cellsV_get ej.2 k (by omega)
  exact ⟨p1, p2, rfl, rfl, hb1, hb2, ⟨_, hp1⟩, ⟨_, hp2⟩, (hc1 k (by omega)).trans (cellsB_get ej.1 k (by omega)), (hc2 (k * 3) (by omega)).trans t1, (hc2 (k * 3 + 1) (by omega)).trans t2, (hc2 (k * 3 + 2) (by omega)).trans t3⟩
/-- A variable is set. -/
theorem RAt.bind {g1 g2 : Nat} (h : RAt w W c ao ac xo xc fi ft fo fc n ej g8 (some ⟨g1, 0, none⟩) d1 (some ⟨g2, 0, none⟩) d2) (k : Nat) (v : V3) (h1 : ∃ cs, W.heap[g1]? = some (.cells cs 4 (0, 0))) (h2 : ∃ cs, W.heap[g2]? = some (.cells cs 27 (0, 0))) (b1 : w.heap.size ≤ g1) (b2 : w.heap.size ≤ g2) :
    RAt w ((((W.setCell ⟨g1, k, none⟩ (.bool true)).setCell ⟨g2, k * 3, none⟩ (.int .u8 v.1)).setCell ⟨g2, k * 3 + 1, none⟩ (.int .i64 v.2.1)).setCell ⟨g2, k * 3 + 2, none⟩ (.string v.2.2)) c ao ac xo xc fi ft fo fc n (bind10 k v ej) g8 (some ⟨g1, 0, none⟩) d1 (some ⟨g2, 0, none⟩) d2 := by
  obtain ⟨cs1, h1⟩ := h1
  obtain ⟨cs2, h2⟩ := h2
  have n12 : g1 ≠ g2 := ne_block h1 h2 (by decide)
  have own := own_bind (base := w.heap.size) (w := W) (e := ej) (g1 := g1) (c1 := d1) (g2 := g2) (c2 := d2) (by rw [h.even.1, h.even.2]; exact h.own) n12 k v true
  rw [h.even.1, h.even.2] at own
  have hs : ((((W.setCell ⟨g1, k, none⟩ (.bool true)).setCell ⟨g2, k * 3, none⟩ (.int .u8 v.1)).setCell ⟨g2, k * 3 + 1, none⟩ (.int .i64 v.2.1)).setCell ⟨g2, k * 3 + 2, none⟩ (.string v.2.2)).heap.size = W.heap.size := by simp
  exact ⟨(((h.bel.setCell b1 _).setCell b2 _).setCell b2 _).setCell b2 _, by rw [hs]; exact h.le, heap_set4 h.cb (ne_block h.cb h1 (by decide)) (ne_block h.cb h2 (by decide)), heap_set4 h.fb (ne_block h.fb h1 (by decide)) (ne_block h.fb h2 (by decide)), heap_set4 h.rb (ne_block h.rb h1 (by decide)) (ne_block h.rb h2 (by decide)), heap_set4 h.eb (ne_block h.eb h1 (by decide)) (ne_block h.eb h2 (by decide)), h.ne, own, ⟨by simp [bind10, h.even.1], by simp [bind10, h.even.2]⟩⟩
end
section
variable {ai : Int} {av v : V3} {ej : E10} {n : Nat}
theorem fit1_two_no (he : Even n ej) (hk : known10 ai n = false) : fit1 ⟨2, ai, av⟩ v ej = none := by
  unfold fit1
  rw [if_neg (show ¬ (2 : Int) = 1 by decide), if_pos rfl, he.1, hk]
  exact rfl
theorem fit1_two_yes {k : Nat} (he : Even n ej) (hk : known10 (k : Int) n = true) : fit1 ⟨2, (k : Int), av⟩ v ej = some (bind10 k v ej) := by
  unfold fit1
  rw [if_neg (show ¬ (2 : Int) = 1 by decide), if_pos rfl, he.1, hk]
  exact rfl
theorem fit1_three_no (he : Even n ej) (hk : known10 ai n = false) : fit1 ⟨3, ai, av⟩ v ej = none := by
  unfold fit1
  rw [if_neg (show ¬ (3 : Int) = 1 by decide), if_neg (show ¬ (3 : Int) = 2 by decide), if_pos rfl, he.1, hk]
  exact rfl
theorem fit1_four {b : Bool} (hq : eqvB av v = b) : fit1 ⟨4, ai, av⟩ v ej = if b = true then some ej else none := by
  subst hq
  rfl
end
end Go.Proofs.Ytjcmbljpjimdiaa
