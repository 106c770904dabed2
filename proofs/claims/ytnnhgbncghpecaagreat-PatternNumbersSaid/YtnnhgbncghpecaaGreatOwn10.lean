/- pattern.own: both rows copied, and their texts. -/
import Derived.Test.YtnnhgbncghpecaaGreatFirstC10
namespace Go.Proofs.YtnnhgbncghpecaaGreat
open Go.RowKit

/-- Texts that can be copied. -/
def Short10 (l : List V3) : Prop := ∀ v, v ∈ l → v.2.2.size ≤ 140737488355328
theorem Short10.get {l : List V3} (h : Short10 l) (k : Nat) : (l.getD k zeroT).2.2.size ≤ 140737488355328 := by
  by_cases hk : k < l.length
  · rw [List.getD_eq_getElem?_getD, List.getElem?_eq_getElem hk]
    exact h _ (List.getElem_mem hk)
  · rw [List.getD_eq_getElem?_getD, List.getElem?_eq_none (by omega)]
    exact Nat.zero_le _
theorem list_set_same {α : Type} (l : List α) (k : Nat) (u : α) (h : l[k]? = some u) : l.set k u = l := by
  obtain ⟨hk, e⟩ := List.getElem?_eq_some_iff.1 h
  subst e
  exact List.set_getElem_self hk
/-- A text laid where it was. -/
theorem set_text {w : World} {base g c n : Nat} {vs : List V3} (h : w.ownsRow base 27 3 (.slice (some ⟨g, 0, none⟩) n c) n (cellsV vs)) (k : Nat) (hk : k < vs.length) :
    (w.setCell ⟨g, k * 3 + 2, none⟩ (.string (vs.getD k zeroT).2.2)).ownsRow base 27 3 (.slice (some ⟨g, 0, none⟩) n c) n (cellsV vs) ∧ w.grownBy (w.setCell ⟨g, k * 3 + 2, none⟩ (.string (vs.getD k zeroT).2.2)) (some g) := by
  obtain ⟨h1, h2⟩ := h.stored (k * 3 + 2) (.string (vs.getD k zeroT).2.2)
  rw [list_set_same _ _ _ (cellsV_get vs k hk).2.2] at h1
  exact ⟨h1, h2⟩
/-- What own makes, on its way: its variable at block eb, its result's at rb. -/
structure OwnAt (base rb eb n : Nat) (e : E10) (h1 h2 : Option Addr) (d1 d2 : Nat) (w0 w : World) : Prop where
  bel : Below base w0 w
  var : w.heap[eb]? = some (.cells #[.slice h1 n d1, .slice h2 n d2] 44 (0, 0))
  res : w.heap[rb]? = some (.cells #[.slice none 0 0, .slice none 0 0] 44 (0, 0))
  own : Own10 base w e (.slice h1 n d1) (.slice h2 n d2)
  even : Even n e
  le : base ≤ w.heap.size
theorem OwnAt.old {base rb eb n : Nat} {e : E10} {h1 h2 : Option Addr} {d1 d2 : Nat} {w0 w w' : World} (h : OwnAt base rb eb n e h1 h2 d1 d2 w0 w) (b : Below w.heap.size w w') : OwnAt base rb eb n e h1 h2 d1 d2 w0 w' :=
  ⟨h.bel.trans (b.mono h.le), (b.block eb (lt_of_heap h.var)).trans h.var, (b.block rb (lt_of_heap h.res)).trans h.res, h.own.old b, h.even, Nat.le_trans h.le b.size⟩
theorem OwnAt.set {base rb eb n : Nat} {e : E10} {h1 : Option Addr} {d1 d2 g : Nat} {w0 w : World} (h : OwnAt base rb eb n e h1 (some ⟨g, 0, none⟩) d1 d2 w0 w) (k : Nat) (hk : k < n) : OwnAt base rb eb n e h1 (some ⟨g, 0, none⟩) d1 d2 w0 (w.setCell ⟨g, k * 3 + 2, none⟩ (.string (e.2.getD k zeroT).2.2)) := by
  have hv := h.own.vals
  rw [h.even.2] at hv
  obtain ⟨q1, q2⟩ := set_text hv k (by rw [h.even.2]; exact hk)
  obtain ⟨g', c', cur, e1, hb, hg, -⟩ := owns_at hv (by omega)
  simp only [Value.slice.injEq, Option.some.injEq, Addr.mk.injEq, and_true, true_and] at e1
  obtain ⟨rfl, -⟩ := e1
  have n1 : eb ≠ g := ne_block h.var hg (by decide)
  have n2 : rb ≠ g := ne_block h.res hg (by decide)
  refine ⟨h.bel.grown q2 h.le (fun j hj => by cases hj; exact hb), ?_, ?_, ⟨owns_far (e' := 27) h.own.has (by decide) q2 (fun j hj => by obtain rfl := Option.some.inj hj; exact ⟨_, _, hg⟩), ?_⟩, h.even, Nat.le_trans h.le q2.size⟩
  · rw [q2.block eb (lt_of_heap h.var) (fun e => n1 (Option.some.inj e))]; exact h.var
  · rw [q2.block rb (lt_of_heap h.res) (fun e => n2 (Option.some.inj e))]; exact h.res
  · rw [h.even.2]
    exact q1

set_option maxRecDepth 100000 in
set_option maxHeartbeats 4000000 in
theorem own_any (e : E10) (n : Nat) (he : Even n e) (ho : Option Addr) (hc : Nat) (vo : Option Addr) (vc : Nat) (w : World) (h : Env10 w.heap.size w e ho hc vo vc) (hn : n ≤ 100000) (hs : Short10 e.2) :
    Calls Tryz.prog 27 #[aggE e ho hc vo vc] w (RowsP e w) := by
  obtain ⟨w0, hw0⟩ : ∃ w0, w0 = (w.alloc (.cells #[.slice ho e.1.length hc, .slice vo e.2.length vc] 44)).alloc (.cells #[.slice none 0 0, .slice none 0 0] 44) := ⟨_, rfl⟩
  have hsz : w0.heap.size = w.heap.size + 2 := by rw [hw0]; simp
  have hb0 : Below w.heap.size w w0 := by rw [hw0]; exact below_new (below_own _) _
  obtain ⟨h1b, h2b⟩ : w0.heap[w.heap.size]? = some (.cells #[.slice ho e.1.length hc, .slice vo e.2.length vc] 44 (0, 0)) ∧ w0.heap[w.heap.size + 1]? = some (.cells #[.slice none 0 0, .slice none 0 0] 44 (0, 0)) := by
    rw [hw0]
    exact heap_two _ _
  have HR := Lib.hid (rows_any e n he ho hc vo vc w0 (h.up hb0 hb0.size) hn)
  have HS := Lib.hid hs
  have HE := Lib.hid he
  have HB0 := Lib.hid hb0
  have H1 := Lib.hid h1b
  have H2 := Lib.hid h2b
  have y1 := fun j => Lib.cell_of_heap h1b j
  have mixed : Tryz.prog.follows .mixedOrders = true := by kernel_rfl
  unfold RowsP aggE at HR ⊢
  rw [he.1, he.2] at HR hw0 y1 H1 ⊢
  clear h hb0 h1b h2b hs he
  go_enter Tryz.func27, Tryz.ntmps27
  go_wp2_with (go_at_call 46; go_must (rw [← hw0]; clear hw0; refine (HR.out).mono ?_; rintro r w1 ⟨b1, d1, b2, d2, rfl, hO, hb⟩; have hs1 := hb.size; have HB1 := Lib.hid (HB0.out.trans (hb.mono HB0.out.size)); have H21 := Lib.hid ((hb.block (w.heap.size + 1) (by omega)).trans H2.out); have HO1 := Lib.hid (show Own10 w.heap.size w1 e _ _ from ⟨owns_mono hO.has (by omega), owns_mono hO.vals (by omega)⟩); clear hO hb y1))
  have hA0 : OwnAt w.heap.size (w.heap.size + 1) w1.heap.size n e b1 b2 d1 d2 w (w1.alloc (.cells #[.slice b1 n d1, .slice b2 n d2] 44)) :=
    ⟨below_new HB1.out _, alloc_at rfl _, alloc_keep H21.out _, HO1.out.old (below_own _), HE.out, (below_new HB1.out (.cells #[.slice b1 n d1, .slice b2 n d2] 44)).size⟩
  have HA0 := Lib.hid hA0
  have y2 := fun j => Lib.cell_of_heap hA0.var j
  generalize w1.heap.size = eb at *
  clear hA0 HB1 H21 HO1 H1 H2 HB0
  generalize w1.alloc (.cells #[.slice b1 n d1, .slice b2 n d2] 44) = w2 at *
  have hfr : Hid (∀ W j, OwnAt w.heap.size (w.heap.size + 1) eb n e b1 b2 d1 d2 w W → j < n → ∃ g, b2 = some ⟨g, 0, none⟩ ∧ g < W.heap.size ∧ eb ≠ g ∧ eb < W.heap.size ∧ W.cell? ⟨eb, 1, none⟩ = some (.slice b2 n d2) ∧ (∀ i, W.frozen? ⟨g, i, none⟩ = false) ∧ W.cell? ⟨g, j * 3, none⟩ = some (.int .u8 (e.2.getD j zeroT).1) ∧ W.cell? ⟨g, j * 3 + 1, none⟩ = some (.int .i64 (e.2.getD j zeroT).2.1) ∧ W.cell? ⟨g, j * 3 + 2, none⟩ = some (.string (e.2.getD j zeroT).2.2)) := fun W j hW hj => by
    have hv := hW.own.vals
    have hl := hW.even.2
    rw [hl] at hv
    obtain ⟨g, c', cur, e1, hb, hg, _, _, hcl⟩ := owns_at hv (by omega)
    simp only [Value.slice.injEq, true_and] at e1
    obtain ⟨q0, q1, q2⟩ := cellsV_get e.2 j (by omega)
    exact ⟨g, e1.1, lt_of_heap hg, ne_block hW.var hg (by decide), lt_of_heap hW.var, Lib.cell_of_heap hW.var 1, fun i => Lib.frozen_of_heap hg i, (hcl _ (by omega)).trans q0, (hcl _ (by omega)).trans q1, (hcl _ (by omega)).trans q2⟩
  go_loopw [11] (fun i wr => ∃ j : Nat, j ≤ n ∧ i = .int .i64 j ∧ Hid (OwnAt w.heap.size (w.heap.size + 1) eb n e b1 b2 d1 d2 w wr)) (fun i _ => n - (intOf i).toNat)
  case atStart => exact ⟨0, by omega, rfl, HA0⟩
  case round =>
    obtain ⟨j, hj, rfl, HA⟩ := hrel
    by_cases hlt : j < n
    · obtain ⟨g, rfl, hgl, hge, hel, x1, xz, x2, x3, x4⟩ := hfr.out wr j HA.out hlt
      have HSet := Lib.hid (fun W (hW : OwnAt w.heap.size (w.heap.size + 1) eb n e b1 (some ⟨g, 0, none⟩) d1 d2 w W) => hW.set j hlt)
      have HC := Lib.hid (fun W => cloneS_any (e.2.getD j zeroT).2.2 W (Nat.le_trans (HS.out.get j) (by decide)))
      have HAl := Lib.hid (fun W (hW : Below wr.heap.size wr W) => HA.out.old hW)
      generalize e.2.getD j zeroT = v at *
      obtain ⟨v1, v2, v3⟩ := v
      simp only at x2 x3 x4 HSet HC
      have hjn : (j : Int) < (n : Int) := by omega
      have HFr2 : Hid (∀ W, OwnAt w.heap.size (w.heap.size + 1) eb n e b1 (some ⟨g, 0, none⟩) d1 d2 w W → W.cell? ⟨eb, 1, none⟩ = some (.slice (some ⟨g, 0, none⟩) n d2) ∧ (∀ i, W.frozen? ⟨g, i, none⟩ = false) ∧ (W.cell? ⟨g, j * 3 + 2, none⟩).isSome = true) := fun W hW => by
        obtain ⟨g', e1, _, _, _, q1, q2, _, _, q3⟩ := hfr.out W j hW hlt
        obtain rfl : g = g' := by simpa using e1
        exact ⟨q1, q2, by rw [q3]; rfl⟩
      clear HA HS hfr HA0 y2
      have HB1 : Hid (∀ o1, Below wr.heap.size wr (wr.alloc o1)) := fun o1 => below_own _
      go_wp2_with fail
      go_region_with (go_at_call 47; go_must (refine (HC.out _).mono ?_; rintro r w3 ⟨rfl, hb⟩; have HA3 := Lib.hid (HAl.out _ ((below_drew (HB1.out _)).trans (hb.mono (below_drew (HB1.out _)).size))); obtain ⟨q1, q2, q3⟩ := HFr2.out _ HA3.out; obtain ⟨u3, q4⟩ := Option.isSome_iff_exists.1 q3; clear hb q3))
      all_goals
        have HA4 := Lib.hid (HSet.out _ HA3.out)
        clear HSet HFr2 HAl HA3 q1 q2 q4 HC HB1
        go_wp2
        go_roundw
        case rel => exact ⟨j + 1, by omega, by go_num, HA4⟩
        case measure => simp [intOf]; omega
    · obtain rfl : j = n := by omega
      have y3 := fun i => Lib.cell_of_heap HA.out.var i
      have y4 := fun i => Lib.cell_of_heap HA.out.res i
      have z4 := fun i => Lib.frozen_of_heap HA.out.res i
      clear hfr HA0 y2
      go_wp2
      exact env_end (g := w.heap.size + 1) rfl rfl rfl HA.out.res rfl fun W3 _ g3 => ⟨_, _, _, _, rfl, HA.out.own.far g3 HA.out.res (by decide) (by decide), HA.out.bel.grown g3 HA.out.le (fun k hk => by cases hk; omega)⟩
end Go.Proofs.YtnnhgbncghpecaaGreat
