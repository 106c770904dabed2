/- What was fired, told one by one out of the map (maps.Values), and taken up in a row (slices.Collect). -/
import Derived.Test.YtlkmabnjmklkpaaDoorFireT14
import Derived.RangeFuncMany
import Derived.RangeFuncLeaves
import Derived.RangeFuncNested
import Derived.Sort.MapsRangeIn
import Derived.Sort.KeysCollected
import Derived.WalkKit
import Derived.OwnWalkIn
import Derived.TacticsInMore
import Derived.RegionIn
import Derived.LoopNIn
import Derived.LoopIn
import Derived.Shelf.Abstract
namespace Go.Proofs.YtlkmabnjmklkpaaDoor
open Go.RowKit Go.Maps Go.Sort Go.Shelf

attribute [local go_sem] Oper.semAt_some

/-- A block that holds a match. -/
def BoxM (W : World) (b : Nat) (p : MV) : Prop := W.heap[b]? = some (.cells #[.int .i64 p.1.1, .slice p.2.1.1 p.1.2.length p.2.1.2, .slice p.2.2.1 p.1.2.length p.2.2.2] 59 (0, 0))
theorem boxM_own (b : Nat) (p : MV) : Own (fun (_ : Unit) W => BoxM W b p) := by
  intro _ X Y row h hg hr
  exact (hg.block b (lt_of_heap h) (fun e => by
    obtain ⟨o, ho, hc⟩ := hr b e.symm
    rw [show X.heap[b]? = _ from h] at ho
    cases ho
    cases hc)).trans h

theorem nodup_of_map {α β : Type} (f : α → β) {l : List α} (h : (l.map f).Nodup) : l.Nodup :=
  (List.pairwise_map.1 h).imp (fun hne e => hne (congrArg f e))
theorem len_sub {α : Type} : ∀ (l m : List α), l.Nodup → (∀ x, x ∈ l → x ∈ m) → l.length ≤ m.length
  | [], _, _, _ => Nat.zero_le _
  | x :: l, m, hn, hs => by
    haveI : DecidableEq α := fun a b => Classical.propDecidable (a = b)
    have h1 := len_sub l (m.erase x) (List.nodup_cons.1 hn).2 (fun y hy => (List.mem_erase_of_ne (fun e => (List.nodup_cons.1 hn).1 (by rw [← e]; exact hy))).2 (hs y (List.mem_cons_of_mem _ hy)))
    have h2 := List.length_erase_of_mem (hs x List.mem_cons_self)
    have h3 := List.length_pos_of_mem (hs x List.mem_cons_self)
    rw [List.length_cons]
    omega
theorem came_le {FF ps : List MV} {p : MV} (hs : ∀ q, q ∈ ps → q ∈ FF) (hp : p ∈ FF) (hn : ((ps ++ [p]).map (fun q => keyT q.1)).Nodup) : ps.length < FF.length := by
  have h1 : (ps ++ [p]).Nodup := nodup_of_map _ hn
  have h2 : ∀ q, q ∈ ps ++ [p] → q ∈ FF := fun q hq => by
    rcases List.mem_append.1 hq with h | h
    · exact hs q h
    · rw [List.mem_singleton.1 h]; exact hp
  have := len_sub _ _ h1 h2
  rw [List.length_append, List.length_singleton] at this
  omega
theorem came_all {FF ps : List MV} (hnF : (FF.map Prod.fst).Nodup) (hs : ∀ q, q ∈ ps → q ∈ FF) (hn : (ps.map (fun q => keyT q.1)).Nodup) (hall : ∀ q, q ∈ FF → keyT q.1 ∈ ps.map (fun q => keyT q.1)) : ps.Perm FF := by
  refine (List.perm_ext_iff_of_nodup (nodup_of_map _ hn) (nodup_of_map _ hnF)).2 fun q => ⟨hs q, fun hq => ?_⟩
  obtain ⟨r, hr, e⟩ := List.mem_map.1 (hall q hq)
  have e1 : r.1 = q.1 := keyT_inj e
  obtain ⟨i, hi, rfl⟩ := List.getElem_of_mem (hs r hr)
  obtain ⟨j, hj, rfl⟩ := List.getElem_of_mem hq
  have h1 : (FF.map Prod.fst)[i]'(by simpa using hi) = (FF.map Prod.fst)[j]'(by simpa using hj) := by simpa using e1
  have := (List.getElem_inj hnF).1 h1
  subst this
  exact hr

set_option maxRecDepth 100000 in
set_option maxHeartbeats 1000000 in
theorem values_stops (F : Fence) (n : Nat) (hf : F.fn 49) (hro : F.round = none) (hn : 1 ≤ n) (Bm b : Nat) (FF : List MV) (w : World) (hBm : Bm < w.heap.size) (hm : w.cell? ⟨Bm, 0, none⟩ = some (.map (some b))) (hP : PMap w b FF) :
    SeqStopsK F n Tryd.prog 49 #[.pointer (some ⟨Bm, 0, none⟩)] (fun p : MV => #[mval p]) KeepsWalks (fun ps => ps.Perm FF) (fun _ => True) FF.length w := fun l J Jx W hW hJ hJx hY h0 => by
  have hPW : PMap W b FF := hP.keep (hW.block b hP.lt)
  have hmW : W.cell? ⟨Bm, 0, none⟩ = some (.map (some b)) := (hW.cell (p := ⟨Bm, 0, none⟩) hBm).trans hm
  obtain ⟨nn, D0, hown, hle, hnd, hat0, hhas0⟩ := hPW
  clear hm hP
  refine callsIn_of_wp Tryd.func49 rfl hf ?_ hro
  simp only [Tryd.ntmps49, List.size_toArray, List.length_cons, List.length_nil, Nat.reduceAdd, Nat.reduceSub, Array.replicate_succ, Array.replicate_zero, List.push_toArray, List.append_toArray, List.nil_append, List.cons_append]
  gi_wp2_with (first
    | (gi_at_range; refine wpListIn_range_own _ rfl _ 55 rfl 9 59 kd14 Tryd.underlying55 RH b nn _ rfl hown ?_; intro w0 hrg0 hg0 hs0)
    | gi_in)
  try go_frame
  gi_loopw [4] (fun _ wr => ∃ (left : Lit → Bool) (cnt : Nat) (ps : List MV), wr.ranges Tryd.prog 9 RH b W.heap.size nn D0 left cnt ∧ Collected D0 left (ps.map (fun q => keyT q.1)) ∧ (∀ q, q ∈ ps → q ∈ FF) ∧ J ps wr)
    (fun _ wr => wr.rangeLeft b W.heap.size)
  case atStart =>
    exact ⟨_, _, [], hrg0, Collected.start D0, (fun q hq => by cases hq), hJ [] W w0 none h0 hg0 (fun r e => by cases e)⟩
  case round =>
    obtain ⟨left, cnt, ps, hrg, hC, hV, hJs⟩ := hrel
    gi_wp2_with (first
      | (gi_at_next; refine wpListIn_next_ranges _ rfl _ rfl 9 kd14 RH encStr id (fun key kl hk => by obtain ⟨x, hx, _⟩ := Maps.keyOf_str Tryd.underlying9 hk; exact ⟨x, hx⟩) (fun v _ _ => ⟨v, rfl⟩) b W.heap.size nn _ _ _ rfl hrg ?_ ?_)
      | gi_in)
    · intro hc0 hl0
      gi_wp2
      go_end0
      refine ⟨⟨_, rfl⟩, .inl ⟨ps, came_all hnd hV hC.1 (fun q hq => (hC.2 _).2 ⟨has_true_of_atKey (hat0 q hq), hl0 _⟩), hJs⟩⟩
    · intro x c kl yd yp w2 cnt2 hkey hlk hv hyp hat hrg2 hlt hg2 hs2 hen
      obtain ⟨x', ex, rfl, _⟩ := Maps.keyOf_str Tryd.underlying9 hkey
      obtain rfl : x = x' := encStr_inj ex
      obtain ⟨p, hp, hkp⟩ := hhas0 _ (has_true_of_atKey hat)
      obtain rfl : x = keyT p.1 := Lit.string.inj hkp
      have hcv : c = mval p := by
        have h1 := hat (.held c)
        rw [hat0 p hp] at h1
        rw [← hv] at h1
        exact (DataW.held.inj h1).symm
      subst hcv
      have hC2 : Collected D0 (fun z => left z && !z.sameKey (.string (keyT p.1))) ((ps ++ [p]).map (fun q => keyT q.1)) := by simpa using hC.step hlk hat
      have hV2 : ∀ q, q ∈ ps ++ [p] → q ∈ FF := fun q hq => (List.mem_append.1 hq).elim (hV q) (fun e => by rw [List.mem_singleton.1 e]; exact hp)
      have hJ2 : J ps w2 := hJ ps wr w2 (some W.heap.size) hJs hg2 (fun r e => by cases e; exact ⟨Nat.le_refl _, hrg.iter_walk⟩)
      have hJ3 : J ps (w2.alloc (.cells #[.int .i64 p.1.1, .slice p.2.1.1 p.1.2.length p.2.1.2, .slice p.2.2.1 p.1.2.length p.2.2.2] 59)) := hJ ps w2 _ none hJ2 (World.grownBy_alloc _ _ none) (fun r e => by cases e)
      have hrg3 := hrg2.of_walks (KeepsWalks.alloc w2 (.cells #[.int .i64 p.1.1, .slice p.2.1.1 p.1.2.length p.2.1.2, .slice p.2.2.1 p.1.2.length p.2.2.2] 59))
      obtain ⟨fn, tmps, assign, body, hy, hR⟩ := hY ps p _ hJ3 (came_le hV hp hC2.1)
      have HC2 := Lib.hid hC2
      have HV2 := Lib.hid hV2
      have HRG := Lib.hid hrg3
      clear hs2 hyp hC hV hC2 hV2 hJ2 hJ3 hrg2 hrg3 hhas0 hat0 hnd hv hat hlk hkey ex hkp
      dsimp only [id, mval] at hen hy
      gi_wp2
      refine hR.mono ?_
      rintro e W3 (⟨rfl, hJ3, hk3⟩ | ⟨rfl, hJx3⟩)
      · gi_wp2
        have hrg4 := HRG.out.of_walks hk3
        go_roundw
        case rel => exact ⟨_, cnt2, ps ++ [p], hrg4, HC2.out, HV2.out, hJ3⟩
        case measure => rw [hrg4.left_eq, hrg.left_eq]; exact hlt
      · gi_wp2
        refine bodyPost_ret (results_none rfl _ _ _) rfl ?_
        exact ⟨⟨_, rfl⟩, .inr ⟨ps ++ [p], trivial, hJx3⟩⟩

/-! What was fired, taken up in a row: slices.AppendSeq, slices.Collect. -/

abbrev cells3 (p : MV) : List Value := [.int .i64 p.1.1, .slice p.2.1.1 p.1.2.length p.2.1.2, .slice p.2.2.1 p.1.2.length p.2.2.2]
theorem mcells_one1 (p : MV) : mcells [p] = cells3 p := rfl

set_option maxRecDepth 100000 in
set_option maxHeartbeats 4000000 in
/-- slices.AppendSeq of nothing and of what is told: just that, in a row of its own. -/
theorem appendSeq14 (F : Fence) (n : Nat) (hf : F.fn 69) (hro : F.round = none) (hn : 2 ≤ n) (g : Nat) (lb : Array Value) (hFg : F.fn g) (eg : ∀ args w, (callFunc g args).run Tryd.prog w = .ok (.enter g args) w)
    (S Sp : List MV → Prop) (N : Nat) (hN : N ≤ 1000000) (w : World) (hseq : SeqStopsK F (n - 1) Tryd.prog g lb (fun p : MV => #[mval p]) KeepsWalks S Sp N w) :
    CallsIn F n Tryd.prog 69 #[.slice none 0 0, .func (.func g) #[] lb] w fun e w' => ∃ (v : Value) (ps : List MV), e = .returned v ∧ S ps ∧ w'.ownsRow w.heap.size 59 3 v ps.length (mcells ps) ∧ Below w.heap.size w w' := by
  have h1 : 1 ≤ n := by omega
  obtain ⟨i0, hi, hz0, hz1, hz2⟩ := info_parts infoM14
  refine callsIn_of_wp_marks Tryd.func69 rfl hf ?_ hro
  simp only [Tryd.ntmps69, List.size_toArray, List.length_cons, List.length_nil, Nat.reduceAdd, Nat.reduceSub, Array.replicate_succ, Array.replicate_zero, List.push_toArray, List.append_toArray, List.nil_append, List.cons_append]
  gi_wp2
  have hB0 : Below w.heap.size w (w.alloc (.cells #[.slice none 0 0] 54)) := below_own _
  have bx0 := Boxed.new w 54 (.slice none 0 0)
  refine wpIn_rangeFunc_ownH hro h1 (gf := g) (lb := lb) rfl hFg eg hseq (fun h k => h.trans k) walksK_b hB0 (fun _ => rfl)
    (fun pre W => (∃ v, Boxed W w.heap.size 54 v ∧ W.ownsRow w.heap.size 59 3 v pre.length (mcells pre) ∧ True) ∧ Below w.heap.size w W)
    (fun _ _ _ => False)
    (OwnFrom.and (Own.from (holdsRow_own _ _ _ _ _ (fun pre : List MV => pre.length) mcells (fun _ _ => True)) _) (ownFrom_below (Nat.le_refl _) (by simp)))
    (fun _ _ _ _ _ hs _ _ => hs)
    ⟨⟨_, bx0, World.ownsRow_nil _ _ _ _, trivial⟩, hB0⟩
    (fun p a' W => ∃ Bx, w.heap.size < Bx ∧ BoxM W Bx p ∧ a' = { tmps := #[.slice none 0 0, .func (.func g) #[] lb, .pointer (some ⟨w.heap.size, 0, none⟩), undef, .slice none 0 0, .pointer (some ⟨Bx, 0, none⟩), .func (.func g) #[] lb, mval p, undef, undef, undef, undef, undef], defers := [] })
    (fun p a' _ X Y row hs hg hr => by obtain ⟨Bx, h1, h2, h3⟩ := hs; exact ⟨Bx, h1, boxM_own Bx p () X Y row h2 hg (fun r e => (hr r e).2), h3⟩)
    ?assign ?body ?done ?stop
  case assign =>
    rintro l pre ⟨⟨k, ids⟩, ⟨a1, c1⟩, ⟨a2, c2⟩⟩ W K ⟨⟨v, bS, hrow, _⟩, hB⟩ hK
    have hsz := bS.lt
    dsimp only [mval]
    gi_wp2
    exact hK _ _ ((KeepsOthers.alloc _ _).from _) (KeepsWalks.alloc _ _) ⟨⟨v, bS.alloc _, hrow.alloc _, trivial⟩, hB.alloc hB.size _⟩ ⟨W.heap.size, hsz, heap_alloc_new W _, rfl⟩
  case body =>
    rintro l pre ⟨⟨k, ids⟩, ⟨a1, c1⟩, ⟨a2, c2⟩⟩ a' W hl _ ⟨⟨v, bS, hrow, _⟩, hB⟩ ⟨Bx, hBx, bX, rfl⟩ hlt
    have hsz := hB.size
    have cB := bS.cell
    have x0 : W.cell? ⟨Bx, 0, none⟩ = some (.int .i64 k) := Lib.cell_of_heap bX 0
    have x1 : W.cell? ⟨Bx, 1, none⟩ = some (.slice a1 ids.length c1) := Lib.cell_of_heap bX 1
    have x2 : W.cell? ⟨Bx, 2, none⟩ = some (.slice a2 ids.length c2) := Lib.cell_of_heap bX 2
    have hte : (54 : TypeId) ≠ 59 := by decide
    gi_wp2_with (first
      | (gi_at_builtin; refine wpListIn_append_own _ rfl _ _ 54 rfl w.heap.size 59 i0 (.agg #[.int .i64 0, .slice none 0 0, .slice none 0 0]) 3 56 Tryd.underlying54 hi hz0 hz1 hz2 rfl (by decide) _ pre.length _ rfl (hrow.alloc _) ⟨W.heap.size, 0, none⟩ 1 1 [.int .i64 k, .slice a1 ids.length c1, .slice a2 ids.length c2] rfl rfl (fun q u hu => by rw [Addr.add_lit, Nat.zero_add]; exact cells_made _ _ _ q u (by simpa using hu)) (fun u hu => by simp at hu; rcases hu with rfl | rfl | rfl <;> rfl) (by unfold maxLen; omega) (by omega) (by simp; omega) ?_; intro v' w3 hown' hg3 hnil3
         obtain ⟨g', cap', rfl⟩ := ownsRow_succ hown'
         obtain ⟨q1, q2, q3, q4, q5⟩ := bS.appended hte hrow hsz (Nat.le_refl _) hown' hg3
         have c3 := q1.cell
         have f3 := q1.frozen
         have HQ2 := Lib.hid q2
         have HQ3 := Lib.hid q3
         have HQ4 := Lib.hid q4
         have HQ5 := Lib.hid q5
         clear hown' hg3 hnil3 q1 q2 q3 q4 q5)
      | gi_in)
    have hO : (w3.setCell ⟨w.heap.size, 0, none⟩ (.slice (some ⟨g', 0, none⟩) (pre.length + 1) cap')).ownsRow w.heap.size 59 3 (.slice (some ⟨g', 0, none⟩) (pre.length + 1) cap') (pre ++ [((k, ids), (a1, c1), (a2, c2))]).length (mcells (pre ++ [((k, ids), (a1, c1), (a2, c2))])) := by
      rw [List.length_append, mcells_append]
      exact HQ3.out
    exact ⟨HQ4.out.from _, HQ4.out.walks, ⟨_, HQ2.out, hO, trivial⟩, hB.trans HQ5.out⟩
  case done =>
    rintro D ps W hD hS ⟨⟨v, bS, hrow, _⟩, hB⟩ hK
    have cB := bS.cell
    gi_wp2
    refine ⟨by simp, .inl ⟨_, _, rfl, run_takeDeferred hK, ?_⟩⟩
    exact ⟨_, results_tmp rfl _ _ _, v, ps, rfl, hS, ownsRow_putObj hrow _ hK rfl, hB.grown (grownBy_putObj' W D _) hB.size (fun k e => by cases e; exact Nat.le_trans hB0.size hD)⟩
  case stop => rintro D c pre W _ _ h _; exact h.elim

set_option maxHeartbeats 1000000 in
theorem collect14 (F : Fence) (n : Nat) (hf : F.fn 48) (hf2 : F.fn 69) (hro : F.round = none) (hn : 3 ≤ n) (g : Nat) (lb : Array Value) (hFg : F.fn g) (eg : ∀ args w, (callFunc g args).run Tryd.prog w = .ok (.enter g args) w)
    (S Sp : List MV → Prop) (N : Nat) (hN : N ≤ 1000000) (w : World) (hseq : SeqStopsK F (n - 1 - 1) Tryd.prog g lb (fun p : MV => #[mval p]) KeepsWalks S Sp N w) :
    CallsIn F n Tryd.prog 48 #[.func (.func g) #[] lb] w fun e w' => ∃ (v : Value) (ps : List MV), e = .returned v ∧ S ps ∧ w'.ownsRow w.heap.size 59 3 v ps.length (mcells ps) ∧ Below w.heap.size w w' := by
  have h1 : 1 ≤ n := by omega
  refine callsIn_of_wp Tryd.func48 rfl hf ?_ hro
  simp only [Tryd.ntmps48, List.size_toArray, List.length_cons, List.length_nil, Nat.reduceAdd, Nat.reduceSub, Array.replicate_succ, Array.replicate_zero, List.push_toArray, List.append_toArray, List.nil_append, List.cons_append]
  gi_wp2_with (gi_at_call 69; refine (appendSeq14 F (n - 1) hf2 hro (by omega) g lb hFg eg S Sp N hN _ hseq).mono ?_; rintro e w' ⟨v, ps, rfl, hS, hrow, hb⟩)
  go_ret
  exact ⟨v, ps, rfl, hS, hrow, hb⟩
end Go.Proofs.YtlkmabnjmklkpaaDoor
