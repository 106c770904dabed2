/- The document's Some. -/
import Derived.Test.YtnnhgbncghpecaaGreatRefTwo10
import Derived.Deep.CutRange
import Derived.Deep.DeepCutAuto
namespace Go.Proofs.YtnnhgbncghpecaaGreat
open Go.RowKit
set_option maxRecDepth 100000

/-- What the document's Match tells of whether there is a match. -/
def RefP (x : Option E10) (w : World) (r : Ending) (w' : World) : Prop := ∃ (b1 : Option Addr) (n1 k1 : Nat) (b2 : Option Addr) (n2 k2 : Nat), r = .returned (.tuple #[.agg #[.slice b1 n1 k1, .slice b2 n2 k2], .bool x.isSome]) ∧ Below w.heap.size w w'
/-- What is told of an env: nothing, or rows of its own. -/
def EnvSaid (x : Option E10) (w w' : World) (b1 : Option Addr) (n1 k1 : Nat) (b2 : Option Addr) (n2 k2 : Nat) : Prop :=
  (x = none → b1 = none ∧ n1 = 0 ∧ k1 = 0 ∧ b2 = none ∧ n2 = 0 ∧ k2 = 0) ∧ ∀ e', x = some e' → n1 = e'.1.length ∧ n2 = e'.2.length ∧ Own10 w.heap.size w' e' (.slice b1 n1 k1) (.slice b2 n2 k2)
theorem envNone {w w' : World} {x : Option E10} (h : x = none) : EnvSaid x w w' none 0 0 none 0 0 := ⟨fun _ => ⟨rfl, rfl, rfl, rfl, rfl, rfl⟩, fun e' he => by rw [h] at he; cases he⟩
def RefQ (x : Option E10) (w : World) (r : Ending) (w' : World) : Prop := ∃ (b1 : Option Addr) (n1 k1 : Nat) (b2 : Option Addr) (n2 k2 : Nat), r = .returned (.tuple #[.agg #[.slice b1 n1 k1, .slice b2 n2 k2], .bool x.isSome]) ∧ Below w.heap.size w w' ∧ EnvSaid x w w' b1 n1 k1 b2 n2 k2
theorem RefQ.p {x : Option E10} {w : World} {r : Ending} {w' : World} (h : RefQ x w r w') : RefP x w r w' := by
  obtain ⟨b1, n1, k1, b2, n2, k2, h1, h2, -⟩ := h
  exact ⟨b1, n1, k1, b2, n2, k2, h1, h2⟩
section
variable {w : World} {c : C10} {ao : Option Addr} {ac : Nat} {xo : Option Addr} {xc : Nat} {f : F10} {fo : Option Addr} {fc : Nat} {e : E10} {ho : Option Addr} {hc : Nat} {vo : Option Addr} {vc : Nat}
/-- The head of a match. -/
def headB (c : C10) (f : F10) (e : E10) : Bool := madeP e && ((decide (c.kind = 1) || decide (c.kind = 2)) && (decide (f.type = c.type) && decide (f.args.length = c.args.length)))
theorem firstB_head (h : headB c f e = false) : firstB c [f] e = none := by
  cases hx : firstB c [f] e with
  | none => rfl
  | some e' =>
    obtain ⟨h1, h2, h3, h4, -⟩ := firstB_known hx
    unfold headB at h
    rw [h1, decide_eq_true h3, decide_eq_true h4] at h
    rcases h2 with h2 | h2 <;> simp [h2] at h
theorem firstB_fits (h : headB c f e = true) : firstB c [f] e = fitsP (c.args.zip f.args) e := by
  unfold headB at h
  simp only [Bool.and_eq_true, Bool.or_eq_true, decide_eq_true_eq] at h
  obtain ⟨h1, h2, h3, h4⟩ := h
  unfold firstB
  rw [if_pos (by rw [h1]; rcases h2 with h2 | h2 <;> simp [h2]), first10]
  unfold hit10
  rw [if_pos (by simp [h3, h4])]
  cases fitsP (c.args.zip f.args) e with
  | none => rfl
  | some e' => rfl
theorem ref_end {Q : Ending → World → Prop} {a : Act} {W : World} {g : Nat} {cs : Array Value} {v0 v1 : Value} {b : Bool} (hp : a.tmps[6]?.getD undef = .pointer (some ⟨g, 0, none⟩)) (h7 : a.tmps[7]?.getD undef = .bool b) (hd : a.defers = []) (h : W.heap[g]? = some (.cells cs 47 (0, 0))) (hs : cs.size = 2)
    (hQ : ∀ W3, W.grownBy W3 (some g) → Q (.returned (.tuple #[.agg #[v0, v1], .bool b])) W3) :
    bodyPost Tryz.prog Tryz.f11 Q .ret a ((W.setCell ⟨g, 0, none⟩ v0).setCell ⟨g, 1, none⟩ v1) := by
  obtain ⟨h3, g3⟩ := two_set v0 v1 h hs
  generalize ((W.setCell ⟨g, 0, none⟩ v0).setCell ⟨g, 1, none⟩ v1) = W3 at h3 g3 ⊢
  have d0 := Lib.cell_of_heap h3 0
  have d1 := Lib.cell_of_heap h3 1
  exact bodyPost_ret (v := .tuple #[.agg #[v0, v1], .bool b]) (by simp [results, Tryz.results11, hp, h7, go_sem, d0, d1]) hd (hQ W3 g3)
set_option maxRecDepth 100000 in
set_option maxHeartbeats 4000000 in
theorem ref_refuses (hA : Sl10 w.heap.size w c.args.length ao ac (cellsA c.args)) (hF : Sl10 w.heap.size w f.args.length fo fc (cellsV f.args)) (hE : Env10 w.heap.size w e ho hc vo vc) (hh : headB c f e = false) :
    Calls Tryz.prog 11 #[aggC c ao ac xo xc, aggF f fo fc, aggE e ho hc vo vc] w (RefQ (firstB c [f] e) w) := by
  rw [firstB_head hh]
  have m1 : c.args.length ≤ 9223372036854775807 := by have := hA.cap; have := hA.top; unfold maxLen at this; omega
  have m2 : f.args.length ≤ 9223372036854775807 := by have := hF.cap; have := hF.top; unfold maxLen at this; omega
  obtain ⟨w0, hw0⟩ : ∃ w0, w0 = (((w.alloc (.cells (cellsC c ao ac xo xc) 33)).alloc (.cells #[.int .i64 f.id, .int .i64 f.type, .slice fo f.args.length fc] 36)).alloc (.cells #[.slice ho e.1.length hc, .slice vo e.2.length vc] 47)).alloc (.cells #[.slice none 0 0, .slice none 0 0] 47) := ⟨_, rfl⟩
  have hb0 : Below w.heap.size w w0 := by rw [hw0]; exact below_new (below_new (below_new (below_own _) _) _) _
  have hs0 : w0.heap.size = w.heap.size + 4 := by rw [hw0]; simp
  obtain ⟨q1, q2, q3, q4⟩ : w0.heap[w.heap.size]? = some (.cells (cellsC c ao ac xo xc) 33 (0, 0)) ∧ w0.heap[w.heap.size + 1]? = some (.cells #[.int .i64 f.id, .int .i64 f.type, .slice fo f.args.length fc] 36 (0, 0)) ∧ w0.heap[w.heap.size + 2]? = some (.cells #[.slice ho e.1.length hc, .slice vo e.2.length vc] 47 (0, 0)) ∧ w0.heap[w.heap.size + 3]? = some (.cells #[.slice none 0 0, .slice none 0 0] 47 (0, 0)) := by
    rw [hw0]
    exact heap_four _ _ _ _
  have HB0 := Lib.hid hb0
  have HQ1 := Lib.hid q1
  have HQ2 := Lib.hid q2
  have HQ4 := Lib.hid q4
  have HM := Lib.hid (refMade_any e ho hc vo vc w0 (hE.up hb0 hb0.size))
  unfold aggE at HM ⊢
  unfold RefQ
  obtain ⟨ck, ct, cl, cx⟩ := c
  obtain ⟨fi, ft, fl⟩ := f
  simp only at m1 m2 hw0 HQ1 HQ2 hh
  clear hA hF hE q1 q2 q3 q4 hb0
  generalize e.1.length = n1 at *
  generalize e.2.length = n2 at *
  unfold headB at hh
  simp only at hh
  generalize madeP e = mb at *
  cases mb with
  | false =>
    clear hh
    go_enter Tryz.func11, Tryz.ntmps11
    go_wp2_with (go_at_call 28; go_must (rw [← hw0]; clear hw0; refine (HM.out).mono ?_; rintro r w1 ⟨rfl, hb⟩; have HB1 := Lib.hid (HB0.out.trans (hb.mono HB0.out.size)); have H1 := Lib.hid ((hb.block w.heap.size (by omega)).trans HQ1.out); have H2 := Lib.hid ((hb.block (w.heap.size + 1) (by omega)).trans HQ2.out); have H4 := Lib.hid ((hb.block (w.heap.size + 3) (by omega)).trans HQ4.out); have y1 := (fun j => Lib.cell_of_heap H1.out j); have y2 := (fun j => Lib.cell_of_heap H2.out j); have y4 := (fun j => Lib.cell_of_heap H4.out j); have z4 := (fun j => Lib.frozen_of_heap H4.out j); clear hb))
    exact ref_end rfl rfl rfl H4.out rfl fun W3 g3 => ⟨_, _, _, _, _, _, rfl, HB1.out.grown g3 HB1.out.size (fun k hk => by obtain rfl := Option.some.inj hk; omega), envNone rfl⟩
  | true =>
    by_cases k1 : ck = 1 ∨ ck = 2
    · by_cases k2 : ft = ct
      · have k3 : fl.length ≠ cl.length := by
          intro k3
          rcases k1 with rfl | rfl <;> simp [k2, k3] at hh
        subst k2
        have b4 : ((fl.length : Int) == (cl.length : Int)) = false := by simp; omega
        clear hh k3
        rcases k1 with rfl | rfl
        · as_aux_lemma =>
          go_enter Tryz.func11, Tryz.ntmps11
          go_wp2_with (go_at_call 28; go_must (rw [← hw0]; clear hw0; refine (HM.out).mono ?_; rintro r w1 ⟨rfl, hb⟩; have HB1 := Lib.hid (HB0.out.trans (hb.mono HB0.out.size)); have H1 := Lib.hid ((hb.block w.heap.size (by omega)).trans HQ1.out); have H2 := Lib.hid ((hb.block (w.heap.size + 1) (by omega)).trans HQ2.out); have H4 := Lib.hid ((hb.block (w.heap.size + 3) (by omega)).trans HQ4.out); have y1 := (fun j => Lib.cell_of_heap H1.out j); have y2 := (fun j => Lib.cell_of_heap H2.out j); have y4 := (fun j => Lib.cell_of_heap H4.out j); have z4 := (fun j => Lib.frozen_of_heap H4.out j); clear hb))
          exact ref_end rfl rfl rfl H4.out rfl fun W3 g3 => ⟨_, _, _, _, _, _, rfl, HB1.out.grown g3 HB1.out.size (fun k hk => by obtain rfl := Option.some.inj hk; omega), envNone rfl⟩
        · as_aux_lemma =>
          go_enter Tryz.func11, Tryz.ntmps11
          go_wp2_with (go_at_call 28; go_must (rw [← hw0]; clear hw0; refine (HM.out).mono ?_; rintro r w1 ⟨rfl, hb⟩; have HB1 := Lib.hid (HB0.out.trans (hb.mono HB0.out.size)); have H1 := Lib.hid ((hb.block w.heap.size (by omega)).trans HQ1.out); have H2 := Lib.hid ((hb.block (w.heap.size + 1) (by omega)).trans HQ2.out); have H4 := Lib.hid ((hb.block (w.heap.size + 3) (by omega)).trans HQ4.out); have y1 := (fun j => Lib.cell_of_heap H1.out j); have y2 := (fun j => Lib.cell_of_heap H2.out j); have y4 := (fun j => Lib.cell_of_heap H4.out j); have z4 := (fun j => Lib.frozen_of_heap H4.out j); clear hb))
          exact ref_end rfl rfl rfl H4.out rfl fun W3 g3 => ⟨_, _, _, _, _, _, rfl, HB1.out.grown g3 HB1.out.size (fun k hk => by obtain rfl := Option.some.inj hk; omega), envNone rfl⟩
      · have b3 : (ft == ct) = false := by simp [k2]
        clear hh k2
        rcases k1 with rfl | rfl
        · as_aux_lemma =>
          go_enter Tryz.func11, Tryz.ntmps11
          go_wp2_with (go_at_call 28; go_must (rw [← hw0]; clear hw0; refine (HM.out).mono ?_; rintro r w1 ⟨rfl, hb⟩; have HB1 := Lib.hid (HB0.out.trans (hb.mono HB0.out.size)); have H1 := Lib.hid ((hb.block w.heap.size (by omega)).trans HQ1.out); have H2 := Lib.hid ((hb.block (w.heap.size + 1) (by omega)).trans HQ2.out); have H4 := Lib.hid ((hb.block (w.heap.size + 3) (by omega)).trans HQ4.out); have y1 := (fun j => Lib.cell_of_heap H1.out j); have y2 := (fun j => Lib.cell_of_heap H2.out j); have y4 := (fun j => Lib.cell_of_heap H4.out j); have z4 := (fun j => Lib.frozen_of_heap H4.out j); clear hb))
          exact ref_end rfl rfl rfl H4.out rfl fun W3 g3 => ⟨_, _, _, _, _, _, rfl, HB1.out.grown g3 HB1.out.size (fun k hk => by obtain rfl := Option.some.inj hk; omega), envNone rfl⟩
        · as_aux_lemma =>
          go_enter Tryz.func11, Tryz.ntmps11
          go_wp2_with (go_at_call 28; go_must (rw [← hw0]; clear hw0; refine (HM.out).mono ?_; rintro r w1 ⟨rfl, hb⟩; have HB1 := Lib.hid (HB0.out.trans (hb.mono HB0.out.size)); have H1 := Lib.hid ((hb.block w.heap.size (by omega)).trans HQ1.out); have H2 := Lib.hid ((hb.block (w.heap.size + 1) (by omega)).trans HQ2.out); have H4 := Lib.hid ((hb.block (w.heap.size + 3) (by omega)).trans HQ4.out); have y1 := (fun j => Lib.cell_of_heap H1.out j); have y2 := (fun j => Lib.cell_of_heap H2.out j); have y4 := (fun j => Lib.cell_of_heap H4.out j); have z4 := (fun j => Lib.frozen_of_heap H4.out j); clear hb))
          exact ref_end rfl rfl rfl H4.out rfl fun W3 g3 => ⟨_, _, _, _, _, _, rfl, HB1.out.grown g3 HB1.out.size (fun k hk => by obtain rfl := Option.some.inj hk; omega), envNone rfl⟩
    · have b1 : ¬ ck = 1 := fun h => k1 (Or.inl h)
      have b2 : ¬ ck = 2 := fun h => k1 (Or.inr h)
      have n1 : (ck != 1) = true := by simp [b1]
      have n2 : (ck != 2) = true := by simp [b2]
      clear hh k1
      go_enter Tryz.func11, Tryz.ntmps11
      go_wp2_with (go_at_call 28; go_must (rw [← hw0]; clear hw0; refine (HM.out).mono ?_; rintro r w1 ⟨rfl, hb⟩; have HB1 := Lib.hid (HB0.out.trans (hb.mono HB0.out.size)); have H1 := Lib.hid ((hb.block w.heap.size (by omega)).trans HQ1.out); have H2 := Lib.hid ((hb.block (w.heap.size + 1) (by omega)).trans HQ2.out); have H4 := Lib.hid ((hb.block (w.heap.size + 3) (by omega)).trans HQ4.out); have y1 := (fun j => Lib.cell_of_heap H1.out j); have y2 := (fun j => Lib.cell_of_heap H2.out j); have y4 := (fun j => Lib.cell_of_heap H4.out j); have z4 := (fun j => Lib.frozen_of_heap H4.out j); clear hb))
      exact ref_end rfl rfl rfl H4.out rfl fun W3 g3 => ⟨_, _, _, _, _, _, rfl, HB1.out.grown g3 HB1.out.size (fun k hk => by obtain rfl := Option.some.inj hk; omega), envNone rfl⟩
end
end Go.Proofs.YtnnhgbncghpecaaGreat

namespace Go.Proofs.YtnnhgbncghpecaaGreat
open Go.RowKit
set_option maxRecDepth 100000

structure RAt (w W : World) (c : C10) (ao : Option Addr) (ac : Nat) (xo : Option Addr) (xc : Nat) (fi ft : Int) (fo : Option Addr) (fc : Nat) (n : Nat) (ej : E10) (g8 : Nat) (a1 : Option Addr) (d1 : Nat) (a2 : Option Addr) (d2 : Nat) : Prop where
  bel : Below w.heap.size w W
  le : w.heap.size + 4 ≤ W.heap.size
  cb : W.heap[w.heap.size]? = some (.cells (cellsC c ao ac xo xc) 33 (0, 0))
  fb : W.heap[w.heap.size + 1]? = some (.cells #[.int .i64 fi, .int .i64 ft, .slice fo c.args.length fc] 36 (0, 0))
  rb : W.heap[w.heap.size + 3]? = some (.cells #[.slice none 0 0, .slice none 0 0] 47 (0, 0))
  eb : W.heap[g8]? = some (.cells #[.slice a1 n d1, .slice a2 n d2] 47 (0, 0))
  ne : g8 ≠ w.heap.size + 3
  own : Own10 w.heap.size W ej (.slice a1 n d1) (.slice a2 n d2)
  even : Even n ej
section
variable {w W W' : World} {c : C10} {ao : Option Addr} {ac : Nat} {xo : Option Addr} {xc : Nat} {fi ft : Int} {fo : Option Addr} {fc : Nat} {n : Nat} {ej : E10} {g8 : Nat} {a1 : Option Addr} {d1 : Nat} {a2 : Option Addr} {d2 : Nat}
theorem RAt.low (h : RAt w W c ao ac xo xc fi ft fo fc n ej g8 a1 d1 a2 d2) : w.heap.size ≤ W.heap.size := h.bel.size
theorem RAt.old (h : RAt w W c ao ac xo xc fi ft fo fc n ej g8 a1 d1 a2 d2) (b : Below W.heap.size W W') : RAt w W' c ao ac xo xc fi ft fo fc n ej g8 a1 d1 a2 d2 :=
  ⟨h.bel.trans (b.mono h.low), Nat.le_trans h.le b.size, (b.block _ (lt_of_heap h.cb)).trans h.cb, (b.block _ (lt_of_heap h.fb)).trans h.fb, (b.block _ (lt_of_heap h.rb)).trans h.rb, (b.block _ (lt_of_heap h.eb)).trans h.eb, h.ne, h.own.old b, h.even⟩
/-- A variable's cells. -/
theorem RAt.reads (h : RAt w W c ao ac xo xc fi ft fo fc n ej g8 a1 d1 a2 d2) {k : Nat} (hk : k < n) :
    ∃ g1 g2, a1 = some ⟨g1, 0, none⟩ ∧ a2 = some ⟨g2, 0, none⟩ ∧ w.heap.size ≤ g1 ∧ w.heap.size ≤ g2 ∧ (∃ cs, W.heap[g1]? = some (.cells cs 4 (0, 0))) ∧ (∃ cs, W.heap[g2]? = some (.cells cs 27 (0, 0))) ∧
      W.cell? ⟨g1, k, none⟩ = some (.bool (ej.1.getD k false)) ∧ W.cell? ⟨g2, k * 3, none⟩ = some (.int .u8 (ej.2.getD k zeroT).1) ∧ W.cell? ⟨g2, k * 3 + 1, none⟩ = some (.int .i64 (ej.2.getD k zeroT).2.1) ∧ W.cell? ⟨g2, k * 3 + 2, none⟩ = some (.string (ej.2.getD k zeroT).2.2) := by
  have e1 := h.even.1
  have e2 := h.even.2
  obtain ⟨p1, s1, cur1, q1, hb1, hp1, -, -, hc1⟩ := owns_at h.own.has (by omega)
  obtain ⟨p2, s2, cur2, q2, hb2, hp2, -, -, hc2⟩ := owns_at h.own.vals (by omega)
  rw [e1] at q1 hc1
  rw [e2] at q2 hc2
  simp only [Value.slice.injEq, true_and] at q1 q2
  obtain ⟨rfl, rfl⟩ := q1
  obtain ⟨rfl, rfl⟩ := q2
  obtain ⟨t1, t2, t3⟩ := cellsV_get ej.2 k (by omega)
  exact ⟨p1, p2, rfl, rfl, hb1, hb2, ⟨_, hp1⟩, ⟨_, hp2⟩, (hc1 k (by omega)).trans (cellsB_get ej.1 k (by omega)), (hc2 (k * 3) (by omega)).trans t1, (hc2 (k * 3 + 1) (by omega)).trans t2, (hc2 (k * 3 + 2) (by omega)).trans t3⟩
/-- A variable is set. -/
theorem RAt.bind {g1 g2 : Nat} (h : RAt w W c ao ac xo xc fi ft fo fc n ej g8 (some ⟨g1, 0, none⟩) d1 (some ⟨g2, 0, none⟩) d2) (k : Nat) (v : V3) (h1 : ∃ cs, W.heap[g1]? = some (.cells cs 4 (0, 0))) (h2 : ∃ cs, W.heap[g2]? = some (.cells cs 27 (0, 0))) (b1 : w.heap.size ≤ g1) (b2 : w.heap.size ≤ g2) :
    RAt w ((((W.setCell ⟨g1, k, none⟩ (.bool true)).setCell ⟨g2, k * 3, none⟩ (.int .u8 v.1)).setCell ⟨g2, k * 3 + 1, none⟩ (.int .i64 v.2.1)).setCell ⟨g2, k * 3 + 2, none⟩ (.string v.2.2)) c ao ac xo xc fi ft fo fc n (bind10 k v ej) g8 (some ⟨g1, 0, none⟩) d1 (some ⟨g2, 0, none⟩) d2 := by
  obtain ⟨cs1, h1⟩ := h1
  obtain ⟨cs2, h2⟩ := h2
  have n12 : g1 ≠ g2 := ne_block h1 h2 (by decide)
  have own := own_bind (base := w.heap.size) (w := W) (e := ej) (g1 := g1) (c1 := d1) (g2 := g2) (c2 := d2) (by rw [h.even.1, h.even.2]; exact h.own) n12 k v true
  rw [h.even.1, h.even.2] at own
  have hs : ((((W.setCell ⟨g1, k, none⟩ (.bool true)).setCell ⟨g2, k * 3, none⟩ (.int .u8 v.1)).setCell ⟨g2, k * 3 + 1, none⟩ (.int .i64 v.2.1)).setCell ⟨g2, k * 3 + 2, none⟩ (.string v.2.2)).heap.size = W.heap.size := by simp
  exact ⟨(((h.bel.setCell b1 _).setCell b2 _).setCell b2 _).setCell b2 _, by rw [hs]; exact h.le, heap_set4 h.cb (ne_block h.cb h1 (by decide)) (ne_block h.cb h2 (by decide)), heap_set4 h.fb (ne_block h.fb h1 (by decide)) (ne_block h.fb h2 (by decide)), heap_set4 h.rb (ne_block h.rb h1 (by decide)) (ne_block h.rb h2 (by decide)), heap_set4 h.eb (ne_block h.eb h1 (by decide)) (ne_block h.eb h2 (by decide)), h.ne, own, ⟨by simp [bind10, h.even.1], by simp [bind10, h.even.2]⟩⟩
end
section
variable {ai : Int} {av v : V3} {ej : E10} {n : Nat}
theorem fit1_two_no (he : Even n ej) (hk : known10 ai n = false) : fit1 ⟨2, ai, av⟩ v ej = none := by
  unfold fit1
  rw [if_neg (show ¬ (2 : Int) = 1 by decide), if_pos rfl, he.1, hk]
  exact rfl
theorem fit1_two_yes {k : Nat} (he : Even n ej) (hk : known10 (k : Int) n = true) : fit1 ⟨2, (k : Int), av⟩ v ej = some (bind10 k v ej) := by
  unfold fit1
  rw [if_neg (show ¬ (2 : Int) = 1 by decide), if_pos rfl, he.1, hk]
  exact rfl
theorem fit1_three_no (he : Even n ej) (hk : known10 ai n = false) : fit1 ⟨3, ai, av⟩ v ej = none := by
  unfold fit1
  rw [if_neg (show ¬ (3 : Int) = 1 by decide), if_neg (show ¬ (3 : Int) = 2 by decide), if_pos rfl, he.1, hk]
  exact rfl
theorem fit1_four {b : Bool} (hq : eqvB av v = b) : fit1 ⟨4, ai, av⟩ v ej = if b = true then some ej else none := by
  subst hq
  rfl
end
end Go.Proofs.YtnnhgbncghpecaaGreat

namespace Go.Proofs.YtnnhgbncghpecaaGreat
open Go.RowKit
set_option maxRecDepth 100000

section
variable {w : World} {c : C10} {ao : Option Addr} {ac : Nat} {xo : Option Addr} {xc : Nat} {f : F10} {fo : Option Addr} {fc : Nat} {e : E10} {ho : Option Addr} {hc : Nat} {vo : Option Addr} {vc : Nat}
set_option maxRecDepth 100000 in
set_option maxHeartbeats 4000000 in
theorem ref_goes (hA : Sl10 w.heap.size w c.args.length ao ac (cellsA c.args)) (hF : Sl10 w.heap.size w f.args.length fo fc (cellsV f.args)) (hE : Env10 w.heap.size w e ho hc vo vc) (hn : e.1.length ≤ 100000) (hh : headB c f e = true) :
    Calls Tryz.prog 11 #[aggC c ao ac xo xc, aggF f fo fc, aggE e ho hc vo vc] w (RefQ (firstB c [f] e) w) := by
  rw [firstB_fits hh]
  have HA := Lib.hid hA
  have HF := Lib.hid hF
  have HE := Lib.hid hE
  have m1 : c.args.length ≤ 9223372036854775807 := by have := hA.cap; have := hA.top; unfold maxLen at this; omega
  have m2 : f.args.length ≤ 9223372036854775807 := by have := hF.cap; have := hF.top; unfold maxLen at this; omega
  obtain ⟨w0, hw0⟩ : ∃ w0, w0 = (((w.alloc (.cells (cellsC c ao ac xo xc) 33)).alloc (.cells #[.int .i64 f.id, .int .i64 f.type, .slice fo f.args.length fc] 36)).alloc (.cells #[.slice ho e.1.length hc, .slice vo e.2.length vc] 47)).alloc (.cells #[.slice none 0 0, .slice none 0 0] 47) := ⟨_, rfl⟩
  have hb0 : Below w.heap.size w w0 := by rw [hw0]; exact below_new (below_new (below_new (below_own _) _) _) _
  have hs0 : w0.heap.size = w.heap.size + 4 := by rw [hw0]; simp
  obtain ⟨q1, q2, q3, q4⟩ : w0.heap[w.heap.size]? = some (.cells (cellsC c ao ac xo xc) 33 (0, 0)) ∧ w0.heap[w.heap.size + 1]? = some (.cells #[.int .i64 f.id, .int .i64 f.type, .slice fo f.args.length fc] 36 (0, 0)) ∧ w0.heap[w.heap.size + 2]? = some (.cells #[.slice ho e.1.length hc, .slice vo e.2.length vc] 47 (0, 0)) ∧ w0.heap[w.heap.size + 3]? = some (.cells #[.slice none 0 0, .slice none 0 0] 47 (0, 0)) := by
    rw [hw0]
    exact heap_four _ _ _ _
  have HB0 := Lib.hid hb0
  have HQ1 := Lib.hid q1
  have HQ2 := Lib.hid q2
  have HQ4 := Lib.hid q4
  have HQ3 := Lib.hid q3
  have HM := Lib.hid (refMade_any e ho hc vo vc w0 (hE.up hb0 hb0.size))
  unfold aggE at HM ⊢
  obtain ⟨ck, ct, cl, cx⟩ := c
  obtain ⟨fi, ft, fl⟩ := f
  have hh' := hh
  unfold headB at hh'
  simp only [Bool.and_eq_true, Bool.or_eq_true, decide_eq_true_eq] at hh'
  obtain ⟨hmd, hkind, htype, hlen⟩ := hh'
  simp only at m1 m2 hw0 HQ1 HQ2 HA HF
  rw [hmd] at HM
  have hev := made_even hmd
  have HEv := Lib.hid hev
  have hn2 : e.2.length = e.1.length := hev.2
  clear hA hF hE q1 q2 q3 q4 hb0 hh hmd hev
  rw [hn2] at HM HQ3 hw0 ⊢
  have HL := Lib.hid hlen
  rw [hlen] at m2 hw0 HQ2
  subst htype
  obtain ⟨n, hnn⟩ : ∃ n, n = e.1.length := ⟨_, rfl⟩
  have HN := Lib.hid hnn
  rw [← hnn] at HM HQ3 hw0 hn hn2 HEv ⊢
  clear hnn
  simp only
  unfold aggF
  simp only
  rw [hlen]
  clear hlen
  go_enter Tryz.func11, Tryz.ntmps11
  go_upto_region 1 with fail
  rw [← hw0]
  clear hw0
  go_cut [42] from 14 to 42 (fun s42 wx => s42 = .bool false ∧ Hid (Below w0.heap.size w0 wx))
  case first =>
    have y3 := fun j => Lib.cell_of_heap HQ3.out j
    rcases hkind with rfl | rfl
    all_goals
      go_wp2_with (go_at_call 28; go_must (refine (HM.out).mono ?_; rintro r w1 ⟨rfl, hb⟩; have HB1 := Lib.hid hb; have H1 := Lib.hid ((hb.block w.heap.size (by omega)).trans HQ1.out); have H2 := Lib.hid ((hb.block (w.heap.size + 1) (by omega)).trans HQ2.out); have y1 := (fun j => Lib.cell_of_heap H1.out j); have y2 := (fun j => Lib.cell_of_heap H2.out j); clear hb))
      go_meet
      exact ⟨rfl, HB1⟩
  case rest =>
    obtain ⟨rfl, HBc⟩ := hcut
    have HB1 := Lib.hid (HB0.out.trans (HBc.out.mono HB0.out.size))
    have H1 := Lib.hid ((HBc.out.block w.heap.size (by omega)).trans HQ1.out)
    have H2 := Lib.hid ((HBc.out.block (w.heap.size + 1) (by omega)).trans HQ2.out)
    have H3 := Lib.hid ((HBc.out.block (w.heap.size + 2) (by omega)).trans HQ3.out)
    have H4 := Lib.hid ((HBc.out.block (w.heap.size + 3) (by omega)).trans HQ4.out)
    have hsz : w.heap.size + 4 ≤ wc.heap.size := by have := HBc.out.size; omega
    clear HQ1 HQ2 HQ3 HQ4 HB0 HBc HM hs0
    generalize wc = w8 at *
    go_upto_region 3 with fail
    generalize ha0 : ({ tmps := _, defers := _ } : Act) = a0
    have o : Ro a0 w8 e n ho hc vo vc (w.heap.size + 2) := by
      rw [← ha0]
      exact ⟨rfl, rfl, HE.out.up HB1.out HB1.out.size, HEv.out, hn, H3.out⟩
    refine wp_region_inv (fun listed a W => Rf a0 w8 e n ho hc vo vc (w.heap.size + 2) (fun j => listed.getD j false) a W) (by kernel_rfl) (by kernel_rfl) ⟨_, (fillF_self a0 slots3 (fun d hd => by rw [o.size]; exact (by decide : ∀ d ∈ slots3, d < 131) d hd)).symm, Rd.start _ _ _ _ _ _ _ _ _ (fun j => replicate_getD _ j)⟩ (fun listed a W i hs h hi => ?_) (fun listed a W h hall => ?_)
    · obtain ⟨x, rfl, hW⟩ := h
      have hs13 : listed.size = 11 := hs
      have hi13 : i < 11 := ready_lt hi
      have neg : listed.getD i false = false := ready_not hs hi
      have el : (fun j => (listed.setIfInBounds i true).getD j false) = setL (fun j => listed.getD j false) i := funext fun j => getD_listed (by omega) j
      refine wpOp_mono (K := Rf a0 w8 e n ho hc vo vc (w.heap.size + 2) (setL (fun j => listed.getD j false) i)) (fun a' w' h' => by show Rf _ _ _ _ _ _ _ _ _ (fun j => (listed.setIfInBounds i true).getD j false) _ _; rw [el]; exact h') ?_
      clear el ha0
      obtain rfl | rfl | rfl | rfl | rfl | rfl | rfl | rfl | rfl | rfl | rfl : i = 0 ∨ i = 1 ∨ i = 2 ∨ i = 3 ∨ i = 4 ∨ i = 5 ∨ i = 6 ∨ i = 7 ∨ i = 8 ∨ i = 9 ∨ i = 10 := by omega
      · exact Rd.op0 o hW rfl neg
      · exact Rd.op1 o hW rfl neg
      · exact Rd.op2 o hW rfl neg (waits_done hi (by kernel_rfl))
      · exact Rd.op3 o hW rfl neg (waits_done hi (by kernel_rfl)) (waits_done hi (by kernel_rfl))
      · exact Rd.op4 o hW rfl neg
      · exact Rd.op5 o hW rfl neg
      · exact Rd.op6 o hW rfl neg (waits_done hi (by kernel_rfl))
      · exact Rd.op7 o hW rfl neg (waits_done hi (by kernel_rfl)) (waits_done hi (by kernel_rfl))
      · exact Rd.op8 o hW rfl neg (waits_done hi (by kernel_rfl)) (waits_done hi (by kernel_rfl))
      · exact Rd.op9 o hW rfl neg
      · exact Rd.op10 o hW rfl neg (waits_done hi (by kernel_rfl)) (waits_done hi (by kernel_rfl))
    · obtain ⟨x, rfl, hW⟩ := h
      obtain ⟨⟨g8, eg8, hB8, hg8⟩, -⟩ := hW.f10 (hall 10 (by decide))
      obtain ⟨a1, d1, e47, ho1⟩ := hW.f3 (hall 3 (by decide))
      obtain ⟨a2, d2, e51, ho2⟩ := hW.f7 (hall 7 (by decide))
      rw [e47, e51] at hg8
      rw [e47] at ho1
      rw [e51] at ho2
      have hbW := hW.bel
      have hR : RAt w W ⟨ck, ft, cl, cx⟩ ao ac xo xc fi ft fo fc n e g8 a1 d1 a2 d2 := by
        refine ⟨HB1.out.trans (hbW.mono HB1.out.size), Nat.le_trans hsz hbW.size, (hbW.block _ (by omega)).trans H1.out, (hbW.block _ (by omega)).trans H2.out, (hbW.block _ (by omega)).trans H4.out, hg8, by omega, ⟨?_, ?_⟩, HEv.out⟩
        · rw [HEv.out.1]; exact owns_mono ho1 HB1.out.size
        · rw [HEv.out.2]; exact owns_mono ho2 HB1.out.size
      have HR := Lib.hid hR
      refine (by assumption : ∀ (a : Act) (w : World), Code.wp _ _ _ a w → _) _ W ?_
      clear hW hall o ho1 ho2 hg8 hbW hR H1 H2 H3 H4 HB1
      simp only [fillF, slots3, eg8]
      clear e47 e51 eg8
      rw [← ha0]
      clear ha0
      go_simp
      go_wp2_with fail
      go_loopw [9] (fun i wr => ∃ (j : Nat) (ej : E10), j ≤ cl.length ∧ i = .int .i64 j ∧ Hid (fitsP ((cl.zip fl).take j) e = some ej) ∧ Hid (RAt w wr ⟨ck, ft, cl, cx⟩ ao ac xo xc fi ft fo fc n ej g8 a1 d1 a2 d2)) (fun i _ => cl.length - (intOf i).toNat)
      case atStart => exact ⟨0, e, by omega, rfl, rfl, HR⟩
      case round =>
        obtain ⟨j, ej, hj, rfl, HFt, HW⟩ := hrel
        have y1 : ∀ k, wr.cell? ⟨w.heap.size, k, none⟩ = (cellsC ⟨ck, ft, cl, cx⟩ ao ac xo xc)[k]? := fun k => Lib.cell_of_heap HW.out.cb k
        have y2 : ∀ k, wr.cell? ⟨w.heap.size + 1, k, none⟩ = (#[Value.int .i64 fi, .int .i64 ft, .slice fo cl.length fc])[k]? := fun k => Lib.cell_of_heap HW.out.fb k
        have hle := HW.out.le
        by_cases hlt : j < cl.length
        · obtain ⟨ga, oa, rfl, hgB, x0, x1, x2, x3, x4⟩ := (HA.out.up HW.out.bel (Nat.le_refl _)).arg hlt
          obtain ⟨gv, ov, rfl, hgB2, v0, v1, v2⟩ := (HF.out.up HW.out.bel (Nat.le_refl _)).vget (j := j) (by rw [HL.out]; exact hlt)
          have hz : j < (cl.zip fl).length := by rw [List.length_zip, HL.out, Nat.min_self]; exact hlt
          have hzj : (cl.zip fl)[j] = (cl[j], fl.getD j zeroT) := by
            have := zip_get HL.out hlt
            rw [List.getElem?_eq_getElem hz] at this
            exact Option.some.inj this
          have HStep : Hid (fitsP ((cl.zip fl).take (j + 1)) e = fit1 cl[j] (fl.getD j zeroT) ej) := by
            rw [take_snoc _ _ hz, fitsP_snoc HFt.out, hzj]
            exact rfl
          have HFail : Hid (fit1 cl[j] (fl.getD j zeroT) ej = none → fitsP (cl.zip fl) e = none) := fun h0 => by
            rw [split_at (cl.zip fl) j hz]
            exact fitsP_fail HFt.out (by rw [hzj]; exact h0)
          clear hz hzj HFt
          try simp only at x0 x1 x2 x3 x4
          generalize cl[j] = a at *
          generalize fl.getD j zeroT = v at *
          obtain ⟨ak, ai, av1, av2, av3⟩ := a
          obtain ⟨w1', w2', w3'⟩ := v
          try simp only at x0 x1 x2 x3 x4 v0 v1 v2
          have hjn : (j : Int) < (cl.length : Int) := by omega
          have hga : ga < wr.heap.size := by omega
          have hgv : gv < wr.heap.size := by omega
          have e1 : wr.heap.size ≠ ga := by omega
          have e2 : wr.heap.size ≠ gv := by omega
          have e3 : wr.heap.size ≠ w.heap.size := by omega
          have e4 : wr.heap.size ≠ w.heap.size + 1 := by omega
          have e5 : wr.heap.size + 1 ≠ ga := by omega
          have e6 : wr.heap.size + 1 ≠ gv := by omega
          have e7 : wr.heap.size + 1 ≠ w.heap.size := by omega
          have e8 : wr.heap.size ≠ w.heap.size := by omega
          have f1 := e1.symm
          have f2 := e2.symm
          have f3 := e3.symm
          have f4 := e4.symm
          have f5 := e5.symm
          have f6 := e6.symm
          have f7 := e7.symm
          have y10 : wr.cell? ⟨w.heap.size, 2, none⟩ = some (.slice (some ⟨ga, oa, none⟩) cl.length ac) := y1 2
          have y20 : wr.cell? ⟨w.heap.size + 1, 2, none⟩ = some (.slice (some ⟨gv, ov, none⟩) cl.length fc) := y2 2
          have mixed : Tryz.prog.follows .mixedOrders = true := by kernel_rfl
          go_upto_region 7 with fail
          go_cut [10, 11] from 53 to 129 (fun s10 s11 wx => ∃ p q, s10 = .pointer (some ⟨p, 0, none⟩) ∧ s11 = .pointer (some ⟨q, 0, none⟩) ∧ Hid (wx.heap[p]? = some (.cells #[.int .u8 ak, .int .i64 ai, .int .u8 av1, .int .i64 av2, .string av3] 64 (0, 0))) ∧ Hid (wx.heap[q]? = some (.cells #[.int .u8 w1', .int .i64 w2', .string w3'] 27 (0, 0))) ∧ Hid (wr.heap.size ≤ q) ∧ Hid (Below wr.heap.size wr wx))
          case first =>
            clear y1 y2
            go_region_held3 (fun W' => W'.cell? ⟨w.heap.size, 2, none⟩ = some (.slice (some ⟨ga, oa, none⟩) cl.length ac) ∧ W'.cell? ⟨w.heap.size + 1, 2, none⟩ = some (.slice (some ⟨gv, ov, none⟩) cl.length fc) ∧ W'.cell? ⟨ga, oa + j * 5, none⟩ = some (.int .u8 ak) ∧ W'.cell? ⟨ga, oa + j * 5 + 1, none⟩ = some (.int .i64 ai) ∧ W'.cell? ⟨ga, oa + j * 5 + 2, none⟩ = some (.int .u8 av1) ∧ W'.cell? ⟨ga, oa + j * 5 + 3, none⟩ = some (.int .i64 av2) ∧ W'.cell? ⟨ga, oa + j * 5 + 4, none⟩ = some (.string av3) ∧ W'.cell? ⟨gv, ov + j * 3, none⟩ = some (.int .u8 w1') ∧ W'.cell? ⟨gv, ov + j * 3 + 1, none⟩ = some (.int .i64 w2') ∧ W'.cell? ⟨gv, ov + j * 3 + 2, none⟩ = some (.string w3'))
              (go_keep) (first | fail)
            all_goals (go_wp2_with fail; go_meet)
            all_goals first
              | exact ⟨_, _, rfl, rfl, (heap_two _ _).1, (heap_two _ _).2, Nat.le_succ _, below_drew (below_new (below_own _) _)⟩
              | exact ⟨_, _, rfl, rfl, (heap_two _ _).2, (heap_two _ _).1, Nat.le_refl _, below_drew (below_new (below_own _) _)⟩
          case rest =>
            obtain ⟨p, q, rfl, rfl, HP, HQ, Hq, HBx⟩ := hcut
            have HWc := Lib.hid (HW.out.old HBx.out)
            clear e1 e2 e3 e4 e5 e6 e7 e8 f1 f2 f3 f4 f5 f6 f7 y1 y2 y10 y20 x0 x1 x2 x3 x4 v0 v1 v2 HW hga hgv
            have Hle := Lib.hid HBx.out.size
            clear HBx
            generalize wc = wx at *
            have yp := fun i => Lib.cell_of_heap HP.out i
            have yq := fun i => Lib.cell_of_heap HQ.out i
            have ye := fun i => Lib.cell_of_heap HWc.out.eb i
            have yr := fun i => Lib.cell_of_heap HWc.out.rb i
            have zr := fun i => Lib.frozen_of_heap HWc.out.rb i
            have hpl := lt_of_heap HP.out
            have hql := lt_of_heap HQ.out
            have hel := lt_of_heap HWc.out.eb
            have y1 : ∀ k, wx.cell? ⟨w.heap.size, k, none⟩ = (cellsC ⟨ck, ft, cl, cx⟩ (some ⟨ga, oa, none⟩) ac xo xc)[k]? := fun k => Lib.cell_of_heap HWc.out.cb k
            go_upto_region 8 with fail
            go_cut [12] from 53 to 129 (fun s12 wy => s12 = .bool (known10 ai n) ∧ wy = wx)
            case first =>
              by_cases g0 : 0 ≤ ai
              · by_cases g1 : ai < (n : Int)
                · have hk : known10 ai n = true := by simp [known10, g0, g1]
                  go_wp2_with fail
                  go_meet
                  exact ⟨by rw [hk], rfl⟩
                · have hk : known10 ai n = false := by simp [known10, g1]
                  go_wp2_with fail
                  go_meet
                  exact ⟨by rw [hk], rfl⟩
              · have hk : known10 ai n = false := by simp [known10, g0]
                go_wp2_with fail
                go_meet
                exact ⟨by rw [hk], rfl⟩
            case rest =>
              obtain ⟨rfl, hwx⟩ := hcut
              subst hwx
              have hg := eqGuardV
              by_cases h1 : ak = 1
              · subst h1
                as_aux_lemma =>
                have HYes := Lib.hid (HStep.out.trans (rfl))
                clear HFail HStep
                go_wp2_with fail
                go_roundw
                case rel => exact ⟨j + 1, _, by omega, by go_num, HYes, HWc⟩
                case measure => simp [intOf]; omega
              · by_cases h2 : ak = 2
                · subst h2
                  cases hk : known10 ai n with
                  | false =>
                    as_aux_lemma =>
                    have HNo := Lib.hid (HFail.out (fit1_two_no HWc.out.even hk))
                    clear HFail HStep
                    go_wp2_with fail
                    exact ref_end rfl rfl rfl HWc.out.rb rfl fun W3 g3 => ⟨_, _, _, _, _, _, by rw [HNo.out]; rfl, HWc.out.bel.grown g3 HWc.out.bel.size (fun k hk => by obtain rfl := Option.some.inj hk; omega), envNone HNo.out⟩
                  | true =>
                    as_aux_lemma =>
                    obtain ⟨k, rfl, hkn⟩ := known10_iff.1 hk
                    obtain ⟨g1, g2, rfl, rfl, b1, b2, hx1, hx2, r0, r1, r2, r3⟩ := HWc.out.reads hkn
                    have HB := Lib.hid (HWc.out.bind k (w1', w2', w3') hx1 hx2 b1 b2)
                    obtain ⟨cs1, hx1⟩ := hx1
                    obtain ⟨cs2, hx2⟩ := hx2
                    have z1 := fun j => Lib.frozen_of_heap hx1 j
                    have z2 := fun j => Lib.frozen_of_heap hx2 j
                    have n12 : g1 ≠ g2 := ne_block hx1 hx2 (by decide)
                    have n21 := n12.symm
                    have np1 : p ≠ g1 := ne_block HP.out hx1 (by decide)
                    have np2 : p ≠ g2 := ne_block HP.out hx2 (by decide)
                    have nq1 : q ≠ g1 := ne_block HQ.out hx1 (by decide)
                    have ne1 : g8 ≠ g1 := ne_block HWc.out.eb hx1 (by decide)
                    have ne2 : g8 ≠ g2 := ne_block HWc.out.eb hx2 (by decide)
                    have np1' := np1.symm
                    have np2' := np2.symm
                    have nq1' := nq1.symm
                    have ne1' := ne1.symm
                    have ne2' := ne2.symm
                    have hkn1 : (k : Int) < (n : Int) := by omega
                    clear hx1 hx2
                    have HYes := Lib.hid (HStep.out.trans (fit1_two_yes HWc.out.even hk))
                    clear HFail HStep
                    go_wp2_with fail
                    go_roundw
                    case rel => exact ⟨j + 1, _, by omega, by go_num, HYes, HB⟩
                    case measure => simp [intOf]; omega
                · by_cases h3 : ak = 3
                  · subst h3
                    cases hk : known10 ai n with
                    | false =>
                      as_aux_lemma =>
                      have HNo := Lib.hid (HFail.out (fit1_three_no HWc.out.even hk))
                      clear HFail HStep
                      go_wp2_with fail
                      go_quiet (fail)
                      go_wp2
                      exact ref_end rfl rfl rfl HWc.out.rb rfl fun W3 g3 => ⟨_, _, _, _, _, _, by rw [HNo.out]; rfl, HWc.out.bel.grown (Fr.trans (Fr.of_below (below_drewN (Below.refl _ _) _)) g3) HWc.out.bel.size (fun k hk => by obtain rfl := Option.some.inj hk; omega), envNone HNo.out⟩
                    | true =>
                      obtain ⟨k, rfl, hkn⟩ := known10_iff.1 hk
                      obtain ⟨g1, g2, rfl, rfl, b1, b2, ⟨cs1, hx1⟩, ⟨cs2, hx2⟩, r0, r1, r2, r3⟩ := HWc.out.reads hkn
                      have hl1 := lt_of_heap hx1
                      have hl2 := lt_of_heap hx2
                      have hkn1 : (k : Int) < (n : Int) := by omega
                      have HF1 : Hid (fit1 ⟨3, (k : Int), av1, av2, av3⟩ (w1', w2', w3') ej = if (ej.1.getD k false && eqvB (ej.2.getD k zeroT) (w1', w2', w3')) = true then some ej else none) := by
                        unfold fit1
                        rw [if_neg (show ¬ (3 : Int) = 1 by decide), if_neg (show ¬ (3 : Int) = 2 by decide), if_pos rfl, HWc.out.even.1, hk]
                        exact rfl
                      clear hx1 hx2
                      cases hb : ej.1.getD k false with
                      | false =>
                        as_aux_lemma =>
                        rw [hb] at r0
                        have HNo := Lib.hid (HFail.out (by rw [HF1.out, hb]; exact rfl))
                        clear HFail HStep
                        go_wp2_with fail
                        go_quiet (fail)
                        go_wp2
                        exact ref_end rfl rfl rfl HWc.out.rb rfl fun W3 g3 => ⟨_, _, _, _, _, _, by rw [HNo.out]; rfl, HWc.out.bel.grown (Fr.trans (Fr.of_below (below_drewN (Below.refl _ _) _)) g3) HWc.out.bel.size (fun k hk => by obtain rfl := Option.some.inj hk; omega), envNone HNo.out⟩
                      | true =>
                        rw [hb] at r0 HF1
                        generalize ej.2.getD k zeroT = u at *
                        obtain ⟨u1, u2, u3⟩ := u
                        simp only at r1 r2 r3
                        have heq := fun W => eqV u1 u2 w1' w2' u3 w3' W
                        cases hq : eqvB (u1, u2, u3) (w1', w2', w3') with
                        | false =>
                          as_aux_lemma =>
                          rw [hq] at heq HF1
                          have HNo := Lib.hid (HFail.out (by rw [HF1.out]; exact rfl))
                          clear HFail HStep
                          go_wp2_with fail
                          go_quiet (fail)
                          go_wp2
                          exact ref_end rfl rfl rfl HWc.out.rb rfl fun W3 g3 => ⟨_, _, _, _, _, _, by rw [HNo.out]; rfl, HWc.out.bel.grown (Fr.trans (Fr.of_below (below_drewN (Below.refl _ _) _)) g3) HWc.out.bel.size (fun k hk => by obtain rfl := Option.some.inj hk; omega), envNone HNo.out⟩
                        | true =>
                          as_aux_lemma =>
                          rw [hq] at heq HF1
                          have HYes := Lib.hid (HStep.out.trans HF1.out)
                          clear HFail HStep
                          go_wp2_with fail
                          go_quiet (fail)
                          go_wp2
                          go_roundw
                          case rel => exact ⟨j + 1, _, by omega, by go_num, HYes, HWc.out.old (below_drewN (Below.refl _ _) _)⟩
                          case measure => simp [intOf]; omega
                  · by_cases h4 : ak = 4
                    · subst h4
                      have heq := fun W => eqV av1 av2 w1' w2' av3 w3' W
                      cases hq : eqvB (av1, av2, av3) (w1', w2', w3') with
                      | false =>
                        as_aux_lemma =>
                        rw [hq] at heq
                        have HNo := Lib.hid (HFail.out (fit1_four hq))
                        clear HFail HStep
                        go_wp2_with fail
                        exact ref_end rfl rfl rfl HWc.out.rb rfl fun W3 g3 => ⟨_, _, _, _, _, _, by rw [HNo.out]; rfl, HWc.out.bel.grown g3 HWc.out.bel.size (fun k hk => by obtain rfl := Option.some.inj hk; omega), envNone HNo.out⟩
                      | true =>
                        as_aux_lemma =>
                        rw [hq] at heq
                        have HYes := Lib.hid (HStep.out.trans (fit1_four hq))
                        clear HFail HStep
                        go_wp2_with fail
                        go_roundw
                        case rel => exact ⟨j + 1, _, by omega, by go_num, HYes, HWc⟩
                        case measure => simp [intOf]; omega
                    · as_aux_lemma =>
                      have c1 : (ak == 1) = false := by simp [h1]
                      have c2 : (ak == 2) = false := by simp [h2]
                      have c3 : (ak == 3) = false := by simp [h3]
                      have c4 : (ak == 4) = false := by simp [h4]
                      have HNo := Lib.hid (HFail.out (by unfold fit1; rw [if_neg h1, if_neg h2, if_neg h3, if_neg h4]))
                      clear HFail HStep
                      go_wp2_with fail
                      exact ref_end rfl rfl rfl HWc.out.rb rfl fun W3 g3 => ⟨_, _, _, _, _, _, by rw [HNo.out]; rfl, HWc.out.bel.grown g3 HWc.out.bel.size (fun k hk => by obtain rfl := Option.some.inj hk; omega), envNone HNo.out⟩
        · obtain rfl : j = cl.length := by omega
          have hz : (cl.zip fl).take cl.length = cl.zip fl := List.take_of_length_le (by rw [List.length_zip, HL.out, Nat.min_self]; exact Nat.le_refl _)
          have HE' := HFt.out
          rw [hz] at HE'
          have HY := Lib.hid HE'
          have ye := fun i => Lib.cell_of_heap HW.out.eb i
          have yr := fun i => Lib.cell_of_heap HW.out.rb i
          have zr := fun i => Lib.frozen_of_heap HW.out.rb i
          clear HE' hz HFt
          go_wp2
          exact ref_end rfl rfl rfl HW.out.rb rfl fun W3 g3 => ⟨_, _, _, _, _, _, by rw [HY.out]; rfl, HW.out.bel.grown g3 HW.out.bel.size (fun k hk => by obtain rfl := Option.some.inj hk; omega), ⟨(fun h => by rw [HY.out] at h; cases h), fun e' he => by rw [HY.out] at he; obtain rfl := Option.some.inj he; exact ⟨HW.out.even.1.symm, HW.out.even.2.symm, ⟨owns_far (e' := 47) HW.out.own.has (by decide) g3 (fun k hk => by obtain rfl := Option.some.inj hk; exact ⟨_, _, HW.out.rb⟩), owns_far (e' := 47) HW.out.own.vals (by decide) g3 (fun k hk => by obtain rfl := Option.some.inj hk; exact ⟨_, _, HW.out.rb⟩)⟩⟩⟩⟩
end
end Go.Proofs.YtnnhgbncghpecaaGreat

namespace Go.Proofs.YtnnhgbncghpecaaGreat
open Go.RowKit
set_option maxRecDepth 100000

section
variable {c : C10} {e : E10}
theorem first10_one (f : F10) : first10 c.type c.args e [f] = hit10 c.type c.args e f := by
  rw [first10]
  cases hit10 c.type c.args e f with
  | none => rfl
  | some e' => rfl
theorem firstB_cons (f : F10) (l : List F10) : (firstB c (f :: l) e).isSome = ((firstB c [f] e).isSome || (firstB c l e).isSome) := by
  unfold firstB
  split
  · rw [first10_one, first10]
    cases hit10 c.type c.args e f with
    | none => simp
    | some e' => simp
  · rfl
theorem firstB_any (l : List F10) : (firstB c l e).isSome = l.any fun f => (firstB c [f] e).isSome := by
  induction l with
  | nil =>
    unfold firstB
    split
    · rfl
    · rfl
  | cons f l ih => rw [firstB_cons, ih, List.any_cons]
end
section
variable {w : World} {c : C10} {ao : Option Addr} {ac : Nat} {xo : Option Addr} {xc : Nat} {e : E10} {ho : Option Addr} {hc : Nat} {vo : Option Addr} {vc : Nat}
theorem refMatchQ_any (f : F10) (fo : Option Addr) (fc : Nat) (hA : Sl10 w.heap.size w c.args.length ao ac (cellsA c.args)) (hF : Sl10 w.heap.size w f.args.length fo fc (cellsV f.args)) (hE : Env10 w.heap.size w e ho hc vo vc) (hn : e.1.length ≤ 100000) :
    Calls Tryz.prog 11 #[aggC c ao ac xo xc, aggF f fo fc, aggE e ho hc vo vc] w (RefQ (firstB c [f] e) w) := by
  cases hh : headB c f e with
  | false => exact ref_refuses hA hF hE hh
  | true => exact ref_goes hA hF hE hn hh
theorem refMatch_any (f : F10) (fo : Option Addr) (fc : Nat) (hA : Sl10 w.heap.size w c.args.length ao ac (cellsA c.args)) (hF : Sl10 w.heap.size w f.args.length fo fc (cellsV f.args)) (hE : Env10 w.heap.size w e ho hc vo vc) (hn : e.1.length ≤ 100000) :
    Calls Tryz.prog 11 #[aggC c ao ac xo xc, aggF f fo fc, aggE e ho hc vo vc] w (RefP (firstB c [f] e) w) :=
  (refMatchQ_any f fo fc hA hF hE hn).mono fun _ _ h => h.p
set_option maxRecDepth 100000 in
set_option maxHeartbeats 4000000 in
theorem refSome_any (fl : List F10) (fo : Option Addr) (fc : Nat) (hA : Sl10 w.heap.size w c.args.length ao ac (cellsA c.args)) (hE : Env10 w.heap.size w e ho hc vo vc) (hF : Facts10 w.heap.size w fl fo fc) (hn : e.1.length ≤ 100000) :
    Calls Tryz.prog 37 #[aggC c ao ac xo xc, aggE e ho hc vo vc, .slice fo fl.length fc] w fun r w' => r = .returned (.bool (firstB c fl e).isSome) ∧ Below w.heap.size w w' := by
  rw [firstB_any]
  have HA := Lib.hid hA
  have HE := Lib.hid hE
  have HF := Lib.hid hF
  have hm : fl.length ≤ 9223372036854775807 := by have := hF.cap; have := hF.top; unfold maxLen at this; omega
  obtain ⟨w0, hw0⟩ : ∃ w0, w0 = (w.alloc (.cells (cellsC c ao ac xo xc) 33)).alloc (.cells #[.slice ho e.1.length hc, .slice vo e.2.length vc] 47) := ⟨_, rfl⟩
  have hb0 : Below w.heap.size w w0 := by rw [hw0]; exact below_new (below_own _) _
  have hs0 : w0.heap.size = w.heap.size + 2 := by rw [hw0]; simp
  obtain ⟨q1, q2⟩ : w0.heap[w.heap.size]? = some (.cells (cellsC c ao ac xo xc) 33 (0, 0)) ∧ w0.heap[w.heap.size + 1]? = some (.cells #[.slice ho e.1.length hc, .slice vo e.2.length vc] 47 (0, 0)) := by
    rw [hw0]
    exact heap_two _ _
  have HB0 := Lib.hid hb0
  have HQ1 := Lib.hid q1
  have HQ2 := Lib.hid q2
  have HM := Lib.hid (fun W (hW : Below w.heap.size w W) (f : F10) o k (hf : Sl10 W.heap.size W f.args.length o k (cellsV f.args)) => refMatch_any (xo := xo) (xc := xc) f o k (hA.up hW hW.size) hf (hE.up hW hW.size) hn)
  unfold aggE at HM ⊢
  have mixed : Tryz.prog.follows .mixedOrders = true := by kernel_rfl
  clear hA hE hF q1 q2 hb0
  obtain ⟨ck, ct, cl, cx⟩ := c
  simp only at HQ1 hw0 HA
  generalize e.1.length = n1 at *
  generalize e.2.length = n2 at *
  go_enter Tryz.func37, Tryz.ntmps37
  go_upto_region 1 with fail
  rw [← hw0]
  clear hw0
  go_wp2_with fail
  go_loopw [7] (fun i wr => ∃ j : Nat, j ≤ fl.length ∧ i = .int .i64 j ∧ Hid (∀ k, k < j → (h : k < fl.length) → (firstB ⟨ck, ct, cl, cx⟩ [fl[k]] e).isSome = false) ∧ Hid (Below w0.heap.size w0 wr)) (fun i _ => fl.length - (intOf i).toNat)
  case atStart => exact ⟨0, by omega, rfl, (fun k hk => absurd hk (Nat.not_lt_zero _)), Below.refl _ _⟩
  case round =>
    obtain ⟨j, hj, rfl, HNo, HB⟩ := hrel
    by_cases hlt : j < fl.length
    · have HBw := Lib.hid (HB0.out.trans (HB.out.mono HB0.out.size))
      obtain ⟨g, o, a1, k1, rfl, hgB, x0, x1, x2, hs⟩ := (HF.out.up HBw.out (Nat.le_refl _)).at hlt
      have h1 := (HB.out.block w.heap.size (by omega)).trans HQ1.out
      have h2 := (HB.out.block (w.heap.size + 1) (by omega)).trans HQ2.out
      have hMj := fun W (hW : Below wr.heap.size wr W) => HM.out W (HBw.out.trans (hW.mono HBw.out.size)) fl[j] a1 k1 (hs.up (hW.mono HBw.out.size) (HBw.out.trans (hW.mono HBw.out.size)).size)
      have HNj : Hid ((firstB ⟨ck, ct, cl, cx⟩ [fl[j]] e).isSome = false → ∀ k, k < j + 1 → (h : k < fl.length) → (firstB ⟨ck, ct, cl, cx⟩ [fl[k]] e).isSome = false) := fun h0 k hk hk2 => by
        rcases Nat.lt_or_ge k j with h | h
        · exact HNo.out k h hk2
        · obtain rfl : k = j := by omega
          exact h0
      have HYj : Hid ((firstB ⟨ck, ct, cl, cx⟩ [fl[j]] e).isSome = true → (fl.any fun f => (firstB ⟨ck, ct, cl, cx⟩ [f] e).isSome) = true) := fun h0 => List.any_eq_true.2 ⟨fl[j], List.getElem_mem hlt, h0⟩
      unfold RefP at hMj
      generalize (firstB ⟨ck, ct, cl, cx⟩ [fl[j]] e).isSome = yb at *
      clear hs HNo HA HE HM
      generalize fl[j] = f at *
      obtain ⟨f1, f2, f3⟩ := f
      simp only at x0 x1 x2 hMj
      unfold aggF at hMj
      simp only at hMj
      have HMj := Lib.hid hMj
      clear hMj
      generalize f3.length = m3 at *
      have hjn : (j : Int) < (fl.length : Int) := by omega
      have hgl : g < wr.heap.size := by have := HBw.out.size; omega
      have hK : ∀ W, Below wr.heap.size wr W → W.cell? ⟨w.heap.size, 0, none⟩ = some (.int .u8 ck) ∧ W.cell? ⟨w.heap.size, 1, none⟩ = some (.int .i64 ct) ∧ W.cell? ⟨w.heap.size, 2, none⟩ = some (.slice ao cl.length ac) ∧ W.cell? ⟨w.heap.size, 3, none⟩ = some (.int .u8 cx.kind) ∧ W.cell? ⟨w.heap.size, 4, none⟩ = some (.int .u8 cx.vk) ∧ W.cell? ⟨w.heap.size, 5, none⟩ = some (.int .i64 cx.vn) ∧ W.cell? ⟨w.heap.size, 6, none⟩ = some (.string cx.vs) ∧ W.cell? ⟨w.heap.size, 7, none⟩ = some (.int .i64 cx.var) ∧ W.cell? ⟨w.heap.size, 8, none⟩ = some (.int .u8 cx.op) ∧ W.cell? ⟨w.heap.size, 9, none⟩ = some (.slice xo cx.kids.length xc) ∧ W.cell? ⟨w.heap.size + 1, 0, none⟩ = some (.slice ho n1 hc) ∧ W.cell? ⟨w.heap.size + 1, 1, none⟩ = some (.slice vo n2 vc) ∧ W.cell? ⟨g, o + j * 3, none⟩ = some (.int .i64 f1) ∧ W.cell? ⟨g, o + j * 3 + 1, none⟩ = some (.int .i64 f2) ∧ W.cell? ⟨g, o + j * 3 + 2, none⟩ = some (.slice a1 m3 k1) ∧ Below wr.heap.size wr W := fun W hW => by
        have c1 := (hW.block _ (lt_of_heap h1)).trans h1
        have c2 := (hW.block _ (lt_of_heap h2)).trans h2
        exact ⟨Lib.cell_of_heap c1 0, Lib.cell_of_heap c1 1, Lib.cell_of_heap c1 2, Lib.cell_of_heap c1 3, Lib.cell_of_heap c1 4, Lib.cell_of_heap c1 5, Lib.cell_of_heap c1 6, Lib.cell_of_heap c1 7, Lib.cell_of_heap c1 8, Lib.cell_of_heap c1 9, Lib.cell_of_heap c2 0, Lib.cell_of_heap c2 1, (hW.cell (p := ⟨g, o + j * 3, none⟩) hgl).trans x0, (hW.cell (p := ⟨g, o + j * 3 + 1, none⟩) hgl).trans x1, (hW.cell (p := ⟨g, o + j * 3 + 2, none⟩) hgl).trans x2, hW⟩
      have HK := Lib.hid hK
      clear hK h1 h2 x0 x1 x2
      go_upto_region 4 with fail
      go_cut [9] from 10 to 26 (fun s9 wx => s9 = .bool yb ∧ Hid (Below wr.heap.size wr wx))
      case first =>
        have HBc := Lib.hid (below_drew (Below.refl wr.heap.size wr))
        go_region_held3 (fun W' => W'.cell? ⟨w.heap.size, 0, none⟩ = some (.int .u8 ck) ∧ W'.cell? ⟨w.heap.size, 1, none⟩ = some (.int .i64 ct) ∧ W'.cell? ⟨w.heap.size, 2, none⟩ = some (.slice ao cl.length ac) ∧ W'.cell? ⟨w.heap.size, 3, none⟩ = some (.int .u8 cx.kind) ∧ W'.cell? ⟨w.heap.size, 4, none⟩ = some (.int .u8 cx.vk) ∧ W'.cell? ⟨w.heap.size, 5, none⟩ = some (.int .i64 cx.vn) ∧ W'.cell? ⟨w.heap.size, 6, none⟩ = some (.string cx.vs) ∧ W'.cell? ⟨w.heap.size, 7, none⟩ = some (.int .i64 cx.var) ∧ W'.cell? ⟨w.heap.size, 8, none⟩ = some (.int .u8 cx.op) ∧ W'.cell? ⟨w.heap.size, 9, none⟩ = some (.slice xo cx.kids.length xc) ∧ W'.cell? ⟨w.heap.size + 1, 0, none⟩ = some (.slice ho n1 hc) ∧ W'.cell? ⟨w.heap.size + 1, 1, none⟩ = some (.slice vo n2 vc) ∧ W'.cell? ⟨g, o + j * 3, none⟩ = some (.int .i64 f1) ∧ W'.cell? ⟨g, o + j * 3 + 1, none⟩ = some (.int .i64 f2) ∧ W'.cell? ⟨g, o + j * 3 + 2, none⟩ = some (.slice a1 m3 k1) ∧ Below wr.heap.size wr W')
          (first
            | (have hbx := hb; (try go_split_ands); exact HK.out _ (Below.trans (by assumption) (Below.mono hbx (Below.size (by assumption)))))
            | exact HK.out _ (below_drew (Below.refl _ _))
            | ((try go_split_ands); exact HK.out _ (below_new (by assumption) _))
            | exact HK.out _ (below_new HBc.out _)
            | exact HK.out _ (Below.setCell (Below.setCell HBc.out (by first | exact HQG.out | exact Nat.le_succ_of_le HQG.out) _) (by first | exact HQG.out | exact Nat.le_succ_of_le HQG.out) _))
          ((first
            | (go_at_call 11; (try go_split_ands); refine (HMj.out _ (by assumption)).mono ?_; rintro r wm ⟨p1, m1, c1, p2, m2, c2, rfl, hb⟩; (first | (replace HQ := Lib.hid ((hb.block _ (lt_of_heap HQ.out)).trans HQ.out)) | (replace HQ := Lib.hid ((hb.block _ (lt_of_heap (alloc_keep HQ.out _))).trans (alloc_keep HQ.out _))) | (have HQ := Lib.hid ((hb.block _ (by simp)).trans (alloc_at rfl (.cells #[.slice none 0 0, .slice none 0 0] 47))); have HQG := Lib.hid HBc.out.size) | (have HQ := Lib.hid ((hb.block _ (by simp; omega)).trans (alloc_keep (alloc_at rfl (.cells #[.slice none 0 0, .slice none 0 0] 47)) _)); have HQG := Lib.hid HBc.out.size) | (have HQ := Lib.hid ((hb.block _ (by simp)).trans (alloc_at (by simp) (.cells #[.slice none 0 0, .slice none 0 0] 47))); have HQG := Lib.hid (Nat.le_succ_of_le HBc.out.size)) | skip); (try (simp only [heap_drew10] at HQ)); (try (simp only [heap_alloc10] at HQ)); (first | (replace HBc := Lib.hid (HBc.out.trans (hb.mono HBc.out.size))) | (replace HBc := Lib.hid ((below_new HBc.out _).trans (hb.mono (below_new HBc.out _).size))) | (replace HBc := Lib.hid ((below_new (below_new HBc.out _) _).trans (hb.mono (below_new (below_new HBc.out _) _).size)))); (try (have q0 := Lib.cell_of_heap HQ.out 0; have q1 := Lib.cell_of_heap HQ.out 1; have qf := fun j => Lib.frozen_of_heap HQ.out j)))))
        all_goals (go_wp2_with fail; go_meet)
        all_goals first
          | exact ⟨rfl, below_new HBc.out _⟩
          | exact ⟨rfl, HBc.out.grown (two_set _ _ HQ.out rfl).2 HBc.out.size (fun k hk => by obtain rfl := Option.some.inj hk; first | exact HQG.out | exact Nat.le_succ_of_le HQG.out)⟩
      case rest =>
        obtain ⟨rfl, HBx⟩ := hcut
        clear HK HMj
        generalize wc = wx at *
        cases yb with
        | false =>
          have HNj2 := Lib.hid (HNj.out rfl)
          have HB2 := Lib.hid (HB.out.trans (HBx.out.mono HB.out.size))
          clear HNj HYj
          go_wp2_with fail
          go_roundw
          case rel => exact ⟨j + 1, by omega, by go_num, HNj2, HB2⟩
          case measure => simp [intOf]; omega
        | true =>
          have HY := Lib.hid (HYj.out rfl)
          have HB2 := Lib.hid (HB0.out.trans ((HB.out.trans (HBx.out.mono HB.out.size)).mono HB0.out.size))
          clear HNj HYj
          go_wp2_with fail
          go_ret
          exact ⟨by rw [HY.out]; rfl, HB2.out⟩
    · have HY : Hid ((fl.any fun f => (firstB ⟨ck, ct, cl, cx⟩ [f] e).isSome) = false) := by
        refine List.any_eq_false.2 fun f hf => ?_
        obtain ⟨k, hk, rfl⟩ := List.getElem_of_mem hf
        rw [HNo.out k (by omega) hk]
        decide
      obtain rfl : j = fl.length := by omega
      clear HNo
      go_wp2_with fail
      go_ret
      exact ⟨by rw [HY.out]; rfl, HB0.out.trans (HB.out.mono HB0.out.size)⟩
end
end Go.Proofs.YtnnhgbncghpecaaGreat
