/- The document's Match: what it refuses at once. -/
import Derived.Test.YtjcmbljpjimdiaaRefTwo10
namespace Go.Proofs.Ytjcmbljpjimdiaa
open Go.RowKit

/-- What the document's Match tells of whether there is a match. -/
def RefP (x : Option E10) (w : World) (r : Ending) (w' : World) : Prop := ∃ (b1 : Option Addr) (n1 k1 : Nat) (b2 : Option Addr) (n2 k2 : Nat), r = .returned (.tuple #[.agg #[.slice b1 n1 k1, .slice b2 n2 k2], .bool x.isSome]) ∧ Below w.heap.size w w'
section
variable {w : World} {c : C10} {ao : Option Addr} {ac : Nat} {xo : Option Addr} {xc : Nat} {f : F10} {fo : Option Addr} {fc : Nat} {e : E10} {ho : Option Addr} {hc : Nat} {vo : Option Addr} {vc : Nat}
/-- The head of a match. -/
def headB (c : C10) (f : F10) (e : E10) : Bool := madeP e && ((decide (c.kind = 1) || decide (c.kind = 2)) && (decide (f.type = c.type) && decide (f.args.length = c.args.length)))
theorem firstB_head (h : headB c f e = false) : firstB c [f] e = none := by
  cases hx : firstB c [f] e with
  | none => rfl
  | some e' =>
    obtain ⟨h1, h2, h3, h4, -⟩ := firstB_known hx
    unfold headB at h
    rw [h1, decide_eq_true h3, decide_eq_true h4] at h
    rcases h2 with h2 | h2 <;> simp [h2] at h
theorem firstB_fits (h : headB c f e = true) : firstB c [f] e = fitsP (c.args.zip f.args) e := by
  unfold headB at h
  simp only [Bool.and_eq_true, Bool.or_eq_true, decide_eq_true_eq] at h
  obtain ⟨h1, h2, h3, h4⟩ := h
  unfold firstB
  rw [if_pos (by rw [h1]; rcases h2 with h2 | h2 <;> simp [h2]), first10]
  unfold hit10
  rw [if_pos (by simp [h3, h4])]
  cases fitsP (c.args.zip f.args) e with
  | none => rfl
  | some e' => rfl
theorem ref_end {Q : Ending → World → Prop} {a : Act} {W : World} {g : Nat} {cs : Array Value} {v0 v1 : Value} {b : Bool} (hp : a.tmps[6]?.getD undef = .pointer (some ⟨g, 0, none⟩)) (h7 : a.tmps[7]?.getD undef = .bool b) (hd : a.defers = []) (h : W.heap[g]? = some (.cells cs 45 (0, 0))) (hs : cs.size = 2)
    (hQ : ∀ W3, W.grownBy W3 (some g) → Q (.returned (.tuple #[.agg #[v0, v1], .bool b])) W3) :
    bodyPost Try.prog Try.f18 Q .ret a ((W.setCell ⟨g, 0, none⟩ v0).setCell ⟨g, 1, none⟩ v1) := by
  obtain ⟨h3, g3⟩ := two_set v0 v1 h hs
  generalize ((W.setCell ⟨g, 0, none⟩ v0).setCell ⟨g, 1, none⟩ v1) = W3 at h3 g3 ⊢
  have d0 := Lib.cell_of_heap h3 0
  have d1 := Lib.cell_of_heap h3 1
  exact bodyPost_ret (v := .tuple #[.agg #[v0, v1], .bool b]) (by simp [results, Try.results18, hp, h7, go_sem, d0, d1]) hd (hQ W3 g3)
set_option maxRecDepth 100000 in
set_option maxHeartbeats 4000000 in
theorem ref_refuses (hA : Sl10 w.heap.size w c.args.length ao ac (cellsA c.args)) (hF : Sl10 w.heap.size w f.args.length fo fc (cellsV f.args)) (hE : Env10 w.heap.size w e ho hc vo vc) (hh : headB c f e = false) :
    Calls Try.prog 18 #[aggC c ao ac xo xc, aggF f fo fc, aggE e ho hc vo vc] w (RefP (firstB c [f] e) w) := by
  rw [firstB_head hh]
  have m1 : c.args.length ≤ 9223372036854775807 := by have := hA.cap; have := hA.top; unfold maxLen at this; omega
  have m2 : f.args.length ≤ 9223372036854775807 := by have := hF.cap; have := hF.top; unfold maxLen at this; omega
  obtain ⟨w0, hw0⟩ : ∃ w0, w0 = (((w.alloc (.cells (cellsC c ao ac xo xc) 33)).alloc (.cells #[.int .i64 f.id, .int .i64 f.type, .slice fo f.args.length fc] 39)).alloc (.cells #[.slice ho e.1.length hc, .slice vo e.2.length vc] 45)).alloc (.cells #[.slice none 0 0, .slice none 0 0] 45) := ⟨_, rfl⟩
  have hb0 : Below w.heap.size w w0 := by rw [hw0]; exact below_new (below_new (below_new (below_own _) _) _) _
  have hs0 : w0.heap.size = w.heap.size + 4 := by rw [hw0]; simp
  obtain ⟨q1, q2, q3, q4⟩ : w0.heap[w.heap.size]? = some (.cells (cellsC c ao ac xo xc) 33 (0, 0)) ∧ w0.heap[w.heap.size + 1]? = some (.cells #[.int .i64 f.id, .int .i64 f.type, .slice fo f.args.length fc] 39 (0, 0)) ∧ w0.heap[w.heap.size + 2]? = some (.cells #[.slice ho e.1.length hc, .slice vo e.2.length vc] 45 (0, 0)) ∧ w0.heap[w.heap.size + 3]? = some (.cells #[.slice none 0 0, .slice none 0 0] 45 (0, 0)) := by
    rw [hw0]
    exact heap_four _ _ _ _
  have HB0 := Lib.hid hb0
  have HQ1 := Lib.hid q1
  have HQ2 := Lib.hid q2
  have HQ4 := Lib.hid q4
  have HM := Lib.hid (refMade_any e ho hc vo vc w0 (hE.up hb0 hb0.size))
  unfold aggE at HM ⊢
  unfold RefP
  obtain ⟨ck, ct, cl, cx⟩ := c
  obtain ⟨fi, ft, fl⟩ := f
  simp only at m1 m2 hw0 HQ1 HQ2 hh
  clear hA hF hE q1 q2 q3 q4 hb0
  generalize e.1.length = n1 at *
  generalize e.2.length = n2 at *
  unfold headB at hh
  simp only at hh
  generalize madeP e = mb at *
  cases mb with
  | false =>
    clear hh
    go_enter Try.func18, Try.ntmps18
    go_wp2_with (go_at_call 28; go_must (rw [← hw0]; clear hw0; refine (HM.out).mono ?_; rintro r w1 ⟨rfl, hb⟩; have HB1 := Lib.hid (HB0.out.trans (hb.mono HB0.out.size)); have H1 := Lib.hid ((hb.block w.heap.size (by omega)).trans HQ1.out); have H2 := Lib.hid ((hb.block (w.heap.size + 1) (by omega)).trans HQ2.out); have H4 := Lib.hid ((hb.block (w.heap.size + 3) (by omega)).trans HQ4.out); have y1 := (fun j => Lib.cell_of_heap H1.out j); have y2 := (fun j => Lib.cell_of_heap H2.out j); have y4 := (fun j => Lib.cell_of_heap H4.out j); have z4 := (fun j => Lib.frozen_of_heap H4.out j); clear hb))
    exact ref_end rfl rfl rfl H4.out rfl fun W3 g3 => ⟨_, _, _, _, _, _, rfl, HB1.out.grown g3 HB1.out.size (fun k hk => by obtain rfl := Option.some.inj hk; omega)⟩
  | true =>
    by_cases k1 : ck = 1 ∨ ck = 2
    · by_cases k2 : ft = ct
      · have k3 : fl.length ≠ cl.length := by
          intro k3
          rcases k1 with rfl | rfl <;> simp [k2, k3] at hh
        subst k2
        have b4 : ((fl.length : Int) == (cl.length : Int)) = false := by simp; omega
        clear hh k3
        rcases k1 with rfl | rfl
        · as_aux_lemma =>
          go_enter Try.func18, Try.ntmps18
          go_wp2_with (go_at_call 28; go_must (rw [← hw0]; clear hw0; refine (HM.out).mono ?_; rintro r w1 ⟨rfl, hb⟩; have HB1 := Lib.hid (HB0.out.trans (hb.mono HB0.out.size)); have H1 := Lib.hid ((hb.block w.heap.size (by omega)).trans HQ1.out); have H2 := Lib.hid ((hb.block (w.heap.size + 1) (by omega)).trans HQ2.out); have H4 := Lib.hid ((hb.block (w.heap.size + 3) (by omega)).trans HQ4.out); have y1 := (fun j => Lib.cell_of_heap H1.out j); have y2 := (fun j => Lib.cell_of_heap H2.out j); have y4 := (fun j => Lib.cell_of_heap H4.out j); have z4 := (fun j => Lib.frozen_of_heap H4.out j); clear hb))
          exact ref_end rfl rfl rfl H4.out rfl fun W3 g3 => ⟨_, _, _, _, _, _, rfl, HB1.out.grown g3 HB1.out.size (fun k hk => by obtain rfl := Option.some.inj hk; omega)⟩
        · as_aux_lemma =>
          go_enter Try.func18, Try.ntmps18
          go_wp2_with (go_at_call 28; go_must (rw [← hw0]; clear hw0; refine (HM.out).mono ?_; rintro r w1 ⟨rfl, hb⟩; have HB1 := Lib.hid (HB0.out.trans (hb.mono HB0.out.size)); have H1 := Lib.hid ((hb.block w.heap.size (by omega)).trans HQ1.out); have H2 := Lib.hid ((hb.block (w.heap.size + 1) (by omega)).trans HQ2.out); have H4 := Lib.hid ((hb.block (w.heap.size + 3) (by omega)).trans HQ4.out); have y1 := (fun j => Lib.cell_of_heap H1.out j); have y2 := (fun j => Lib.cell_of_heap H2.out j); have y4 := (fun j => Lib.cell_of_heap H4.out j); have z4 := (fun j => Lib.frozen_of_heap H4.out j); clear hb))
          exact ref_end rfl rfl rfl H4.out rfl fun W3 g3 => ⟨_, _, _, _, _, _, rfl, HB1.out.grown g3 HB1.out.size (fun k hk => by obtain rfl := Option.some.inj hk; omega)⟩
      · have b3 : (ft == ct) = false := by simp [k2]
        clear hh k2
        rcases k1 with rfl | rfl
        · as_aux_lemma =>
          go_enter Try.func18, Try.ntmps18
          go_wp2_with (go_at_call 28; go_must (rw [← hw0]; clear hw0; refine (HM.out).mono ?_; rintro r w1 ⟨rfl, hb⟩; have HB1 := Lib.hid (HB0.out.trans (hb.mono HB0.out.size)); have H1 := Lib.hid ((hb.block w.heap.size (by omega)).trans HQ1.out); have H2 := Lib.hid ((hb.block (w.heap.size + 1) (by omega)).trans HQ2.out); have H4 := Lib.hid ((hb.block (w.heap.size + 3) (by omega)).trans HQ4.out); have y1 := (fun j => Lib.cell_of_heap H1.out j); have y2 := (fun j => Lib.cell_of_heap H2.out j); have y4 := (fun j => Lib.cell_of_heap H4.out j); have z4 := (fun j => Lib.frozen_of_heap H4.out j); clear hb))
          exact ref_end rfl rfl rfl H4.out rfl fun W3 g3 => ⟨_, _, _, _, _, _, rfl, HB1.out.grown g3 HB1.out.size (fun k hk => by obtain rfl := Option.some.inj hk; omega)⟩
        · as_aux_lemma =>
          go_enter Try.func18, Try.ntmps18
          go_wp2_with (go_at_call 28; go_must (rw [← hw0]; clear hw0; refine (HM.out).mono ?_; rintro r w1 ⟨rfl, hb⟩; have HB1 := Lib.hid (HB0.out.trans (hb.mono HB0.out.size)); have H1 := Lib.hid ((hb.block w.heap.size (by omega)).trans HQ1.out); have H2 := Lib.hid ((hb.block (w.heap.size + 1) (by omega)).trans HQ2.out); have H4 := Lib.hid ((hb.block (w.heap.size + 3) (by omega)).trans HQ4.out); have y1 := (fun j => Lib.cell_of_heap H1.out j); have y2 := (fun j => Lib.cell_of_heap H2.out j); have y4 := (fun j => Lib.cell_of_heap H4.out j); have z4 := (fun j => Lib.frozen_of_heap H4.out j); clear hb))
          exact ref_end rfl rfl rfl H4.out rfl fun W3 g3 => ⟨_, _, _, _, _, _, rfl, HB1.out.grown g3 HB1.out.size (fun k hk => by obtain rfl := Option.some.inj hk; omega)⟩
    · have b1 : ¬ ck = 1 := fun h => k1 (Or.inl h)
      have b2 : ¬ ck = 2 := fun h => k1 (Or.inr h)
      have n1 : (ck != 1) = true := by simp [b1]
      have n2 : (ck != 2) = true := by simp [b2]
      clear hh k1
      go_enter Try.func18, Try.ntmps18
      go_wp2_with (go_at_call 28; go_must (rw [← hw0]; clear hw0; refine (HM.out).mono ?_; rintro r w1 ⟨rfl, hb⟩; have HB1 := Lib.hid (HB0.out.trans (hb.mono HB0.out.size)); have H1 := Lib.hid ((hb.block w.heap.size (by omega)).trans HQ1.out); have H2 := Lib.hid ((hb.block (w.heap.size + 1) (by omega)).trans HQ2.out); have H4 := Lib.hid ((hb.block (w.heap.size + 3) (by omega)).trans HQ4.out); have y1 := (fun j => Lib.cell_of_heap H1.out j); have y2 := (fun j => Lib.cell_of_heap H2.out j); have y4 := (fun j => Lib.cell_of_heap H4.out j); have z4 := (fun j => Lib.frozen_of_heap H4.out j); clear hb))
      exact ref_end rfl rfl rfl H4.out rfl fun W3 g3 => ⟨_, _, _, _, _, _, rfl, HB1.out.grown g3 HB1.out.size (fun k hk => by obtain rfl := Option.some.inj hk; omega)⟩
end
end Go.Proofs.Ytjcmbljpjimdiaa
