/- PatternMatches answers true, whatever comes in. -/
import Derived.Test.YtnnhgbncghpecaaGreatTwoL10
import Derived.Test.YtnnhgbncghpecaaGreatAwake10
namespace Go.Proofs.YtnnhgbncghpecaaGreat
open Go.RowKit
set_option maxRecDepth 100000

/-- An env, or none. -/
abbrev envE (x : Option E10) : E10 := x.getD ([], [])
/-- What a call of Match tells: rows of its own. -/
def TellsP (x : Option E10) (N1 N2 : Nat) (w : World) (r : Ending) (w' : World) : Prop := ∃ (h1 : Option Addr) (c1 : Nat) (h2 : Option Addr) (c2 : Nat), r = .returned (.tuple #[.agg #[.slice h1 N1 c1, .slice h2 N2 c2], .bool x.isSome]) ∧ w'.ownsRow w.heap.size 4 1 (.slice h1 N1 c1) N1 (cellsB (envE x).1) ∧ w'.ownsRow w.heap.size 27 3 (.slice h2 N2 c2) N2 (cellsV (envE x).2) ∧ Below w.heap.size w w'
theorem MatchP.tells {x : Option E10} {w : World} {r : Ending} {w' : World} (h : MatchP x w r w') : TellsP x (envE x).1.length (envE x).2.length w r w' := by
  obtain ⟨hb, ⟨rfl, rfl⟩ | ⟨e', h1, c1, h2, c2, rfl, rfl, ho⟩⟩ := h
  · exact ⟨none, 0, none, 0, rfl, World.ownsRow_nil _ _ _ _, World.ownsRow_nil _ _ _ _, hb⟩
  · exact ⟨h1, c1, h2, c2, rfl, ho.has, ho.vals, hb⟩
theorem RefQ.tells {x : Option E10} {w : World} {r : Ending} {w' : World} (h : RefQ x w r w') : TellsP x (envE x).1.length (envE x).2.length w r w' := by
  obtain ⟨b1, n1, k1, b2, n2, k2, rfl, hb, h1, h2⟩ := h
  cases x with
  | none =>
    obtain ⟨rfl, rfl, rfl, rfl, rfl, rfl⟩ := h1 rfl
    exact ⟨none, 0, none, 0, rfl, World.ownsRow_nil _ _ _ _, World.ownsRow_nil _ _ _ _, hb⟩
  | some e' =>
    obtain ⟨rfl, rfl, ho⟩ := h2 e' rfl
    exact ⟨b1, k1, b2, k2, rfl, ho.has, ho.vals, hb⟩
theorem short_env {c : C10} {f : F10} {e : E10} (hn : e.1.length ≤ 2000) : (envE (firstB c [f] e)).1.length ≤ 2000 ∧ (envE (firstB c [f] e)).2.length ≤ 2000 := by
  cases hx : firstB c [f] e with
  | none => exact ⟨by simp, by simp⟩
  | some e' =>
    obtain ⟨hm', hh⟩ := firstB_one hx
    have hev := hit10_even hh (made_even hm')
    exact ⟨by show e'.1.length ≤ 2000; rw [hev.1]; exact hn, by show e'.2.length ≤ 2000; rw [hev.2]; exact hn⟩

/-- What stands behind the third step: what was lent, in boxes. -/
structure Lent3 (base : Nat) (w : World) (c : C10) (f : F10) (gc gf ga xg gv : Nat) : Prop where
  cbox : w.heap[gc]? = some (.cells (cellsC c (some ⟨ga, 0, none⟩) (c.args.length + 12) (some ⟨xg, 0, none⟩) (c.test.kids.length + 12)) 33 (0, 0))
  fbox : w.heap[gf]? = some (.cells #[.int .i64 f.id, .int .i64 f.type, .slice (some ⟨gv, 0, none⟩) f.args.length (f.args.length + 12)] 36 (0, 0))
  cond : LentC base w c ga xg
  fact : LentR base w gv f.args
theorem Lent3.old {base gc gf ga xg gv : Nat} {w w' : World} {c : C10} {f : F10} (h : Lent3 base w c f gc gf ga xg gv) (b : Below w.heap.size w w') : Lent3 base w' c f gc gf ga xg gv :=
  ⟨(b.block _ (lt_of_heap h.cbox)).trans h.cbox, (b.block _ (lt_of_heap h.fbox)).trans h.fbox, h.cond.old b, h.fact.old b⟩

section
variable {w : World} {c : C10} {ao : Option Addr} {ac : Nat} {xo : Option Addr} {xc : Nat} {f : F10} {fo : Option Addr} {fc : Nat} {e : E10} {ho : Option Addr} {hc : Nat} {vo : Option Addr} {vc : Nat}
/-- What came in. -/
structure CameM (w : World) (c : C10) (ao : Option Addr) (ac : Nat) (xo : Option Addr) (xc : Nat) (f : F10) (fo : Option Addr) (fc : Nat) (e : E10) (ho : Option Addr) (hc : Nat) (vo : Option Addr) (vc : Nat) : Prop where
  args : Sl10 w.heap.size w c.args.length ao ac (cellsA c.args)
  test : Lies w.heap.size w c.test (.slice xo c.test.kids.length xc)
  fact : Sl10 w.heap.size w f.args.length fo fc (cellsV f.args)
  env : Env10 w.heap.size w e ho hc vo vc
  short1 : Short10 f.args
  short2 : Short10 e.2
def MatchesP (w : World) (r : Ending) (w' : World) : Prop := r = .returned (.bool true) ∧ Below w.heap.size w w'
def notMuch (c : C10) (f : F10) (e : E10) : Prop := c.args.length ≤ 2000 ∧ f.args.length ≤ 2000 ∧ e.1.length ≤ 2000 ∧ e.2.length ≤ 2000 ∧ manyE c.test.kids ≤ 2000

set_option maxHeartbeats 4000000 in
theorem matches_much (h : CameM w c ao ac xo xc f fo fc e ho hc vo vc) (hm : ¬ notMuch c f e) :
    Calls Tryz.prog 3 #[aggC c ao ac xo xc, aggF f fo fc, .slice ho e.1.length hc, .slice vo e.2.length vc] w (MatchesP w) := by
  have HAw := Lib.hid (fun W => awake_any W)
  have m1 : c.args.length ≤ 9223372036854775807 := by have := h.args.cap; have := h.args.top; unfold maxLen at this; omega
  have m2 : f.args.length ≤ 9223372036854775807 := by have := h.fact.cap; have := h.fact.top; unfold maxLen at this; omega
  have m3 : e.1.length ≤ 9223372036854775807 := by have := h.env.has.cap; have := h.env.has.top; unfold maxLen at this; omega
  have m4 : e.2.length ≤ 9223372036854775807 := by have := h.env.vals.cap; have := h.env.vals.top; unfold maxLen at this; omega
  obtain ⟨w0, hw0⟩ : ∃ w0, w0 = (w.alloc (.cells (cellsC c ao ac xo xc) 33)).alloc (.cells #[.int .i64 f.id, .int .i64 f.type, .slice fo f.args.length fc] 36) := ⟨_, rfl⟩
  have hb0 : Below w.heap.size w w0 := by rw [hw0]; exact below_new (below_own _) _
  have HX := Lib.hid (count_any c.test w0 (.slice xo c.test.kids.length xc) 2000 (h.test.up hb0 hb0.size) (by omega) (by omega))
  obtain ⟨q1, q2⟩ : w0.heap[w.heap.size]? = some (.cells (cellsC c ao ac xo xc) 33 (0, 0)) ∧ w0.heap[w.heap.size + 1]? = some (.cells #[.int .i64 f.id, .int .i64 f.type, .slice fo f.args.length fc] 36 (0, 0)) := by
    rw [hw0]
    exact heap_two _ _
  have HB0 := Lib.hid hb0
  have y1 := fun j => Lib.cell_of_heap q1 j
  have y2 := fun j => Lib.cell_of_heap q2 j
  unfold notMuch at hm
  unfold MatchesP
  unfold cellsC at hw0 y1
  unfold aggC aggF cellsC
  generalize c.args.length = n1 at *
  generalize f.args.length = n2 at *
  generalize e.1.length = n3 at *
  generalize e.2.length = n4 at *
  generalize manyE c.test.kids = n5 at *
  clear h q1 q2 hb0
  by_cases t1 : n1 ≤ 2000
  · by_cases t2 : n2 ≤ 2000
    · by_cases t3 : n3 ≤ 2000
      · by_cases t4 : n4 ≤ 2000
        · have t5 : ¬ n5 ≤ 2000 := fun t5 => hm ⟨t1, t2, t3, t4, t5⟩
          have t1' : ¬ (2000 : Int) < (n1 : Int) := by omega
          have t2' : ¬ (2000 : Int) < (n2 : Int) := by omega
          have t3' : ¬ (2000 : Int) < (n3 : Int) := by omega
          have t4' : ¬ (2000 : Int) < (n4 : Int) := by omega
          have t5' : min (n5 : Int) (2000 + 1) = 2001 := by omega
          rw [t5'] at HX
          clear hm t5 t5'
          as_aux_lemma =>
          go_enter Tryz.func3, Tryz.ntmps3
          go_wp2_with (first
            | (go_at_call 5; go_must (rw [← hw0]; clear hw0; refine (HX.out).mono ?_; rintro r w1 ⟨rfl, rfl⟩))
            | (go_at_call 6; go_must (refine (HAw.out _).mono ?_; rintro r w2 ⟨rfl, hb⟩; have HB2 := Lib.hid (HB0.out.trans (hb.mono HB0.out.size)); clear hb)))
          go_ret
          exact ⟨rfl, HB2.out⟩
        · have t1' : ¬ (2000 : Int) < (n1 : Int) := by omega
          have t2' : ¬ (2000 : Int) < (n2 : Int) := by omega
          have t3' : ¬ (2000 : Int) < (n3 : Int) := by omega
          have t4' : (2000 : Int) < (n4 : Int) := by omega
          clear hm HX
          as_aux_lemma =>
          go_enter Tryz.func3, Tryz.ntmps3
          go_wp2_with (go_at_call 6; go_must (rw [← hw0]; clear hw0; refine (HAw.out _).mono ?_; rintro r w2 ⟨rfl, hb⟩; have HB2 := Lib.hid (HB0.out.trans (hb.mono HB0.out.size)); clear hb))
          go_ret
          exact ⟨rfl, HB2.out⟩
      · have t1' : ¬ (2000 : Int) < (n1 : Int) := by omega
        have t2' : ¬ (2000 : Int) < (n2 : Int) := by omega
        have t3' : (2000 : Int) < (n3 : Int) := by omega
        clear hm HX
        as_aux_lemma =>
        go_enter Tryz.func3, Tryz.ntmps3
        go_wp2_with (go_at_call 6; go_must (rw [← hw0]; clear hw0; refine (HAw.out _).mono ?_; rintro r w2 ⟨rfl, hb⟩; have HB2 := Lib.hid (HB0.out.trans (hb.mono HB0.out.size)); clear hb))
        go_ret
        exact ⟨rfl, HB2.out⟩
    · have t1' : ¬ (2000 : Int) < (n1 : Int) := by omega
      have t2' : (2000 : Int) < (n2 : Int) := by omega
      clear hm HX
      as_aux_lemma =>
      go_enter Tryz.func3, Tryz.ntmps3
      go_wp2_with (go_at_call 6; go_must (rw [← hw0]; clear hw0; refine (HAw.out _).mono ?_; rintro r w2 ⟨rfl, hb⟩; have HB2 := Lib.hid (HB0.out.trans (hb.mono HB0.out.size)); clear hb))
      go_ret
      exact ⟨rfl, HB2.out⟩
  · have t1' : (2000 : Int) < (n1 : Int) := by omega
    clear hm HX
    as_aux_lemma =>
    go_enter Tryz.func3, Tryz.ntmps3
    go_wp2_with (go_at_call 6; go_must (rw [← hw0]; clear hw0; refine (HAw.out _).mono ?_; rintro r w2 ⟨rfl, hb⟩; have HB2 := Lib.hid (HB0.out.trans (hb.mono HB0.out.size)); clear hb))
    go_ret
    exact ⟨rfl, HB2.out⟩
end
end Go.Proofs.YtnnhgbncghpecaaGreat

namespace Go.Proofs.YtnnhgbncghpecaaGreat
open Go.RowKit
set_option maxRecDepth 100000

section
variable {w : World} {c : C10} {ao : Option Addr} {ac : Nat} {xo : Option Addr} {xc : Nat} {f : F10} {fo : Option Addr} {fc : Nat} {e : E10} {ho : Option Addr} {hc : Nat} {vo : Option Addr} {vc : Nat}
theorem own_env {base n m : Nat} {W : World} {l : List Bool} {vs : List V3} {h1 : Option Addr} {c1 : Nat} {h2 : Option Addr} {c2 : Nat} (hn : l.length = n) (hm : vs.length = m) (o1 : W.ownsRow base 4 1 (.slice h1 n c1) n (cellsB l)) (o2 : Sl10 W.heap.size W m h2 c2 (cellsV vs)) : Env10 W.heap.size W (l, vs) h1 c1 h2 c2 := by
  subst hn
  subst hm
  exact ⟨owns_sl o1, o2⟩

/-- What stands behind the fourth step. -/
structure M4 (w W : World) (B : Nat) (c : C10) (ao : Option Addr) (ac : Nat) (xo : Option Addr) (xc : Nat) (f : F10) (fo : Option Addr) (fc : Nat) (e : E10) (gc gf ga xg gv ge gw : Nat) (hao : Option Addr) (hac : Nat) : Prop where
  bel : Below w.heap.size w W
  low : w.heap.size ≤ B
  le : B ≤ W.heap.size
  l3 : Lent3 B W c f gc gf ga xg gv
  cb : W.heap[w.heap.size]? = some (.cells (cellsC c ao ac xo xc) 33 (0, 0))
  fb : W.heap[w.heap.size + 1]? = some (.cells #[.int .i64 f.id, .int .i64 f.type, .slice fo f.args.length fc] 36 (0, 0))
  eb : W.heap[ge]? = some (.cells #[.slice hao e.1.length hac, .slice (some ⟨gw, 0, none⟩) e.2.length (e.2.length + 12)] 44 (0, 0))
  has : W.ownsRow B 4 1 (.slice hao e.1.length hac) e.1.length (cellsB e.1)
  vals : LentR B W gw e.2
  ne : gw ≠ gv
theorem M4.old {w W W' : World} {B : Nat} {c : C10} {ao : Option Addr} {ac : Nat} {xo : Option Addr} {xc : Nat} {f : F10} {fo : Option Addr} {fc : Nat} {e : E10} {gc gf ga xg gv ge gw : Nat} {hao : Option Addr} {hac : Nat} (h : M4 w W B c ao ac xo xc f fo fc e gc gf ga xg gv ge gw hao hac) (b : Below W.heap.size W W') : M4 w W' B c ao ac xo xc f fo fc e gc gf ga xg gv ge gw hao hac :=
  ⟨h.bel.trans (b.mono h.bel.size), h.low, Nat.le_trans h.le b.size, h.l3.old b, (b.block _ (lt_of_heap h.cb)).trans h.cb, (b.block _ (lt_of_heap h.fb)).trans h.fb, (b.block _ (lt_of_heap h.eb)).trans h.eb, owns_below h.has b, h.vals.old b, h.ne⟩
/-- An env of one's own, in a box. -/
structure RowsE (base : Nat) (W : World) (E : E10) (N1 N2 : Nat) (T : TypeId) (g : Nat) (h1 : Option Addr) (c1 : Nat) (h2 : Option Addr) (c2 : Nat) : Prop where
  box : W.heap[g]? = some (.cells #[.slice h1 N1 c1, .slice h2 N2 c2] T (0, 0))
  r1 : W.ownsRow base 4 1 (.slice h1 N1 c1) N1 (cellsB E.1)
  r2 : W.ownsRow base 27 3 (.slice h2 N2 c2) N2 (cellsV E.2)
theorem RowsE.old {base : Nat} {W W' : World} {E : E10} {N1 N2 : Nat} {T : TypeId} {g : Nat} {h1 : Option Addr} {c1 : Nat} {h2 : Option Addr} {c2 : Nat} (h : RowsE base W E N1 N2 T g h1 c1 h2 c2) (b : Below W.heap.size W W') : RowsE base W' E N1 N2 T g h1 c1 h2 c2 :=
  ⟨(b.block _ (lt_of_heap h.box)).trans h.box, owns_below h.r1 b, owns_below h.r2 b⟩
/-- One's own rows stay where another row of values is written over. -/
theorem RowsE.over {base q : Nat} {W W' : World} {E : E10} {N1 N2 : Nat} {T : TypeId} {g : Nat} {h1 : Option Addr} {c1 : Nat} {h2 : Option Addr} {c2 : Nat} {cs : Array Value} {fz : Nat × Nat} (h : RowsE base W E N1 N2 T g h1 c1 h2 c2) (k : W.grownBy W' (some q)) (hq : q < base) (hv : W.heap[q]? = some (.cells cs 27 fz)) (hT : T ≠ 27) : RowsE base W' E N1 N2 T g h1 c1 h2 c2 :=
  have hf := far_block hv k
  ⟨hf.1 _ _ _ _ h.box hT, hf.2 _ _ _ _ _ _ (by decide) h.r1, h.r2.kept k (Or.inr (fun e' => by have := (h.r2.lt q e').1; omega))⟩
theorem RowsE.env {base : Nat} {W : World} {E : E10} {N1 N2 : Nat} {T : TypeId} {g : Nat} {h1 : Option Addr} {c1 : Nat} {h2 : Option Addr} {c2 : Nat} (h : RowsE base W E N1 N2 T g h1 c1 h2 c2) (hn : N1 = E.1.length) (hm : N2 = E.2.length) : Env10 W.heap.size W E h1 c1 h2 c2 := by
  subst hn
  subst hm
  exact ⟨owns_sl h.r1, owns_sl h.r2⟩
/-- What stands across a block that is made then. -/
theorem across {W : World} {b : Nat} {cs : Array Value} {T : TypeId} (h : W.heap[b]? = some (.cells cs T (0, 0))) : ∀ (o : Obj) (j : Nat), (W.alloc o).cell? ⟨b, j, none⟩ = cs[j]? := fun o j => Lib.cell_of_heap ((Below.heap_alloc W o b (lt_of_heap h)).trans h) j

set_option maxHeartbeats 8000000 in
theorem matches_goes (h : CameM w c ao ac xo xc f fo fc e ho hc vo vc) (hm : notMuch c f e) :
    Calls Tryz.prog 3 #[aggC c ao ac xo xc, aggF f fo fc, .slice ho e.1.length hc, .slice vo e.2.length vc] w (MatchesP w) := by
  obtain ⟨t1, t2, t3, t4, t5⟩ := hm
  have HAw := Lib.hid (fun W => awake_any W)
  obtain ⟨w0, hw0⟩ : ∃ w0, w0 = (w.alloc (.cells (cellsC c ao ac xo xc) 33)).alloc (.cells #[.int .i64 f.id, .int .i64 f.type, .slice fo f.args.length fc] 36) := ⟨_, rfl⟩
  have hb0 : Below w.heap.size w w0 := by rw [hw0]; exact below_new (below_own _) _
  have HX := Lib.hid (count_any c.test w0 (.slice xo c.test.kids.length xc) 2000 (h.test.up hb0 hb0.size) (by omega) (by omega))
  obtain ⟨q1, q2⟩ : w0.heap[w.heap.size]? = some (.cells (cellsC c ao ac xo xc) 33 (0, 0)) ∧ w0.heap[w.heap.size + 1]? = some (.cells #[.int .i64 f.id, .int .i64 f.type, .slice fo f.args.length fc] 36 (0, 0)) := by
    rw [hw0]
    exact heap_two _ _
  have HB0 := Lib.hid hb0
  have HQ1 := Lib.hid q1
  have HQ2 := Lib.hid q2
  have y1 := fun j => Lib.cell_of_heap q1 j
  have y2 := fun j => Lib.cell_of_heap q2 j
  have HLo : Hid (∀ a0 : Act, a0.tmps.size = 135 → a0.eval (.tmp 4) = .pointer (some ⟨w.heap.size, 0, none⟩) → a0.eval (.tmp 5) = .pointer (some ⟨w.heap.size + 1, 0, none⟩) → Lo a0 w0 c ao ac xo xc f fo fc w.heap.size (w.heap.size + 1)) := fun a0 z1 z2 z3 =>
    ⟨z1, z2, z3, h.args.up hb0 hb0.size, h.test.up hb0 hb0.size, fits_many _ (by omega), h.fact.up hb0 hb0.size, t1, t2, q1, q2⟩
  have HCame := Lib.hid h
  have s1 : ¬ (2000 : Int) < (c.args.length : Int) := by omega
  have s2 : ¬ (2000 : Int) < (f.args.length : Int) := by omega
  have s3 : ¬ (2000 : Int) < (e.1.length : Int) := by omega
  have s4 : ¬ (2000 : Int) < (e.2.length : Int) := by omega
  have s5 : min (manyE c.test.kids : Int) (2000 + 1) = (manyE c.test.kids : Int) := by omega
  have s6 : ¬ (2000 : Int) < (manyE c.test.kids : Int) := by omega
  rw [s5] at HX
  have HT := Lib.hid (And.intro t1 (And.intro t2 (And.intro t3 t4)))
  unfold MatchesP
  unfold cellsC at hw0 y1
  unfold aggC aggF cellsC
  clear h q1 q2 hb0 t1 t2 t3 t4 t5 s5
  go_enter Tryz.func3, Tryz.ntmps3
  go_upto_region 3 with (go_at_call 5; go_must (rw [← hw0]; clear hw0; refine (HX.out).mono ?_; rintro r w1 ⟨rfl, rfl⟩))
  clear s1 s2 s3 s4 s6 y1 y2 HX
  generalize ha0 : ({ tmps := _, defers := _ } : Act) = a0
  have o : Lo a0 w0 c ao ac xo xc f fo fc w.heap.size (w.heap.size + 1) := by
    rw [← ha0]
    exact HLo.out _ rfl rfl rfl
  clear HLo
  refine wp_region_inv (fun listed a W => Lf a0 w0 c ao ac xo xc f fo fc (fun j => listed.getD j false) a W) (by kernel_rfl) (by kernel_rfl) ⟨_, (fillF_self a0 slotsL (fun d hd => by rw [o.size]; exact (by decide : ∀ d ∈ slotsL, d < 135) d hd)).symm, Ld.start _ _ _ _ _ _ _ _ _ _ (fun j => replicate_getD _ j)⟩
    (fun listed a W i hs h hi => by
      obtain ⟨x, rfl, hW⟩ := h
      have hs8 : listed.size = 8 := hs
      have hi8 : i < 8 := ready_lt hi
      have neg : listed.getD i false = false := ready_not hs hi
      have el : (fun j => (listed.setIfInBounds i true).getD j false) = setL (fun j => listed.getD j false) i := funext fun j => getD_listed (by omega) j
      refine wpOp_mono (K := Lf a0 w0 c ao ac xo xc f fo fc (setL (fun j => listed.getD j false) i)) (fun a' w' h' => by show Lf _ _ _ _ _ _ _ _ _ _ (fun j => (listed.setIfInBounds i true).getD j false) _ _; rw [el]; exact h') ?_
      clear el ha0
      obtain rfl | rfl | rfl | rfl | rfl | rfl | rfl | rfl : i = 0 ∨ i = 1 ∨ i = 2 ∨ i = 3 ∨ i = 4 ∨ i = 5 ∨ i = 6 ∨ i = 7 := by omega
      · exact Ld.op0 o hW rfl neg
      · exact Ld.op1 o hW rfl neg (waits_done hi (by kernel_rfl))
      · exact Ld.op2 o hW rfl neg
      · exact Ld.op3 o hW rfl neg (waits_done hi (by kernel_rfl))
      · exact Ld.op4 o hW rfl neg
      · exact Ld.op5 o hW rfl neg
      · exact Ld.op6 o hW rfl neg (waits_done hi (by kernel_rfl)) (waits_done hi (by kernel_rfl))
      · exact Ld.op7 o hW rfl neg (waits_done hi (by kernel_rfl)) (waits_done hi (by kernel_rfl)))
    (fun listed a W h hall => ?_)
  obtain ⟨x, rfl, hW⟩ := h
  obtain ⟨⟨cs6, e6, gc, eg, hgc, hc6⟩, -⟩ := hW.f6 (hall 6 (by decide))
  obtain ⟨⟨cs7, e7, gf, ef, hgf, hf7⟩, -⟩ := hW.f7 (hall 7 (by decide))
  obtain ⟨ga, xg, e47, hLC⟩ := hW.f1 (hall 1 (by decide))
  obtain ⟨gv, e49, hLF⟩ := hW.f3 (hall 3 (by decide))
  have e46 := hW.f0 (hall 0 (by decide))
  have e48 := hW.f2 (hall 2 (by decide))
  rw [e6] at e47
  rw [e7] at e49
  have ec6 : cs6 = cellsC c (some ⟨ga, 0, none⟩) (c.args.length + 12) (some ⟨xg, 0, none⟩) (c.test.kids.length + 12) := by injection e47
  have ec7 : cs7 = #[.int .i64 f.id, .int .i64 f.type, .slice (some ⟨gv, 0, none⟩) f.args.length (f.args.length + 12)] := by injection e49
  subst ec6 ec7
  have HL3 : Hid (Lent3 w0.heap.size W c f gc gf ga xg gv) := ⟨hc6, hf7, hLC, hLF⟩
  have HBW := Lib.hid hW.bel
  refine (by assumption : ∀ (a : Act) (w : World), Code.wp _ _ _ a w → _) _ W ?_
  clear e47 e49 hc6 hf7 hLC hLF hW hall o
  unfold aggC cellsC at e46
  unfold aggF at e48
  unfold cellsC at e6
  simp only [fillF, slotsL, e6, e7, e46, e48, eg, ef]
  clear e6 e7 e46 e48 eg ef
  rw [← ha0]
  clear ha0
  go_simp
  obtain ⟨i0, hi, hz0, hz1, hz2⟩ := info_parts infoB
  have HBw : Hid (Below w.heap.size w W) := HB0.out.trans (HBW.out.mono HB0.out.size)
  have hbl : Below W.heap.size W (W.alloc (.cells #[] 4)) := below_own _
  have HLit := Lib.hid (litB_own (heap_alloc_new W (.cells #[] 4)) (Nat.le_refl _))
  have HCe := Lib.hid (HCame.out.env.has.cells (W.alloc (.cells #[] 4)) (HBw.out.trans (hbl.mono HBw.out.size)))
  have HNi := Lib.hid HCame.out.env.has.nil
  have hl1 : (cellsB e.1).length = e.1.length * 1 := by rw [cellsB_length, Nat.mul_one]
  have hn2 := HT.out.2.2.1
  have HS0 : Hid (w0.heap.size ≤ W.heap.size) := HBW.out.size
  have HC1 := Lib.hid ((HBW.out.block _ (lt_of_heap HQ1.out)).trans HQ1.out)
  have HC2 := Lib.hid ((HBW.out.block _ (lt_of_heap HQ2.out)).trans HQ2.out)
  clear HQ1 HQ2 HBW
  go_wp2_with (at_builtin; go_must (refine wpList_append_apart _ rfl (.tmp 50) (.tmp 51) 37 rfl W.heap.size 4 i0 (.bool false) 1 1 Tryz.underlying37 hi hz0 hz1 hz2 rfl (by decide) _ 0 [] rfl HLit.out ho e.1.length hc (cellsB e.1) rfl hl1 HNi.out HCe.out (cellsB_one _) (by unfold maxLen; omega) (by omega) (by simp) ?_; intro v' w3 hown' hgrow' hor; simp only [Nat.zero_add, List.nil_append] at hown'; obtain ⟨hao, hac, rfl⟩ := owns_slice hown'; refine Hid.out ?_))
  have hgr : (W.alloc (.cells #[] 4)).grownBy w3 (some W.heap.size) := hgrow'
  have hb3 : Below W.heap.size W w3 := hbl.grown hgr (by simp) (fun k hk => by obtain rfl := Option.some.inj hk; exact Nat.le_refl _)
  have HB3 := Lib.hid hb3
  have HH3 : Hid (w3.ownsRow W.heap.size 4 1 (.slice hao e.1.length hac) e.1.length (cellsB e.1)) := hown'
  have HV : Hid (Calls Tryz.prog 9 #[.slice vo e.2.length vc] w3 fun r w4 => ∃ gw, r = .returned (.slice (some ⟨gw, 0, none⟩) e.2.length (e.2.length + 12)) ∧ w3.heap.size ≤ gw ∧ LentR w3.heap.size w4 gw e.2 ∧ Below w3.heap.size w3 w4) := by
    have hv := HCame.out.env.vals.up (HBw.out.trans (hb3.mono HBw.out.size)) (HBw.out.trans (hb3.mono HBw.out.size)).size
    refine (lentY_any vo e.2.length vc e.2 w3 rfl HT.out.2.2.2 (hv.rowAt rfl).1 (hv.rowAt rfl).2).mono ?_
    rintro r w4 ⟨rfl, h1, h2⟩
    exact ⟨_, rfl, Nat.le_refl _, h1, h2⟩
  clear hbl HLit HCe HNi hl1 hown' hgrow' hor hgr hb3 hi hz0 hz1 hz2 hn2
  refine Lib.hid ?_
  go_wp2_with (go_at_call 9; go_must (refine (HV.out).mono ?_; rintro r w4 ⟨gw, rfl, hgw, hL, hb⟩; refine Hid.out ?_))
  obtain ⟨W5, hW5⟩ : ∃ W5, W5 = w4.alloc (.cells #[.slice hao e.1.length hac, .slice (some ⟨gw, 0, none⟩) e.2.length (e.2.length + 12)] 44) := ⟨_, rfl⟩
  have hb45 : Below w4.heap.size w4 W5 := by rw [hW5]; exact below_own _
  have HM4 : Hid (M4 w W5 w0.heap.size c ao ac xo xc f fo fc e gc gf ga xg gv w4.heap.size gw hao hac) := by
    have b34 := hb
    have b04 : Below W.heap.size W w4 := HB3.out.trans (b34.mono HB3.out.size)
    have b05 : Below W.heap.size W W5 := b04.trans (hb45.mono b04.size)
    refine ⟨HBw.out.trans (b05.mono HBw.out.size), HB0.out.size, Nat.le_trans HS0.out b05.size, HL3.out.old b05, (b05.block _ (lt_of_heap HC1.out)).trans HC1.out, (b05.block _ (lt_of_heap HC2.out)).trans HC2.out, ?_, owns_mono (owns_below (owns_below HH3.out b34) hb45) HS0.out, (hL.old hb45).mono (Nat.le_trans HS0.out HB3.out.size), ?_⟩
    · rw [hW5]
      exact heap_alloc_new w4 _
    · have := HL3.out.fact.lt
      have := HB3.out.size
      omega
  clear HL3 HC1 HC2 HH3 hgw hL hb hb45 HV HB3 HS0 HB0 HBw
  refine Lib.hid ?_
  go_upto_region 5 with fail
  show Code.wp _ _ _ _ (w4.alloc (.cells #[.slice hao e.1.length hac, .slice (some ⟨gw, 0, none⟩) e.2.length (e.2.length + 12)] 44))
  rw [← hW5]
  clear hW5
  generalize w4.heap.size = ge at *
  obtain ⟨X, hX⟩ : ∃ X, X = firstB c [f] e := ⟨_, rfl⟩
  obtain ⟨E, hE⟩ : ∃ E, E = envE X := ⟨_, rfl⟩
  obtain ⟨N1, hN1⟩ : ∃ N1, N1 = E.1.length := ⟨_, rfl⟩
  obtain ⟨N2, hN2⟩ : ∃ N2, N2 = E.2.length := ⟨_, rfl⟩
  obtain ⟨hn1, hn2⟩ : N1 ≤ 2000 ∧ N2 ≤ 2000 := by
    rw [hN1, hN2, hE, hX]
    exact short_env HT.out.2.2.1
  have HMt : Hid (∀ W', M4 w W' w0.heap.size c ao ac xo xc f fo fc e gc gf ga xg gv ge gw hao hac → Calls Tryz.prog 10 #[aggC c (some ⟨ga, 0, none⟩) (c.args.length + 12) (some ⟨xg, 0, none⟩) (c.test.kids.length + 12), aggF f (some ⟨gv, 0, none⟩) (f.args.length + 12), .agg #[.slice hao e.1.length hac, .slice (some ⟨gw, 0, none⟩) e.2.length (e.2.length + 12)]] W' fun r w' => ∃ (h1 : Option Addr) (c1 : Nat) (h2 : Option Addr) (c2 : Nat), r = .returned (.tuple #[.agg #[.slice h1 N1 c1, .slice h2 N2 c2], .bool X.isSome]) ∧ w'.ownsRow W'.heap.size 4 1 (.slice h1 N1 c1) N1 (cellsB E.1) ∧ w'.ownsRow W'.heap.size 27 3 (.slice h2 N2 c2) N2 (cellsV E.2) ∧ Below W'.heap.size W' w') := fun W' h => by
    refine (match_any c _ _ _ _ f _ _ e hao hac (some ⟨gw, 0, none⟩) (e.2.length + 12) W' (h.l3.cond.sl HT.out.1).1 (h.l3.fact.sl HT.out.2.1) (own_env rfl rfl h.has (h.vals.sl HT.out.2.2.2)) (by have := HT.out.2.2.1; omega) HCame.out.short2 HCame.out.short1).mono fun r w' h => ?_
    rw [hN1, hN2, hE, hX]
    exact h.tells
  have HRt : Hid (∀ W', M4 w W' w0.heap.size c ao ac xo xc f fo fc e gc gf ga xg gv ge gw hao hac → Calls Tryz.prog 11 #[aggC c ao ac xo xc, aggF f fo fc, .agg #[.slice ho e.1.length hc, .slice vo e.2.length vc]] W' fun r w' => ∃ (h1 : Option Addr) (c1 : Nat) (h2 : Option Addr) (c2 : Nat), r = .returned (.tuple #[.agg #[.slice h1 N1 c1, .slice h2 N2 c2], .bool X.isSome]) ∧ w'.ownsRow W'.heap.size 4 1 (.slice h1 N1 c1) N1 (cellsB E.1) ∧ w'.ownsRow W'.heap.size 27 3 (.slice h2 N2 c2) N2 (cellsV E.2) ∧ Below W'.heap.size W' w') := fun W' h => by
    refine (refMatchQ_any f fo fc (HCame.out.args.up h.bel h.bel.size) (HCame.out.fact.up h.bel h.bel.size) ⟨HCame.out.env.has.up h.bel h.bel.size, HCame.out.env.vals.up h.bel h.bel.size⟩ (by have := HT.out.2.2.1; omega)).mono fun r w' h => ?_
    rw [hN1, hN2, hE, hX]
    exact h.tells
  unfold aggC cellsC aggF at HMt HRt
  clear hX hE
  have HN := Lib.hid (And.intro hN1 hN2)
  clear hN1 hN2
  generalize X.isSome = bx at *
  have HW5 : Hid (w.heap.size ≤ W5.heap.size) := HM4.out.bel.size
  have HGv : Hid (gv < W5.heap.size ∧ gw < W5.heap.size) := ⟨HM4.out.l3.fact.lt, HM4.out.vals.lt⟩
  -- step 5
  have y1 := fun j => Lib.cell_of_heap HM4.out.l3.cbox j
  have y2 := fun j => Lib.cell_of_heap HM4.out.l3.fbox j
  have y3 := fun j => Lib.cell_of_heap HM4.out.eb j
  unfold cellsC at y1
  go_wp2_with (go_at_call 10; go_must (refine (HMt.out _ HM4.out).mono ?_; rintro r w6 ⟨h1, c1, h2, c2, rfl, r1, r2, hb⟩; refine Hid.out ?_))
  obtain ⟨W6, hW6⟩ : ∃ W6, W6 = w6.alloc (.cells #[.slice h1 N1 c1, .slice h2 N2 c2] 44) := ⟨_, rfl⟩
  have hb' : Below w6.heap.size w6 W6 := by rw [hW6]; exact below_own _
  have hbn : Below W5.heap.size W5 W6 := hb.trans (hb'.mono hb.size)
  have HA : Hid (RowsE W5.heap.size W6 E N1 N2 44 w6.heap.size h1 c1 h2 c2) := ⟨by rw [hW6]; exact heap_alloc_new w6 _, owns_below r1 hb', owns_below r2 hb'⟩
  replace HM4 := Lib.hid (HM4.out.old hbn)
  have HZ5 : Hid (W5.heap.size ≤ W6.heap.size) := hbn.size
  clear r1 r2 hb hb' y1 y2 y3
  refine Lib.hid ?_
  go_upto_region 6 with fail
  show Code.wp _ _ _ _ (w6.alloc (.cells #[.slice h1 N1 c1, .slice h2 N2 c2] 44))
  rw [← hW6]
  clear hW6 hbn
  have HLA : Hid ((∀ g, (Value.slice h1 N1 c1).ownBlock = some g → g < W6.heap.size) ∧ ∀ g, (Value.slice h2 N2 c2).ownBlock = some g → g < W6.heap.size) := ⟨fun g hg => (HA.out.r1.lt g hg).2, fun g hg => (HA.out.r2.lt g hg).2⟩
  -- step 6
  have y1 := fun j => Lib.cell_of_heap HM4.out.l3.cbox j
  have y2 := fun j => Lib.cell_of_heap HM4.out.l3.fbox j
  have y3 := fun j => Lib.cell_of_heap HM4.out.eb j
  unfold cellsC at y1
  go_wp2_with (go_at_call 10; go_must (refine (HMt.out _ HM4.out).mono ?_; rintro r w7 ⟨h3, c3, h4, c4, rfl, r1, r2, hb⟩; refine Hid.out ?_))
  obtain ⟨W7, hW7⟩ : ∃ W7, W7 = w7.alloc (.cells #[.slice h3 N1 c3, .slice h4 N2 c4] 44) := ⟨_, rfl⟩
  have hb' : Below w7.heap.size w7 W7 := by rw [hW7]; exact below_own _
  have hbn : Below W6.heap.size W6 W7 := hb.trans (hb'.mono hb.size)
  have HBb : Hid (RowsE W6.heap.size W7 E N1 N2 44 w7.heap.size h3 c3 h4 c4) := ⟨by rw [hW7]; exact heap_alloc_new w7 _, owns_below r1 hb', owns_below r2 hb'⟩
  replace HM4 := Lib.hid (HM4.out.old hbn)
  replace HA := Lib.hid (HA.out.old hbn)
  have HZ6 : Hid (W6.heap.size ≤ W7.heap.size) := hbn.size
  clear r1 r2 hb hb' y1 y2 y3
  refine Lib.hid ?_
  go_upto_region 7 with fail
  show Code.wp _ _ _ _ (w7.alloc (.cells #[.slice h3 N1 c3, .slice h4 N2 c4] 44))
  rw [← hW7]
  clear hW7 hbn
  -- step 7
  have y1 := fun j => Lib.cell_of_heap HM4.out.cb j
  have y2 := fun j => Lib.cell_of_heap HM4.out.fb j
  unfold cellsC at y1
  go_wp2_with (go_at_call 11; go_must (refine (HRt.out _ HM4.out).mono ?_; rintro r w8 ⟨h5, c5, h6, c6, rfl, r1, r2, hb⟩; refine Hid.out ?_))
  obtain ⟨W8, hW8⟩ : ∃ W8, W8 = w8.alloc (.cells #[.slice h5 N1 c5, .slice h6 N2 c6] 47) := ⟨_, rfl⟩
  have hb' : Below w8.heap.size w8 W8 := by rw [hW8]; exact below_own _
  have hbn : Below W7.heap.size W7 W8 := hb.trans (hb'.mono hb.size)
  have HD : Hid (RowsE W7.heap.size W8 E N1 N2 47 w8.heap.size h5 c5 h6 c6) := ⟨by rw [hW8]; exact heap_alloc_new w8 _, owns_below r1 hb', owns_below r2 hb'⟩
  replace HM4 := Lib.hid (HM4.out.old hbn)
  replace HA := Lib.hid (HA.out.old hbn)
  replace HBb := Lib.hid (HBb.out.old hbn)
  have HZ7 : Hid (W7.heap.size ≤ W8.heap.size) := hbn.size
  clear r1 r2 hb hb' y1 y2 HMt
  refine Lib.hid ?_
  go_upto_region 8 with fail
  show Code.wp _ _ _ _ (w8.alloc (.cells #[.slice h5 N1 c5, .slice h6 N2 c6] 47))
  rw [← hW8]
  clear hW8 hbn
  generalize w6.heap.size = g12 at *
  generalize w7.heap.size = g14 at *
  generalize w8.heap.size = g16 at *
  clear HRt
  have hbb : (bx != bx) = false := by cases bx <;> rfl
  have HSz := Lib.hid (Nat.le_trans HZ5.out (Nat.le_trans HZ6.out HZ7.out))
  have y0 := fun j => Lib.cell_of_heap HA.out.box j
  have y1 := fun j => Lib.cell_of_heap HD.out.box j
  have y2 := fun j => Lib.cell_of_heap HBb.out.box j
  have y3 := fun j => Lib.cell_of_heap HM4.out.eb j
  go_wp2_with (go_at_call 12; go_must (refine (sameEnv_yes E N1 N2 h1 c1 h2 c2 h5 c5 h6 c6 W8 HN.out.1.symm HN.out.2.symm (HA.out.env HN.out.1 HN.out.2) (HD.out.env HN.out.1 HN.out.2)).mono ?_; rintro r W9 ⟨rfl, hb⟩; refine Hid.out ?_))
  have hbn : Below W8.heap.size W8 W9 := hb
  replace HSz := Lib.hid (Nat.le_trans HSz.out hbn.size)
  replace HM4 := Lib.hid (HM4.out.old hbn)
  replace HA := Lib.hid (HA.out.old hbn)
  replace HBb := Lib.hid (HBb.out.old hbn)
  replace HD := Lib.hid (HD.out.old hbn)
  clear hb hbn y0 y1 y2 y3
  refine Lib.hid ?_
  have y0 := fun j => Lib.cell_of_heap HA.out.box j
  have y1 := fun j => Lib.cell_of_heap HD.out.box j
  have y2 := fun j => Lib.cell_of_heap HBb.out.box j
  have y3 := fun j => Lib.cell_of_heap HM4.out.eb j
  go_wp2_with (go_at_call 12; go_must (refine (sameEnv_yes E N1 N2 h3 c3 h4 c4 h5 c5 h6 c6 W9 HN.out.1.symm HN.out.2.symm (HBb.out.env HN.out.1 HN.out.2) (HD.out.env HN.out.1 HN.out.2)).mono ?_; rintro r W10 ⟨rfl, hb⟩; refine Hid.out ?_))
  have hbn : Below W9.heap.size W9 W10 := hb
  replace HSz := Lib.hid (Nat.le_trans HSz.out hbn.size)
  replace HM4 := Lib.hid (HM4.out.old hbn)
  replace HA := Lib.hid (HA.out.old hbn)
  replace HBb := Lib.hid (HBb.out.old hbn)
  replace HD := Lib.hid (HD.out.old hbn)
  clear hb hbn y0 y1 y2 y3
  refine Lib.hid ?_
  have y0 := fun j => Lib.cell_of_heap HA.out.box j
  have y1 := fun j => Lib.cell_of_heap HD.out.box j
  have y2 := fun j => Lib.cell_of_heap HBb.out.box j
  have y3 := fun j => Lib.cell_of_heap HM4.out.eb j
  go_wp2_with (go_at_call 12; go_must (refine (sameEnv_yes e e.1.length e.2.length hao hac (some ⟨gw, 0, none⟩) (e.2.length + 12) ho hc vo vc W10 rfl rfl (own_env rfl rfl HM4.out.has (HM4.out.vals.sl HT.out.2.2.2)) ⟨HCame.out.env.has.up HM4.out.bel HM4.out.bel.size, HCame.out.env.vals.up HM4.out.bel HM4.out.bel.size⟩).mono ?_; rintro r W11 ⟨rfl, hb⟩; refine Hid.out ?_))
  have hbn : Below W10.heap.size W10 W11 := hb
  replace HSz := Lib.hid (Nat.le_trans HSz.out hbn.size)
  replace HM4 := Lib.hid (HM4.out.old hbn)
  replace HA := Lib.hid (HA.out.old hbn)
  replace HBb := Lib.hid (HBb.out.old hbn)
  replace HD := Lib.hid (HD.out.old hbn)
  clear hb hbn y0 y1 y2 y3
  refine Lib.hid ?_
  have HKc : Hid (Calls Tryz.prog 13 #[aggC c (some ⟨ga, 0, none⟩) (c.args.length + 12) (some ⟨xg, 0, none⟩) (c.test.kids.length + 12), aggC c ao ac xo xc] W11 (YesG W11)) := keptCond_yes c w0.heap.size ga xg ao ac xo xc W11 HT.out.1 HM4.out.l3.cond (HCame.out.args.up HM4.out.bel HM4.out.bel.size) (HCame.out.test.up HM4.out.bel HM4.out.bel.size)
  unfold aggC cellsC YesG at HKc
  have y0 := fun j => Lib.cell_of_heap HM4.out.l3.cbox j
  have y1 := fun j => Lib.cell_of_heap HM4.out.cb j
  have y2 := fun j => Lib.cell_of_heap HM4.out.l3.fbox j
  have y3 := fun j => Lib.cell_of_heap HM4.out.fb j
  have y4 := fun j => Lib.cell_of_heap HM4.out.eb j
  unfold cellsC at y0 y1
  go_wp2_with (go_at_call 13; go_must (refine (HKc.out).mono ?_; rintro r W12 ⟨rfl, hb⟩; refine Hid.out ?_))
  have hbn : Below W11.heap.size W11 W12 := hb.below
  replace HSz := Lib.hid (Nat.le_trans HSz.out hbn.size)
  replace HM4 := Lib.hid (HM4.out.old hbn)
  replace HA := Lib.hid (HA.out.old hbn)
  replace HBb := Lib.hid (HBb.out.old hbn)
  replace HD := Lib.hid (HD.out.old hbn)
  clear hb hbn HKc y0 y1 y2 y3 y4
  refine Lib.hid ?_
  have HKf : Hid (Calls Tryz.prog 14 #[aggF f (some ⟨gv, 0, none⟩) (f.args.length + 12), aggF f fo fc] W12 fun r w' => r = .returned (.bool true) ∧ Gr W12 w') := keptFactR_yes f w0.heap.size gv fo fc W12 HT.out.2.1 HM4.out.l3.fact (HCame.out.fact.up HM4.out.bel HM4.out.bel.size)
  unfold aggF at HKf
  have y0 := fun j => Lib.cell_of_heap HM4.out.l3.cbox j
  have y1 := fun j => Lib.cell_of_heap HM4.out.cb j
  have y2 := fun j => Lib.cell_of_heap HM4.out.l3.fbox j
  have y3 := fun j => Lib.cell_of_heap HM4.out.fb j
  have y4 := fun j => Lib.cell_of_heap HM4.out.eb j
  unfold cellsC at y0 y1
  go_wp2_with (go_at_call 14; go_must (refine (HKf.out).mono ?_; rintro r W13 ⟨rfl, hb⟩; refine Hid.out ?_))
  have hbn : Below W12.heap.size W12 W13 := hb.below
  replace HSz := Lib.hid (Nat.le_trans HSz.out hbn.size)
  replace HM4 := Lib.hid (HM4.out.old hbn)
  replace HA := Lib.hid (HA.out.old hbn)
  replace HBb := Lib.hid (HBb.out.old hbn)
  replace HD := Lib.hid (HD.out.old hbn)
  clear hb hbn HKf y0 y1 y2 y3 y4
  refine Lib.hid ?_
  have hvr := (HCame.out.env.vals.up HM4.out.bel HM4.out.bel.size).rowAt rfl
  have HKv := Lib.hid (keptY_any vo gw e.2.length vc e.2 W13 rfl HT.out.2.2.2 HM4.out.vals.lt hvr.1 hvr.2 HM4.out.vals.row)
  clear hvr
  have y0 := fun j => Lib.cell_of_heap HM4.out.l3.cbox j
  have y1 := fun j => Lib.cell_of_heap HM4.out.cb j
  have y2 := fun j => Lib.cell_of_heap HM4.out.l3.fbox j
  have y3 := fun j => Lib.cell_of_heap HM4.out.fb j
  have y4 := fun j => Lib.cell_of_heap HM4.out.eb j
  unfold cellsC at y0 y1
  go_wp2_with (go_at_call 15; go_must (refine (HKv.out).mono ?_; rintro r W14 ⟨rfl, hb⟩; refine Hid.out ?_))
  have hbn : Below W13.heap.size W13 W14 := hb.below
  replace HSz := Lib.hid (Nat.le_trans HSz.out hbn.size)
  replace HM4 := Lib.hid (HM4.out.old hbn)
  replace HA := Lib.hid (HA.out.old hbn)
  replace HBb := Lib.hid (HBb.out.old hbn)
  replace HD := Lib.hid (HD.out.old hbn)
  clear hb hbn HKv y0 y1 y2 y3 y4
  refine Lib.hid ?_
  have HOf : Hid (Calls Tryz.prog 16 #[aggF f (some ⟨gv, 0, none⟩) (f.args.length + 12)] W14 fun r w' => r = .returned (.tuple #[]) ∧ W14.grownBy w' (some gv)) := overFact_any f w0.heap.size gv W14 HT.out.2.1 HM4.out.l3.fact
  unfold aggF at HOf
  have y0 := fun j => Lib.cell_of_heap HM4.out.l3.cbox j
  have y1 := fun j => Lib.cell_of_heap HM4.out.cb j
  have y2 := fun j => Lib.cell_of_heap HM4.out.l3.fbox j
  have y3 := fun j => Lib.cell_of_heap HM4.out.fb j
  have y4 := fun j => Lib.cell_of_heap HM4.out.eb j
  unfold cellsC at y0 y1
  go_wp2_with (go_at_call 16; go_must (refine (HOf.out).mono ?_; rintro r W15 ⟨rfl, hb⟩; refine Hid.out ?_))
  replace HSz := Lib.hid (Nat.le_trans HSz.out hb.size)
  obtain ⟨cv, fv, hv⟩ := owns_tag HM4.out.l3.fact.own gv rfl
  have hf := far_block hv hb
  replace HA := Lib.hid (HA.out.over hb HGv.out.1 hv (by decide))
  replace HBb := Lib.hid (HBb.out.over hb (by have := HGv.out.1; have := HZ5.out; omega) hv (by decide))
  replace HD := Lib.hid (HD.out.over hb (by have := HGv.out.1; have := HZ5.out; have := HZ6.out; omega) hv (by decide))
  have HEb := Lib.hid (hf.1 _ _ _ _ HM4.out.eb (by decide))
  have HVe := Lib.hid (HM4.out.vals.apart hb HM4.out.ne)
  have HBe : Hid (Below w.heap.size w W15) := HM4.out.bel.grown hb HM4.out.bel.size (fun k hk => by obtain rfl := Option.some.inj hk; have := (HM4.out.l3.fact.own.lt gv rfl).1; have := HM4.out.low; omega)
  have HLo : Hid (w.heap.size ≤ gw) := by have := (HM4.out.vals.own.lt gw rfl).1; have := HM4.out.low; unfold Hid; omega
  clear HM4 HOf hb hf hv y0 y1 y2 y3 y4
  refine Lib.hid ?_
  have HOv := Lib.hid (overV_any w0.heap.size gw e.2 W15 HT.out.2.2.2 HVe.out)
  have y0 := fun j => Lib.cell_of_heap HEb.out j
  go_wp2_with (go_at_call 17; go_must (refine (HOv.out).mono ?_; rintro r W16 ⟨rfl, hb⟩; refine Hid.out ?_))
  replace HSz := Lib.hid (Nat.le_trans HSz.out hb.size)
  obtain ⟨cv, fv, hv⟩ := owns_tag HVe.out.own gw rfl
  replace HA := Lib.hid (HA.out.over hb HGv.out.2 hv (by decide))
  replace HBb := Lib.hid (HBb.out.over hb (by have := HGv.out.2; have := HZ5.out; omega) hv (by decide))
  replace HD := Lib.hid (HD.out.over hb (by have := HGv.out.2; have := HZ5.out; have := HZ6.out; omega) hv (by decide))
  replace HBe := Lib.hid (HBe.out.grown hb HBe.out.size (fun k hk => by obtain rfl := Option.some.inj hk; exact HLo.out))
  clear HOv HEb HVe HLo hb hv y0
  refine Lib.hid ?_
  have y0 := fun j => Lib.cell_of_heap HA.out.box j
  have y1 := fun j => Lib.cell_of_heap HD.out.box j
  have y2 := fun j => Lib.cell_of_heap HBb.out.box j
  go_wp2_with (go_at_call 12; go_must (refine (sameEnv_yes E N1 N2 h1 c1 h2 c2 h5 c5 h6 c6 W16 HN.out.1.symm HN.out.2.symm (HA.out.env HN.out.1 HN.out.2) (HD.out.env HN.out.1 HN.out.2)).mono ?_; rintro r W17 ⟨rfl, hb⟩; refine Hid.out ?_))
  replace HBe := Lib.hid (HBe.out.trans (hb.mono HBe.out.size))
  replace HA := Lib.hid (HA.out.old hb)
  replace HBb := Lib.hid (HBb.out.old hb)
  have HZw : Hid (w.heap.size ≤ W5.heap.size) := HW5.out
  have HP := Lib.hid (apartEnv_yes W5.heap.size E.1 E.2 E.2 N1 N1 N2 N2 h1 c1 h2 c2 h3 c3 h4 c4 W17 (Nat.le_trans HSz.out hb.size) ⟨E.1, HN.out.1.symm, HA.out.r1⟩ (owns_mono HBb.out.r1 HZ5.out) HA.out.r2 (owns_mono HBb.out.r2 HZ5.out)
    (fun g hg e' => by have h1 := HLA.out.1 g hg; have h2 := (HBb.out.r1.lt g e').1; omega) (fun g hg e' => by have h1 := HLA.out.2 g hg; have h2 := (HBb.out.r2.lt g e').1; omega) (by omega) (by omega) (by omega) (by omega))
  clear hb y0 y1 y2
  refine Lib.hid ?_
  have y0 := fun j => Lib.cell_of_heap HA.out.box j
  have y1 := fun j => Lib.cell_of_heap HBb.out.box j
  go_wp2_with (go_at_call 18; go_must (refine (HP.out).mono ?_; rintro r W18 ⟨rfl, hb⟩; refine Hid.out ?_))
  replace HBe := Lib.hid (HBe.out.trans (hb.mono HZw.out))
  clear hb y0 y1 HP HA HBb HD
  refine Lib.hid ?_
  go_wp2_with (go_at_call 6; go_must (refine (HAw.out _).mono ?_; rintro r W19 ⟨rfl, hb⟩; have HBf := Lib.hid (HBe.out.trans (hb.mono HBe.out.size)); clear hb))
  go_ret
  exact ⟨rfl, HBf.out⟩

theorem matches_any (h : CameM w c ao ac xo xc f fo fc e ho hc vo vc) :
    Calls Tryz.prog 3 #[aggC c ao ac xo xc, aggF f fo fc, .slice ho e.1.length hc, .slice vo e.2.length vc] w (MatchesP w) := by
  by_cases hm : notMuch c f e
  · exact matches_goes h hm
  · exact matches_much h hm
end
end Go.Proofs.YtnnhgbncghpecaaGreat
