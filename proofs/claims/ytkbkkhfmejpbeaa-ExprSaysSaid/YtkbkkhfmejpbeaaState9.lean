/- Where expressions stand; the walk's own memory. -/
import Derived.Test.YtkbkkhfmejpbeaaPlain9
import Derived.Test.YtkbkkhfmejpbeaaKeys9
import Derived.Test.YtkbkkhfmejpbeaaLentV9
namespace Go.Proofs.Ytkbkkhfmejpbeaa
open Go.RowKit

theorem two_boxes9 {w w1 : World} {c1 c2 : Array Value} {t1 t2 : TypeId} (h : Below ((w.alloc (.cells c1 t1)).alloc (.cells c2 t2)).heap.size ((w.alloc (.cells c1 t1)).alloc (.cells c2 t2)) w1) :
    (∀ j, w1.cell? ⟨w.heap.size, j, none⟩ = c1[j]?) ∧ (∀ j, w1.cell? ⟨w.heap.size + 1, j, none⟩ = c2[j]?) := by
  have e1 : ((w.alloc (.cells c1 t1)).alloc (.cells c2 t2)).heap[w.heap.size]? = some (.cells c1 t1 (0, 0)) := by
    rw [Below.heap_alloc _ _ _ (by simp)]
    exact heap_alloc_new w _
  have e2 : ((w.alloc (.cells c1 t1)).alloc (.cells c2 t2)).heap[w.heap.size + 1]? = some (.cells c2 t2 (0, 0)) := by
    have := heap_alloc_new (w.alloc (.cells c1 t1)) (.cells c2 t2)
    simpa using this
  exact ⟨fun j => Lib.cell_of_heap ((h.block _ (by simp; omega)).trans e1) j, fun j => Lib.cell_of_heap ((h.block _ (by simp)).trans e2) j⟩
theorem two_frozen9 {w w1 : World} {c1 c2 : Array Value} {t1 t2 : TypeId} (h : Below ((w.alloc (.cells c1 t1)).alloc (.cells c2 t2)).heap.size ((w.alloc (.cells c1 t1)).alloc (.cells c2 t2)) w1) :
    (∀ j, w1.frozen? ⟨w.heap.size, j, none⟩ = false) ∧ (∀ j, w1.frozen? ⟨w.heap.size + 1, j, none⟩ = false) := by
  have e1 : ((w.alloc (.cells c1 t1)).alloc (.cells c2 t2)).heap[w.heap.size]? = some (.cells c1 t1 (0, 0)) := by
    rw [Below.heap_alloc _ _ _ (by simp)]
    exact heap_alloc_new w _
  have e2 : ((w.alloc (.cells c1 t1)).alloc (.cells c2 t2)).heap[w.heap.size + 1]? = some (.cells c2 t2 (0, 0)) := by
    have := heap_alloc_new (w.alloc (.cells c1 t1)) (.cells c2 t2)
    simpa using this
  exact ⟨fun j => Lib.frozen_of_heap ((h.block _ (by simp; omega)).trans e1) j, fun j => Lib.frozen_of_heap ((h.block _ (by simp)).trans e2) j⟩
theorem cell_alloc (w : World) (cs : Array Value) (t : TypeId) (j : Nat) : (w.alloc (.cells cs t)).cell? ⟨w.heap.size, j, none⟩ = cs[j]? := by
  show (match (w.heap.push (Obj.cells cs t))[w.heap.size]? with | some (.cells c _ _) => if (none : Option _).isSome then none else c[j]? | _ => none) = _
  rw [Array.getElem?_push_size]
  rfl

theorem alloc_at {w : World} {n : Nat} (h : n = w.heap.size) (o : Obj) : (w.alloc o).heap[n]? = some o := by
  subst h
  show (w.heap.push o)[w.heap.size]? = _
  exact Array.getElem?_push_size
theorem alloc_keep {w : World} {k : Nat} {x : Obj} (h : w.heap[k]? = some x) (o : Obj) : (w.alloc o).heap[k]? = some x := by
  have := (below_own (w := w) o).block k (lt_of_heap h)
  rw [this]
  exact h
theorem grown_set2 {w w1 : World} {g i : Nat} {v : Value} (h : w.grownBy w1 (some g)) : w.grownBy (w1.setCell ⟨g, i, none⟩ v) (some g) := Lib.grownBy_trans h (Lib.grownBy_setCell w1 g i v)
theorem three_cells (cs : Array Value) (hs : cs.size = 3) (v0 v1 v2 : Value) : ((cs.setIfInBounds 0 v0).setIfInBounds 1 v1).setIfInBounds 2 v2 = #[v0, v1, v2] := by
  obtain ⟨l⟩ := cs
  rcases l with _ | ⟨a, _ | ⟨b, _ | ⟨c, _ | ⟨d, l⟩⟩⟩⟩
  · exact absurd hs (by simp)
  · exact absurd hs (by simp)
  · exact absurd hs (by simp)
  · simp
  · exact absurd hs (by simp)
theorem three_set {W : World} {g : Nat} {cs : Array Value} {T : TypeId} (v0 v1 v2 : Value) (h : W.heap[g]? = some (.cells cs T (0, 0))) (hs : cs.size = 3) :
    (((W.setCell ⟨g, 0, none⟩ v0).setCell ⟨g, 1, none⟩ v1).setCell ⟨g, 2, none⟩ v2).heap[g]? = some (.cells #[v0, v1, v2] T (0, 0)) ∧ W.grownBy (((W.setCell ⟨g, 0, none⟩ v0).setCell ⟨g, 1, none⟩ v1).setCell ⟨g, 2, none⟩ v2) (some g) := by
  have g0 := Lib.grownBy_setCell W g 0 v0
  have e0 := Joins.block_setCell h v0 (i := 0)
  generalize W.setCell ⟨g, 0, none⟩ v0 = W0 at g0 e0 ⊢
  have g1 := grown_set2 (i := 1) (v := v1) g0
  have e1 := Joins.block_setCell e0 v1 (i := 1)
  generalize W0.setCell ⟨g, 1, none⟩ v1 = W1 at g1 e1 ⊢
  have g2 := grown_set2 (i := 2) (v := v2) g1
  have e2 := Joins.block_setCell e1 v2 (i := 2)
  rw [three_cells cs hs] at e2
  exact ⟨e2, g2⟩
/-- A function whose results are a value that stands in a cell, and an error. -/
theorem val_end {F : Func} {Q : Ending → World → Prop} {a : Act} {W : World} {g slot es : Nat} {cs : Array Value} {v0 v1 v2 err : Value} (hr : F.results = #[ResultVar.cell slot 25, ResultVar.tmp es]) (hp : a.tmps[slot]?.getD undef = .pointer (some ⟨g, 0, none⟩)) (he : a.tmps[es]?.getD undef = err) (hd : a.defers = []) (h : W.heap[g]? = some (.cells cs 25 (0, 0))) (hs : cs.size = 3)
    (hQ : ∀ W3, W3.heap[g]? = some (.cells #[v0, v1, v2] 25 (0, 0)) → W.grownBy W3 (some g) → Q (.returned (.tuple #[.agg #[v0, v1, v2], err])) W3) :
    bodyPost Try.prog F Q .ret a (((W.setCell ⟨g, 0, none⟩ v0).setCell ⟨g, 1, none⟩ v1).setCell ⟨g, 2, none⟩ v2) := by
  obtain ⟨h3, g3⟩ := three_set v0 v1 v2 h hs
  generalize (((W.setCell ⟨g, 0, none⟩ v0).setCell ⟨g, 1, none⟩ v1).setCell ⟨g, 2, none⟩ v2) = W3 at h3 g3 ⊢
  have d0 := Lib.cell_of_heap h3 0
  have d1 := Lib.cell_of_heap h3 1
  have d2 := Lib.cell_of_heap h3 2
  exact bodyPost_ret (v := .tuple #[.agg #[v0, v1, v2], err]) (by simp [results, hr, hp, he, go_sem, d0, d1, d2]) hd (hQ W3 h3 g3)
abbrev aggV (v : V3) : Value := .agg #[.int .u8 v.1, .int .i64 v.2.1, .string v.2.2]

/-- An expression stands at an address, in memory below B that bears no marks. -/
inductive At9 (B : Nat) (w : World) : Addr → X → Prop
  | mk (t : X) (sb o : Nat) (ao : Option Addr) (c kb ko : Nat) (hb : sb < B) (hg : ∃ cs ty, w.heap[sb]? = some (.cells cs ty (0, 0)))
      (c0 : w.cell? ⟨sb, o, none⟩ = some (.int .u8 t.kind)) (c1 : w.cell? ⟨sb, o + 1, none⟩ = some (.int .u8 t.vk)) (c2 : w.cell? ⟨sb, o + 2, none⟩ = some (.int .i64 t.vn)) (c3 : w.cell? ⟨sb, o + 3, none⟩ = some (.string t.vs)) (c4 : w.cell? ⟨sb, o + 4, none⟩ = some (.int .i64 t.var)) (c5 : w.cell? ⟨sb, o + 5, none⟩ = some (.int .u8 t.op)) (c6 : w.cell? ⟨sb, o + 6, none⟩ = some (.slice ao t.kids.length c))
      (hl : t.kids.length ≤ c) (hm : c ≤ maxLen) (ha : 0 < t.kids.length → ao = some ⟨kb, ko, none⟩) (hk : ∀ i, (hi : i < t.kids.length) → At9 B w ⟨kb, ko + i * 7, none⟩ t.kids[i]) : At9 B w ⟨sb, o, none⟩ t
theorem At9.up {B B' : Nat} {w w' : World} {a : Addr} {t : X} (h : At9 B w a t) (b : Below B w w') (hB : B ≤ B') : At9 B' w' a t := by
  induction h with
  | mk t sb o ao c kb ko hb hg c0 c1 c2 c3 c4 c5 c6 hl hm ha _ ih =>
    obtain ⟨cs, ty, hg⟩ := hg
    have k := fun (j : Nat) (v : Value) (h : w.cell? ⟨sb, j, none⟩ = some v) => (b.cell (p := ⟨sb, j, none⟩) hb).trans h
    exact .mk t sb o ao c kb ko (Nat.lt_of_lt_of_le hb hB) ⟨cs, ty, (b.block sb hb).trans hg⟩ (k _ _ c0) (k _ _ c1) (k _ _ c2) (k _ _ c3) (k _ _ c4) (k _ _ c5) (k _ _ c6) hl hm ha ih
/-- One place, one expression. -/
theorem At9.one {B : Nat} {w : World} {a : Addr} {t u : X} (h : At9 B w a t) (h' : At9 B w a u) : t = u := by
  induction h generalizing u with
  | mk t sb o ao c kb ko hb hg c0 c1 c2 c3 c4 c5 c6 hl hm ha hk ih =>
    cases h' with
    | mk _ _ _ ao' c' kb' ko' _ _ d0 d1 d2 d3 d4 d5 d6 _ _ ha' hk' =>
      rw [c0] at d0; rw [c1] at d1; rw [c2] at d2; rw [c3] at d3; rw [c4] at d4; rw [c5] at d5; rw [c6] at d6
      simp only [Option.some.injEq, Value.int.injEq, Value.string.injEq, Value.slice.injEq, true_and] at d0 d1 d2 d3 d4 d5 d6
      obtain ⟨rfl, hlen, rfl⟩ := d6
      have hkids : t.kids = u.kids := List.ext_getElem hlen fun i hi hi' => by
        have e1 := ha (by omega)
        have e2 := ha' (by omega)
        rw [e1] at e2
        simp only [Option.some.injEq, Addr.mk.injEq, and_true] at e2
        obtain ⟨rfl, rfl⟩ := e2
        exact ih i hi (hk' i hi')
      rw [← X.eta t, ← X.eta u, d0, d1, d2, d3, d4, d5, hkids]
theorem At9.good {B : Nat} {w : World} {a : Addr} {t : X} (h : At9 B w a t) : Good True w (some a) := by
  cases h with
  | mk _ sb o ao c kb ko hb hg _ _ _ _ _ _ _ _ _ _ _ =>
    obtain ⟨cs, ty, hg⟩ := hg
    intro ad e
    obtain rfl := Option.some.inj e
    exact ⟨Lib.frozen_of_heap hg _, cs, ty, (0, 0), hg, fun _ => rfl⟩
theorem At9.lt {B : Nat} {w : World} {a : Addr} {t : X} (h : At9 B w a t) : a.block < B ∧ ∃ sb o, a = ⟨sb, o, none⟩ := by
  cases h with
  | mk _ sb o => exact ⟨by assumption, sb, o, rfl⟩
/-- The cells of an expression that stands somewhere. -/
theorem At9.cells {B : Nat} {w : World} {a : Addr} {t : X} (h : At9 B w a t) : ∃ sb o ao c kb ko, a = ⟨sb, o, none⟩ ∧ sb < B ∧ w.cell? ⟨sb, o, none⟩ = some (.int .u8 t.kind) ∧ w.cell? ⟨sb, o + 1, none⟩ = some (.int .u8 t.vk) ∧ w.cell? ⟨sb, o + 2, none⟩ = some (.int .i64 t.vn) ∧ w.cell? ⟨sb, o + 3, none⟩ = some (.string t.vs) ∧ w.cell? ⟨sb, o + 4, none⟩ = some (.int .i64 t.var) ∧ w.cell? ⟨sb, o + 5, none⟩ = some (.int .u8 t.op) ∧ w.cell? ⟨sb, o + 6, none⟩ = some (.slice ao t.kids.length c) ∧ t.kids.length ≤ c ∧ c ≤ maxLen ∧ (0 < t.kids.length → ao = some ⟨kb, ko, none⟩) ∧ ∀ i, (hi : i < t.kids.length) → At9 B w ⟨kb, ko + i * 7, none⟩ t.kids[i] := by
  cases h with
  | mk _ sb o ao c kb ko hb hg c0 c1 c2 c3 c4 c5 c6 hl hm ha hk => exact ⟨sb, o, ao, c, kb, ko, rfl, hb, c0, c1, c2, c3, c4, c5, c6, hl, hm, ha, hk⟩

theorem sameBits_ptr (n : Nat) (x : Option Addr) : Instr.sameBits (n + 1) (.pointer x) (.pointer x) = true := by simp [Instr.sameBits]
theorem checkKey_ptr {P : Program} {pt et : TypeId} (hp : P.underlying pt = some (.pointer et)) (e : Bool) (n : Nat) (x : Option Addr) (w : World) : (Instr.checkKey e (n + 1) pt (.pointer x)).run P w = .ok () w := by simp [Instr.checkKey, run_underlying hp]
theorem keyPtr {P : Program} (s : Prop) {pt et : TypeId} {j : TypeInfo} (hp : P.underlying pt = some (.pointer et)) (he : P.info? et = some j) (hj : j.size ≠ 0) : KeyOf P s pt Addr (fun a => .pointer (some a)) (fun w a => Good s w (some a)) where
  eq w x y hx hy := by
    obtain ⟨r, k, h1, h2, h3⟩ := run_equalPtr w 9999 (some x) (some y) hp he hj hx hy
    exact ⟨r, k, by simpa [Op.equal, Op.maxDepth] using h1, fun e => h2 (by rw [e]), fun hs => (ordEq _ _ (h3 hs)).trans ⟨fun e => Option.some.inj e, fun e => by rw [e]⟩⟩
  drew w x k h := h.drewN k
  check w x e := checkKey_ptr hp e 9999 (some x) w
  now := ⟨_, hp, fun _ _ => rfl⟩
  bits x := sameBits_ptr 9999 (some x)
theorem kPtr : KeyOf Try.prog True 62 Addr (fun a => .pointer (some a)) (fun w a => Good True w (some a)) := by
  obtain ⟨i0, hi, hz0, hz1, hz2⟩ := info_parts infoE
  exact keyPtr True Try.underlying62 hi (by rw [hz1]; decide)
theorem zeroV (w : World) : (zeroValue 25).run Try.prog w = .ok (aggV zeroT) w := by
  obtain ⟨i0, hi, hz0, hz1, hz2⟩ := info_parts infoV
  simp [zeroValue, typeInfo, hi, hz0, zeroT]

/-- The steps on the way, as they lie: the last one behind all others. -/
def cellsF : List Frm → List Value
  | [] => []
  | f :: l => cellsF l ++ [.pointer (some f.a), .int .i64 f.n]
theorem cellsF_length (l : List Frm) : (cellsF l).length = l.length * 2 := by
  induction l with
  | nil => rfl
  | cons x l ih => rw [cellsF, List.length_append, ih]; simp; omega
/-- What each kind says: three closures, in a map. -/
abbrev saysE (vb : Nat) : Array MapEntry := #[⟨.int .u8 1, .func (.func 40) #[] #[], 0⟩, ⟨.int .u8 2, .func (.func 42) #[] #[.pointer (some ⟨vb, 0, none⟩)], 1⟩, ⟨.int .u8 3, .func (.func 43) #[] #[], 2⟩]

/-- The variables' values, as they were handed in. -/
structure Vars (B : Nat) (w : World) (vo : Option Addr) (c : Nat) (vs : List V3) : Prop where
  row : 0 < vs.length → ∃ b off, vo = some ⟨b, off, none⟩ ∧ b < B ∧ RowAt w b off vs
  few : vs.length ≤ 1000000
  fine : ∀ x, x ∈ vs → Fine1 x
theorem Vars.up {B B' : Nat} {w w' : World} {vo : Option Addr} {c : Nat} {vs : List V3} (h : Vars B w vo c vs) (b : Below B w w') (hB : B ≤ B') : Vars B' w' vo c vs :=
  ⟨fun hl => by
    obtain ⟨sb, off, e, lt, hr⟩ := h.row hl
    refine ⟨sb, off, e, Nat.lt_of_lt_of_le lt hB, fun j hj => ?_⟩
    obtain ⟨h1, h2, h3⟩ := hr j hj
    exact ⟨(b.cell (p := ⟨sb, _, none⟩) lt).trans h1, (b.cell (p := ⟨sb, _, none⟩) lt).trans h2, (b.cell (p := ⟨sb, _, none⟩) lt).trans h3⟩, h.few, h.fine⟩

/-- The walk lies at block R, its parts in memory from B on; below B the world is as it was in w0. -/
structure WS (B : Nat) (w0 w : World) (R mb vb kb : Nat) (vo : Option Addr) (vc : Nat) (vs : List V3) (wv sv : Value) (ws : List Frm) (sd : List V3) (kn : List (Addr × V3)) : Prop where
  base : Below B w0 w
  bw : B ≤ w0.heap.size
  hR : B ≤ R
  hm : B ≤ mb
  hv : B ≤ vb
  hk : B ≤ kb
  box : w.heap[R]? = some (.cells #[.map (some mb), wv, sv, .map (some kb)] 60 (0, 0))
  says : w.heap[mb]? = some (.map (saysE vb) 3)
  vars : w.heap[vb]? = some (.cells #[.slice vo vs.length vc] 30 (0, 0))
  vrow : Vars B w0 vo vc vs
  way : w.ownsRow B 86 2 wv ws.length (cellsF ws)
  said : w.ownsRow B 25 3 sv sd.length (cellsV sd)
  known : MapIs (fun a => .pointer (some a)) w kb (kn.map fun p => (p.1, aggV p.2))
  ne : kb ≠ mb
end Go.Proofs.Ytkbkkhfmejpbeaa
