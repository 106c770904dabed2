/- What all walks of this folder lean on: worlds that only grow; rows of ints in memory. -/
import Derived.Test.YtlkmabnjmklkpaaDoorChecked
import Derived.WalkKit
import Derived.WalkLawsBesides
import Derived.WalkSpells
import Derived.Below
import Derived.BigQuiet
import Derived.Deep.QuietTactic
import Derived.LoopTactic
import Derived.Lib.Hide
import Derived.Lib.ByteType
import Derived.Lib.BufferWrite
import Derived.Lib.BufferOwn
import Derived.IntWalk
import Derived.Outline
import Derived.OwnWalk
import Derived.Laws.OwnMore
import Derived.Laws.StructEq
import Derived.Deep.LoopGhost
import Derived.Deep.RegionHeld3
import Derived.Deep.RegionWith
import Derived.Sort.Grow
import Derived.Lib.SliceRun
import Derived.Lib.SmallJoins
import Derived.Shelf.SlSortCmp.QuietGrown
import Derived.BigCall
import Derived.Lib.AppendIntMem
import Derived.Deep.RegionLaw
import Derived.Laws.AppendOwnNone
import Derived.ArgAppend
import Derived.Deep.MidRow
import Derived.DeepKeys
import Derived.Deep.DeepCutAuto
import Derived.StillTailTactics
namespace Go.Proofs.YtlkmabnjmklkpaaDoor
open Go.RowKit

theorem bcell {W w1 : World} (hb : Below W.heap.size W w1) : (∀ b o, b < W.heap.size → w1.cell? ⟨b, o, none⟩ = W.cell? ⟨b, o, none⟩) ∧ (∀ b o, b < W.heap.size → w1.frozen? ⟨b, o, none⟩ = W.frozen? ⟨b, o, none⟩) :=
  ⟨fun b o h => hb.cell (p := ⟨b, o, none⟩) h, fun b o h => hb.frozen (p := ⟨b, o, none⟩) h⟩
theorem below_own {w : World} (o : Obj) : Below w.heap.size w (w.alloc o) := (Below.refl _ w).alloc (Nat.le_refl _) o
theorem below_step {w W w1 : World} (h : Below w.heap.size w W) (h1 : Below W.heap.size W w1) : Below w.heap.size w w1 := h.trans (h1.mono h.size)
theorem below_new {w W : World} (h : Below w.heap.size w W) (o : Obj) : Below w.heap.size w (W.alloc o) := h.alloc h.size o
theorem bret {W w1 : World} {o : Obj} (hb : Below (W.alloc o).heap.size (W.alloc o) w1) : (∀ j, w1.cell? ⟨W.heap.size, j, none⟩ = (W.alloc o).cell? ⟨W.heap.size, j, none⟩) ∧ (∀ j, w1.frozen? ⟨W.heap.size, j, none⟩ = (W.alloc o).frozen? ⟨W.heap.size, j, none⟩) :=
  ⟨fun j => hb.cell (p := ⟨W.heap.size, j, none⟩) (by simp), fun j => hb.frozen (p := ⟨W.heap.size, j, none⟩) (by simp)⟩
theorem bone {W w1 : World} {g : Nat} (hb : Below W.heap.size W w1) (h : g < W.heap.size) : (∀ j, w1.cell? ⟨g, j, none⟩ = W.cell? ⟨g, j, none⟩) ∧ (∀ j, w1.frozen? ⟨g, j, none⟩ = W.frozen? ⟨g, j, none⟩) :=
  ⟨fun j => hb.cell (p := ⟨g, j, none⟩) h, fun j => hb.frozen (p := ⟨g, j, none⟩) h⟩

/-- Nothing but one block, and new ones. -/
abbrev Fr (pb : Nat) (w w' : World) : Prop := w.grownBy w' (some pb)
theorem Fr.refl (pb : Nat) (w : World) : Fr pb w w := World.grownBy.refl w _
theorem Fr.trans {pb : Nat} {a b c : World} (h : Fr pb a b) (k : Fr pb b c) : Fr pb a c := Lib.grownBy_trans h k
theorem Fr.alloc {pb : Nat} {a w : World} (h : Fr pb a w) (o : Obj) : Fr pb a (w.alloc o) := h.trans (World.grownBy_alloc w o _)
theorem Fr.set {pb : Nat} {a w : World} (h : Fr pb a w) (i : Nat) (v : Value) : Fr pb a (w.setCell ⟨pb, i, none⟩ v) := h.trans (Lib.grownBy_setCell w pb i v)
theorem Fr.of_below {pb : Nat} {w w' : World} (h : Below w.heap.size w w') : Fr pb w w' := ⟨h.os, h.tape, h.output, h.size, fun k hk _ => h.block k hk⟩
theorem Fr.below {pb B : Nat} {w w' : World} (h : Fr pb w w') (hB : B ≤ w.heap.size) (hp : B ≤ pb) : Below B w w' := ⟨h.os, h.tape, h.output, h.size, fun k hk => h.block k (by omega) (fun e => by cases e; omega)⟩
theorem Fr.keep {pb : Nat} {w w' : World} (h : Fr pb w w') {k : Nat} {o : Obj} (hk : w.heap[k]? = some o) (hne : k ≠ pb) : w'.heap[k]? = some o :=
  (h.block k (Array.getElem?_eq_some_iff.1 hk).1 (fun e => hne (Option.some.inj e))).trans hk
theorem Fr.cell {pb : Nat} {w w' : World} (h : Fr pb w w') {b o : Nat} {v : Value} (hc : w.cell? ⟨b, o, none⟩ = some v) (hne : b ≠ pb) : w'.cell? ⟨b, o, none⟩ = some v :=
  World.grownBy.cell h hc (fun e => hne (Option.some.inj e))
theorem Fr.drew {pb : Nat} {a w : World} (h : Fr pb a w) : Fr pb a w.drew := h.trans ⟨rfl, rfl, rfl, Nat.le_refl _, fun _ _ _ => rfl⟩
theorem Fr.drewN {pb : Nat} {a w : World} (h : Fr pb a w) (n : Nat) : Fr pb a (w.drewN n) := h.trans ⟨rfl, rfl, rfl, Nat.le_refl _, fun _ _ _ => rfl⟩

/-- Only draws and new blocks. -/
def Gr (w W : World) : Prop := ∃ n os, W = Sort.grow (w.drewN n) os
theorem Gr.refl (w : World) : Gr w w := ⟨0, #[], by rw [Sort.grow_empty]; rfl⟩
theorem Gr.trans {a b c : World} (h : Gr a b) (k : Gr b c) : Gr a c := by
  obtain ⟨n, os, rfl⟩ := h
  obtain ⟨m, os', rfl⟩ := k
  refine ⟨n + m, os ++ os', ?_⟩
  show Sort.grow (Sort.grow ((a.drewN n).drewN m) os) os' = _
  rw [Sort.grow_grow, World.drewN_drewN]
theorem Gr.alloc {a b : World} (h : Gr a b) (x : Obj) : Gr a (b.alloc x) := h.trans ⟨0, #[x], by rw [Sort.alloc_eq_grow]; rfl⟩
theorem Gr.drew {a b : World} (h : Gr a b) : Gr a b.drew := h.trans ⟨1, #[], by rw [Sort.grow_empty]; rfl⟩
theorem Gr.drewN {a b : World} (h : Gr a b) (n : Nat) : Gr a (b.drewN n) := h.trans ⟨n, #[], by rw [Sort.grow_empty]⟩
theorem Gr.below {a b : World} (h : Gr a b) : Below a.heap.size a b := by
  obtain ⟨n, os, rfl⟩ := h
  exact Lib.below_grow _ _ (Nat.le_refl _) _ _
theorem Gr.out {a b : World} (h : Gr a b) : ∃ n os, b = Sort.grow (a.drewN n) os := h

theorem cells_made (w : World) (cs : Array Value) (t : TypeId) (j : Nat) (u : Value) (h : cs[j]? = some u) : (w.alloc (.cells cs t)).cell? ⟨w.heap.size, j, none⟩ = some u := by
  show (match (w.heap.push (Obj.cells cs t))[w.heap.size]? with | some (.cells c _ _) => if (none : Option _).isSome then none else c[j]? | _ => none) = _
  rw [Array.getElem?_push_size]
  exact h

theorem lt_of_heap {w : World} {b : Nat} {o : Obj} (h : w.heap[b]? = some o) : b < w.heap.size := (Array.getElem?_eq_some_iff.1 h).1

theorem RowKit_drewN {B : Nat} {a w : World} (h : Below B a w) (n : Nat) : Below B a (w.drewN n) := h.trans ⟨rfl, rfl, rfl, Nat.le_refl _, fun _ _ => rfl⟩

theorem owns_mono {base base' : Nat} {w : World} {e size n : Nat} {v : Value} {xs : List Value} (h : w.ownsRow base e size v n xs) (hb : base' ≤ base) : w.ownsRow base' e size v n xs := by
  obtain ⟨h1, h2⟩ := h
  refine ⟨h1, ?_⟩
  rcases h2 with h2 | ⟨g, cap, cur, hv, hg, r⟩
  · exact Or.inl h2
  · exact Or.inr ⟨g, cap, cur, hv, Nat.le_trans hb hg, r⟩

/-- What is owned is there as long as its block is. -/
theorem owns_below {base : Nat} {w w' : World} {e size n : Nat} {v : Value} {xs : List Value} (h : w.ownsRow base e size v n xs) (b : Below w.heap.size w w') : w'.ownsRow base e size v n xs := by
  obtain ⟨h1, h2⟩ := h
  refine ⟨h1, ?_⟩
  rcases h2 with h2 | ⟨g, cap, cur, hv, hg, hh, r⟩
  · exact Or.inl h2
  · exact Or.inr ⟨g, cap, cur, hv, hg, (b.block g (lt_of_heap hh)).trans hh, r⟩

theorem owns_slice {base : Nat} {w : World} {e size n : Nat} {v : Value} {xs : List Value} (h : w.ownsRow base e size v n xs) : ∃ ao c, v = .slice ao n c := by
  rcases h.2 with ⟨rfl, rfl⟩ | ⟨g, cap, cur, rfl, _⟩
  · exact ⟨none, 0, rfl⟩
  · exact ⟨_, cap, rfl⟩

theorem owns_tag {base : Nat} {w : World} {e size n : Nat} {v : Value} {xs : List Value} (h : w.ownsRow base e size v n xs) : ∀ k, v.ownBlock = some k → ∃ cs fz, w.heap[k]? = some (.cells cs e fz) := by
  intro k hk
  rcases h.2 with ⟨rfl, _⟩ | ⟨g, cap, cur, rfl, _, hg, _⟩
  · simp [Value.ownBlock] at hk
  · simp [Value.ownBlock] at hk
    subst hk
    exact ⟨cur, _, hg⟩
theorem owns_far {base e' : Nat} {w w' : World} {e size n : Nat} {v : Value} {xs : List Value} {row : Option Nat} (h : w.ownsRow base e size v n xs) (he : e ≠ e') (g : w.grownBy w' row) (hr : ∀ k, row = some k → ∃ cs fz, w.heap[k]? = some (.cells cs e' fz)) : w'.ownsRow base e size v n xs := by
  refine h.kept g ?_
  cases hv : v.ownBlock with
  | none => exact Or.inl rfl
  | some k =>
    refine Or.inr fun hk => ?_
    obtain ⟨cs, fz, h1⟩ := hr k hk.symm
    obtain ⟨cs', fz', h2⟩ := owns_tag h k hv
    rw [h1] at h2
    injection h2 with h2
    injection h2 with _ h3 _
    exact he h3.symm
theorem owns_apart {w w' : World} {base b e size n : Nat} {v : Value} {xs : List Value} (h : w.ownsRow base e size v n xs) (g : w.grownBy w' (some b)) (hne : v.ownBlock ≠ some b) : w'.ownsRow base e size v n xs := h.kept g (Or.inr hne)

/-- append to a row of one's own, wherever the source lies: the row's block stays, or is new. -/
theorem wpList_append_apart {P : Program} (w : World) {ops : Array Oper} {rest : List Oper} {o : Oper} {a : Act} {Q : Exit → Act → World → Prop}
    (hg : o.guard = none) (s x : Operand) (t : TypeId) (hop : o.op = Op.call { callee := Callee.builtin Builtin.append, args := #[s, x], argTypes := #[t, t] })
    (base : Nat) (e : TypeId) (i : TypeInfo) (z : Value) (size bytes : Nat) (ht : P.underlying t = some (.slice e)) (hi : P.info? e = some i) (hz : i.zero = some z) (hsize : i.size = size) (hby : i.bytes = bytes) (hzs : z.cells.size = size) (hsz : 0 < size)
    (v : Value) (n : Nat) (xs : List Value) (hs : a.eval s = v) (hown : w.ownsRow base e size v n xs) (ao : Option Addr) (m c : Nat) (news : List Value) (hx : a.eval x = .slice ao m c) (hl : news.length = m * size)
    (hnone : ao = none → m = 0 ∧ c = 0) (hnews : ∀ ad, ao = some ad → ∀ j u, news[j]? = some u → w.cell? (ad.add j) = some u) (h1 : ∀ u ∈ news, u.oneCell' = true)
    (h63 : n + m ≤ maxLen) (hbytes : (n + m) * bytes ≤ 140737488355328) (hbase : base ≤ w.heap.size)
    (hK : ∀ v' w', w'.ownsRow base e size v' (n + m) (xs ++ news) → w.grownBy w' v.ownBlock → (v'.ownBlock = v.ownBlock ∨ ∀ k, v'.ownBlock = some k → w.heap.size ≤ k) → wpList P ops Q rest (a.put o.dst v') w') :
    wpList P ops Q (o :: rest) a w := by
  cases ao with
  | none =>
    obtain ⟨rfl, rfl⟩ := hnone rfl
    have hn : news = [] := List.eq_nil_of_length_eq_zero (by simpa using hl)
    subst hn
    exact wpList_append_own_none hg s x t hop base e i size ht hi v n xs hs hown hx (hK v w (by simpa using hown) (World.grownBy.refl _ _) (Or.inl rfl))
  | some ad =>
    have hown' := hown
    rcases hown.2 with ⟨rfl, rfl⟩ | ⟨g, cap, cur, rfl, hb, hh, hnc, hm, hcs, htk⟩
    · by_cases hm0 : m = 0
      · refine wpList_append_own w hg s x t hop base e i z size bytes ht hi hz hsize hby hzs hsz (.slice none 0 0) 0 xs hs hown' ad m c news hx hl (hnews ad rfl) h1 h63 hbytes hbase fun v' w' h2 h3 h4 => hK v' w' h2 h3 (Or.inl ?_)
        rw [h4.2 ⟨rfl, hm0⟩]
      · obtain rfl : xs = [] := List.eq_nil_of_length_eq_zero (by have := hown'.1; omega)
        refine wpList_append_grows w hg s x t hop e i z size bytes ht hi hz hsize hby hzs hsz none 0 0 [] hs (fun _ => ⟨rfl, rfl⟩) (by simp) (fun b hb => by cases hb) ad m c news hx hl (hnews ad rfl) h1 (by omega) h63 hbytes fun v' w' h2 h3 => hK v' w' (owns_mono h2 hbase) h3 (Or.inr fun k hk => (h2.lt k hk).1)
    · by_cases hfit : n + m ≤ cap
      · exact wpList_append_fits w hg s x t hop base e i size ht hi hsize g n cap xs hs hown' ad m c news hx hl (hnews ad rfl) h1 hfit fun w' h2 h3 => hK _ w' h2 h3 (Or.inl rfl)
      · refine wpList_append_grows w hg s x t hop e i z size bytes ht hi hz hsize hby hzs hsz (some ⟨g, 0, none⟩) n cap xs hs (fun h => by cases h) hown'.1 (fun b hb => by obtain rfl := Option.some.inj hb; exact hown'.cells (g := g) rfl) ad m c news hx hl (hnews ad rfl) h1 (by omega) h63 hbytes fun v' w' h2 h3 => hK v' w' (owns_mono h2 hbase) ⟨h3.os, h3.tape, h3.output, h3.size, fun k hk _ => h3.block k hk (by simp)⟩ (Or.inr fun k hk => (h2.lt k hk).1)

/-- append to a row of one's own, wherever the source lies, as a step of a drawn region. -/
theorem step_append_any {P : Program} {ops : Array Oper} {o : Oper} {a : Act} {w : World} {K : Act → World → Prop} {Q : Exit → Act → World → Prop} {E : Prop}
    (hg : o.guard = none) (s x : Operand) (t : TypeId) (hop : o.op = Op.call { callee := Callee.builtin Builtin.append, args := #[s, x], argTypes := #[t, t] })
    (base : Nat) (e : TypeId) (i : TypeInfo) (z : Value) (size bytes : Nat) (ht : P.underlying t = some (.slice e)) (hi : P.info? e = some i) (hz : i.zero = some z) (hsize : i.size = size) (hby : i.bytes = bytes) (hzs : z.cells.size = size) (hsz : 0 < size)
    (v : Value) (n : Nat) (xs : List Value) (hs : a.eval s = v) (hown : w.ownsRow base e size v n xs) (ao : Option Addr) (m c : Nat) (news : List Value) (hx : a.eval x = .slice ao m c) (hl : news.length = m * size)
    (hnone : ao = none → m = 0 ∧ c = 0) (hnews : ∀ ad, ao = some ad → ∀ j u, news[j]? = some u → w.cell? (ad.add j) = some u) (h1 : ∀ u ∈ news, u.oneCell' = true)
    (h63 : n + m ≤ maxLen) (hbytes : (n + m) * bytes ≤ 140737488355328) (hbase : base ≤ w.heap.size)
    (hK : ∀ v' w', w'.ownsRow base e size v' (n + m) (xs ++ news) → w.grownBy w' v.ownBlock → K (a.put o.dst v') w') :
    if Region.wanted o (yielded ops a.tmps) = true then Oper.wp P o a w K Q else E := by
  have hw : Region.wanted o (yielded ops a.tmps) = true := by simp [Region.wanted, hg]
  rw [if_pos hw]
  cases ao with
  | some ad => exact wp_append_own w s x t hop base e i z size bytes ht hi hz hsize hby hzs hsz v n xs hs hown ad m c news hx hl (hnews ad rfl) h1 h63 hbytes hbase fun v' w' h2 h3 _ => hK v' w' h2 h3
  | none =>
    obtain ⟨rfl, rfl⟩ := hnone rfl
    have hn : news = [] := List.eq_nil_of_length_eq_zero (by simpa using hl)
    subst hn
    have hrun := run_append_owned_none (P := P) (w := w) base t o.type e i size ht hi v n xs hown
    unfold Oper.wp
    simp [execOp, hop, resolve, invoke, builtin, hs, hx, hrun, Result.andThen]
    exact hK v w (by simpa using hown) (World.grownBy.refl _ _)

/-- The call said yes, and turned nothing. -/
def YesP (w : World) (e : Ending) (w' : World) : Prop := e = .returned (.bool true) ∧ Below w.heap.size w w'
/-- The call answered this, and turned nothing old. -/
def SaysP (b : Bool) (w : World) (e : Ending) (w' : World) : Prop := e = .returned (.bool b) ∧ Below w.heap.size w w'

def SlG (B : Nat) (w : World) (ao : Option Addr) (cs : List Value) : Prop := cs ≠ [] → ∃ sb off, ao = some ⟨sb, off, none⟩ ∧ sb < B ∧ ∀ (j : Nat) (u : Value), cs[j]? = some u → w.cell? ⟨sb, off + j, none⟩ = some u
theorem SlG.below {B : Nat} {w w' : World} {ao : Option Addr} {cs : List Value} (h : SlG B w ao cs) (b : Below B w w') : SlG B w' ao cs := fun hn => by
  obtain ⟨sb, off, e, lt, hc⟩ := h hn
  exact ⟨sb, off, e, lt, fun j u hu => (b.cell (p := ⟨sb, off + j, none⟩) lt).trans (hc j u hu)⟩
theorem SlG.up {B B' : Nat} {w w' : World} {ao : Option Addr} {cs : List Value} (h : SlG B w ao cs) (b : Below B w w') (hB : B ≤ B') : SlG B' w' ao cs := fun hn => by
  obtain ⟨sb, off, e, lt, hc⟩ := (h.below b) hn
  exact ⟨sb, off, e, Nat.lt_of_lt_of_le lt hB, hc⟩

/-- The cells of a row of ints. -/
def icells (l : List Int) : List Value := l.map (Value.int .i64)
theorem icells_append (l m : List Int) : icells (l ++ m) = icells l ++ icells m := List.map_append
theorem icells_length (l : List Int) : (icells l).length = l.length := List.length_map ..
theorem icells_one (l : List Int) : ∀ u ∈ icells l, u.oneCell' = true := by
  intro u hu
  obtain ⟨x, _, rfl⟩ := List.mem_map.1 hu
  rfl

/-- A slice of ints, wherever it lies. -/
structure SlI (w : World) (ao : Option Addr) (l : List Int) (c : Nat) : Prop where
  nil : ao = none → l = [] ∧ c = 0
  row : 0 < l.length → ∃ sb off, ao = some ⟨sb, off, none⟩ ∧ sb < w.heap.size ∧ ∀ j, (h : j < l.length) → w.cell? ⟨sb, off + j, none⟩ = some (.int .i64 l[j])
theorem SlI.below {w w' : World} {ao : Option Addr} {l : List Int} {c : Nat} (h : SlI w ao l c) (b : Below w.heap.size w w') : SlI w' ao l c :=
  ⟨h.nil, fun hl => by
    obtain ⟨sb, off, e, lt, hc⟩ := h.row hl
    exact ⟨sb, off, e, Nat.lt_of_lt_of_le lt b.size, fun j hj => (b.cell (p := ⟨sb, off + j, none⟩) lt).trans (hc j hj)⟩⟩
theorem SlI.cells {w : World} {ao : Option Addr} {l : List Int} {c : Nat} (h : SlI w ao l c) : ∀ ad, ao = some ad → ∀ j u, (icells l)[j]? = some u → w.cell? (ad.add j) = some u := by
  intro ad had j u hu
  have hj : j < l.length := by
    have := (List.getElem?_eq_some_iff.1 hu).1
    simpa [icells] using this
  obtain ⟨sb, off, e, lt, hc⟩ := h.row (by omega)
  rw [had] at e
  obtain rfl := Option.some.inj e
  rw [Addr.add_lit, hc j hj, ← hu]
  simp [icells, hj]

theorem owns_slI {w : World} {base : Nat} {ao : Option Addr} {c : Nat} {l : List Int} (h : w.ownsRow base 3 1 (.slice ao l.length c) l.length (icells l)) : SlG w.heap.size w ao (icells l) := fun hne => by
  rcases h.2 with ⟨h1, h2⟩ | ⟨g, cap, cur, h1, _, hg, _⟩
  · have := List.eq_nil_of_length_eq_zero h2
    subst this
    exact absurd rfl hne
  · simp only [Value.slice.injEq] at h1
    obtain ⟨rfl, _, rfl⟩ := h1
    refine ⟨g, 0, rfl, lt_of_heap hg, fun j u hu => ?_⟩
    rw [Nat.zero_add]
    have := h.cells (g := g) rfl j u hu
    rwa [Addr.add_lit, Nat.zero_add] at this

theorem SlG.cellI {B : Nat} {w : World} {ao : Option Addr} {l : List Int} (h : SlG B w ao (icells l)) (hl : 0 < l.length) : ∃ sb off, ao = some ⟨sb, off, none⟩ ∧ sb < B ∧ ∀ j, (hj : j < l.length) → w.cell? ⟨sb, off + j, none⟩ = some (.int .i64 l[j]) := by
  obtain ⟨sb, off, e, lt, hc⟩ := h (by cases l with
    | nil => simp at hl
    | cons x l => simp [icells])
  exact ⟨sb, off, e, lt, fun j hj => hc j _ (by simp [icells, hj])⟩

theorem slI_made (w : World) (cs : Array Value) (l : List Int) (h : cs = (icells l).toArray) : SlI (w.alloc (.cells cs 3)) (some ⟨w.heap.size, 0, none⟩) l l.length := by
  subst h
  refine ⟨(fun h => by cases h), fun _ => ⟨_, 0, rfl, by simp, fun j hj => ?_⟩⟩
  rw [Nat.zero_add]
  exact cells_made _ _ _ _ _ (by simp [icells, hj])
theorem slG_made (w : World) (cs : Array Value) (l : List Int) (h : cs = (icells l).toArray) : SlG (w.alloc (.cells cs 3)).heap.size (w.alloc (.cells cs 3)) (some ⟨w.heap.size, 0, none⟩) (icells l) := by
  subst h
  refine fun _ => ⟨_, 0, rfl, by simp, fun j u hj => ?_⟩
  rw [Nat.zero_add]
  exact cells_made _ _ _ _ _ (by simpa using hj)
theorem SlG.slI {w : World} {ao : Option Addr} {l : List Int} {c : Nat} (h : SlG w.heap.size w ao (icells l)) (hn : ao = none → c = 0) : SlI w ao l c := by
  refine ⟨fun e => ⟨?_, hn e⟩, fun hl => h.cellI hl⟩
  cases l with
  | nil => rfl
  | cons x l =>
    obtain ⟨sb, off, e', _⟩ := h.cellI (by simp)
    rw [e] at e'
    cases e'
theorem owns_none {w : World} {base : Nat} {ao : Option Addr} {c n : Nat} {xs : List Value} (h : w.ownsRow base 3 1 (.slice ao n c) n xs) : ao = none → c = 0 := by
  rintro rfl
  rcases h.2 with ⟨h1, _⟩ | ⟨g, cap, cur, h1, _⟩
  · simp only [Value.slice.injEq] at h1
    exact h1.2.2
  · simp at h1

theorem infoI : (Tryd.prog.info? 3).map (fun i => (i.zero, i.size, i.bytes)) = some (some (.int .i64 0), 1, 8) := by kernel_rfl
/-- A slice of these cells, below B: n elements. -/
structure Sl10 (B : Nat) (w : World) (n : Nat) (ao : Option Addr) (c : Nat) (cs : List Value) : Prop where
  row : SlG B w ao cs
  nil : ao = none → n = 0 ∧ c = 0
  cap : n ≤ c
  top : c ≤ maxLen
theorem Sl10.up {B B' : Nat} {w w' : World} {n : Nat} {ao : Option Addr} {c : Nat} {cs : List Value} (h : Sl10 B w n ao c cs) (b : Below B w w') (hB : B ≤ B') : Sl10 B' w' n ao c cs := ⟨h.row.up b hB, h.nil, h.cap, h.top⟩
theorem Sl10.cells {w : World} {n c : Nat} {ao : Option Addr} {cs : List Value} (h : Sl10 w.heap.size w n ao c cs) : ∀ W, Below w.heap.size w W → ∀ ad, ao = some ad → ∀ j u, cs[j]? = some u → W.cell? (ad.add j) = some u := by
  intro W hW ad e j u hu
  obtain ⟨sb, off, e', lt, hc⟩ := (h.row.below hW) (fun hn => by rw [hn] at hu; cases hu)
  rw [e] at e'
  obtain rfl := Option.some.inj e'
  rw [Addr.add_lit]
  exact hc j u hu
theorem ne_block {w : World} {b1 b2 : Nat} {c1 c2 : Array Value} {t1 t2 : TypeId} {f1 f2 : Nat × Nat} (h1 : w.heap[b1]? = some (.cells c1 t1 f1)) (h2 : w.heap[b2]? = some (.cells c2 t2 f2)) (h : t1 ≠ t2) : b1 ≠ b2 := by
  rintro rfl
  rw [h1] at h2
  injection h2 with h2
  injection h2 with _ h3 _
  exact h h3
/-- A slice's three parts, and where it lies. -/
theorem owns_at {base : Nat} {w : World} {e size n : Nat} {v : Value} {xs : List Value} (h : w.ownsRow base e size v n xs) (hn : 0 < n) : ∃ g cap cur, v = .slice (some ⟨g, 0, none⟩) n cap ∧ base ≤ g ∧ w.heap[g]? = some (.cells cur e (0, 0)) ∧ n ≤ cap ∧ cap ≤ maxLen ∧ (∀ j, j < n * size → w.cell? ⟨g, j, none⟩ = xs[j]?) := by
  rcases h.2 with ⟨rfl, rfl⟩ | ⟨g, cap, cur, rfl, hb, hg, hnc, hcm, hcs, htk⟩
  · omega
  · exact ⟨g, cap, cur, rfl, hb, hg, hnc, hcm, fun j hj => h.cellAt j hj⟩
theorem below_drew {B : Nat} {a w : World} (h : Below B a w) : Below B a w.drew := ⟨h.os, h.tape, h.output, h.size, h.block⟩
theorem heap_two {w : World} (o1 o2 : Obj) : ((w.alloc o1).alloc o2).heap[w.heap.size]? = some o1 ∧ ((w.alloc o1).alloc o2).heap[w.heap.size + 1]? = some o2 := by
  constructor
  · rw [Below.heap_alloc _ _ _ (by simp)]
    exact heap_alloc_new w _
  · have := heap_alloc_new (w.alloc o1) o2
    simpa using this
theorem alloc_at {w : World} {n : Nat} (h : n = w.heap.size) (o : Obj) : (w.alloc o).heap[n]? = some o := by
  subst h
  show (w.heap.push o)[w.heap.size]? = _
  exact Array.getElem?_push_size
theorem alloc_keep {w : World} {k : Nat} {x : Obj} (h : w.heap[k]? = some x) (o : Obj) : (w.alloc o).heap[k]? = some x := by
  have := (below_own (w := w) o).block k (lt_of_heap h)
  rw [this]
  exact h
theorem heap_three {w : World} (o1 o2 o3 : Obj) : (((w.alloc o1).alloc o2).alloc o3).heap[w.heap.size]? = some o1 ∧ (((w.alloc o1).alloc o2).alloc o3).heap[w.heap.size + 1]? = some o2 ∧ (((w.alloc o1).alloc o2).alloc o3).heap[w.heap.size + 2]? = some o3 := by
  obtain ⟨h1, h2⟩ := heap_two (w := w) o1 o2
  refine ⟨alloc_keep h1 _, alloc_keep h2 _, ?_⟩
  have := heap_alloc_new ((w.alloc o1).alloc o2) o3
  simpa using this
theorem grown_set2 {w w1 : World} {g i : Nat} {v : Value} (h : w.grownBy w1 (some g)) : w.grownBy (w1.setCell ⟨g, i, none⟩ v) (some g) := Lib.grownBy_trans h (Lib.grownBy_setCell w1 g i v)
theorem list_set_same {α : Type} (l : List α) (k : Nat) (u : α) (h : l[k]? = some u) : l.set k u = l := by
  obtain ⟨hk, e⟩ := List.getElem?_eq_some_iff.1 h
  subst e
  exact List.set_getElem_self hk
/-- Nothing but what is in S, and what is new, is touched. -/
structure Touch (S : Nat → Prop) (w w' : World) : Prop where
  os : w'.os = w.os
  tape : w'.tape = w.tape
  output : w'.output = w.output
  size : w.heap.size ≤ w'.heap.size
  block : ∀ j, j < w.heap.size → ¬ S j → w'.heap[j]? = w.heap[j]?
theorem Touch.refl (S : Nat → Prop) (w : World) : Touch S w w := ⟨rfl, rfl, rfl, Nat.le_refl _, fun _ _ _ => rfl⟩
theorem Touch.grown {S : Nat → Prop} {a b c : World} {row : Option Nat} (h : Touch S a b) (g : b.grownBy c row) (hr : ∀ q, row = some q → S q ∨ a.heap.size ≤ q) : Touch S a c :=
  ⟨g.os.trans h.os, g.tape.trans h.tape, g.output.trans h.output, Nat.le_trans h.size g.size, fun j hj hs => (g.block j (Nat.lt_of_lt_of_le hj h.size) (fun e => by
    rcases hr j e.symm with h1 | h1
    · exact hs h1
    · omega)).trans (h.block j hj hs)⟩
theorem Touch.step {S : Nat → Prop} {a b c : World} (h : Touch S a b) (g : Below b.heap.size b c) : Touch S a c :=
  ⟨g.os.trans h.os, g.tape.trans h.tape, g.output.trans h.output, Nat.le_trans h.size g.size, fun j hj hs => (g.block j (Nat.lt_of_lt_of_le hj h.size)).trans (h.block j hj hs)⟩
theorem Touch.below {S : Nat → Prop} {w w' : World} {B : Nat} (h : Touch S w w') (hB : B ≤ w.heap.size) (hS : ∀ j, S j → B ≤ j) : Below B w w' :=
  ⟨h.os, h.tape, h.output, h.size, fun j hj => h.block j (by omega) (fun e => by have := hS j e; omega)⟩
theorem owns_touch {S : Nat → Prop} {w w' : World} {base e size n : Nat} {v : Value} {xs : List Value} (o : w.ownsRow base e size v n xs) (t : Touch S w w') (hs : ∀ k, v.ownBlock = some k → ¬ S k) : w'.ownsRow base e size v n xs := by
  refine ⟨o.1, ?_⟩
  rcases o.2 with h | ⟨g, cap, cur, h1, hb, hg, r⟩
  · exact Or.inl h
  · refine Or.inr ⟨g, cap, cur, h1, hb, (t.block g (lt_of_heap hg) (hs g (by rw [h1]; rfl))).trans hg, r⟩
end Go.Proofs.YtlkmabnjmklkpaaDoor
