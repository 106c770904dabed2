/- Values as they lie; what all walks of this folder lean on: worlds that only grow; rows of bytes in memory. -/
import Derived.Test.YtnnhgbncghpecaaGreatChecked
import Derived.WalkKit
import Derived.WalkLawsBesides
import Derived.WalkSpells
import Derived.Below
import Derived.BigQuiet
import Derived.Deep.QuietTactic
import Derived.LoopTactic
import Derived.Lib.Hide
import Derived.Lib.ByteType
import Derived.Lib.BufferWrite
import Derived.Lib.BufferOwn
import Derived.IntWalk
import Derived.Outline
import Derived.OwnWalk
import Derived.Laws.OwnMore
import Derived.Laws.StructEq
import Derived.Deep.LoopGhost
import Derived.Deep.RegionHeld3
import Derived.Deep.RegionWith
import Derived.Sort.Grow
import Derived.Lib.SliceRun
import Derived.Lib.SmallJoins
import Derived.Shelf.SlSortCmp.QuietGrown
import Derived.BigCall
import Derived.Lib.AppendIntMem
import Derived.Deep.RegionLaw
import Derived.Laws.AppendOwnNone
import Derived.ArgAppend
namespace Go.Proofs.YtnnhgbncghpecaaGreat
open Go.RowKit


abbrev V3 := Int × Int × ByteArray
structure In64 (x : Int) : Prop where
  lo : -9223372036854775808 ≤ x
  hi : x ≤ 9223372036854775807
/-- The three cells of a value, at an offset of a block. -/
structure At (w : World) (b o : Nat) (x : Int × Int × ByteArray) : Prop where
  k : w.cell? ⟨b, o, none⟩ = some (.int .u8 x.1)
  n : w.cell? ⟨b, o + 1, none⟩ = some (.int .i64 x.2.1)
  s : w.cell? ⟨b, o + 2, none⟩ = some (.string x.2.2)

theorem At.later {w w' : World} {b o : Nat} {x : Int × Int × ByteArray} (h : At w b o x) (hb : Below w.heap.size w w') (hl : b < w.heap.size) : At w' b o x :=
  ⟨(hb.cell (p := ⟨b, o, none⟩) hl).trans h.k, (hb.cell (p := ⟨b, o + 1, none⟩) hl).trans h.n, (hb.cell (p := ⟨b, o + 2, none⟩) hl).trans h.s⟩

/-- A row of values from an offset on. -/
def RowAt (w : World) (b off : Nat) (zs : List (Int × Int × ByteArray)) : Prop := ∀ j, (h : j < zs.length) → At w b (off + j * 3) zs[j]

theorem any_hit {α : Type} (zs : List α) (p : α → Bool) (k : Nat) (hk : k < zs.length) (h : p zs[k] = true) : zs.any p = true := by
  rw [List.any_eq_true]
  exact ⟨zs[k], List.getElem_mem hk, h⟩

theorem any_miss {α : Type} (zs : List α) (p : α → Bool) (h : ∀ k, (hk : k < zs.length) → p zs[k] = false) : zs.any p = false := by
  rw [Bool.eq_false_iff]
  intro hall
  rw [List.any_eq_true] at hall
  obtain ⟨x, hx, hp⟩ := hall
  obtain ⟨k, hk, rfl⟩ := List.getElem_of_mem hx
  rw [h k hk] at hp
  cases hp
theorem bcell {W w1 : World} (hb : Below W.heap.size W w1) : (∀ b o, b < W.heap.size → w1.cell? ⟨b, o, none⟩ = W.cell? ⟨b, o, none⟩) ∧ (∀ b o, b < W.heap.size → w1.frozen? ⟨b, o, none⟩ = W.frozen? ⟨b, o, none⟩) :=
  ⟨fun b o h => hb.cell (p := ⟨b, o, none⟩) h, fun b o h => hb.frozen (p := ⟨b, o, none⟩) h⟩

def zeroT : Int × Int × ByteArray := (0, 0, ⟨#[]⟩)

def numT (n : Int) : Int × Int × ByteArray := (1, n, ⟨#[]⟩)

theorem RowAt.later {w w' : World} {b off : Nat} {zs : List (Int × Int × ByteArray)} (h : RowAt w b off zs) (hb : Below w.heap.size w w') (hl : b < w.heap.size) : RowAt w' b off zs :=
  fun j hj => (h j hj).later hb hl

theorem RowAt.two {w : World} {b off : Nat} {x y : Int × Int × ByteArray} (hx : At w b off x) (hy : At w b (off + 3) y) : RowAt w b off [x, y] := by
  intro j hj
  match j, hj with
  | 0, _ => simpa using hx
  | 1, _ => simpa using hy

theorem RowAt.one {w : World} {b off : Nat} {x : Int × Int × ByteArray} (hx : At w b off x) : RowAt w b off [x] := by
  intro j hj
  match j, hj with
  | 0, _ => simpa using hx

theorem below_own {w : World} (o : Obj) : Below w.heap.size w (w.alloc o) := (Below.refl _ w).alloc (Nat.le_refl _) o

theorem below_step {w W w1 : World} (h : Below w.heap.size w W) (h1 : Below W.heap.size W w1) : Below w.heap.size w w1 := h.trans (h1.mono h.size)

theorem below_new {w W : World} (h : Below w.heap.size w W) (o : Obj) : Below w.heap.size w (W.alloc o) := h.alloc h.size o
/-- What is asked of a row of values: numbers of 64 bits, texts that a machine can hold. -/
def Fine (l : List V3) : Prop := ∀ x, x ∈ l → In64 x.2.1 ∧ x.2.2.size ≤ maxLen
def eqvB (x y : Int × Int × ByteArray) : Bool := x.1 == y.1 && x.2.1 == y.2.1 && x.2.2.toList == y.2.2.toList

theorem eqGuardV : Tryz.prog.eqGuardType Tryz.prog.depth 27 = false := by kernel_rfl

theorem eqIn (x1 x2 y1 y2 : Int) (x3 y3 : ByteArray) (w : World) :
    (Op.equalIn 10000 27 (.agg #[.int .u8 x1, .int .i64 x2, .string x3]) (.agg #[.int .u8 y1, .int .i64 y2, .string y3])).run Tryz.prog w = .ok (eqvB (x1, x2, x3) (y1, y2, y3)) w := by
  have hS : Tryz.prog.underlying 27 = some (.struct (Tryz.prog.fieldsOf 27)) := by kernel_rfl
  have hp : Tryz.prog.stoodInHeld 27 = false := by kernel_rfl
  have u1 := Tryz.underlying25
  have u2 := Tryz.underlying2
  have u3 := Tryz.underlying9
  have a1 := Tryz.isAgg25
  have a2 := Tryz.isAgg2
  have a3 := Tryz.isAgg9
  have z1 := Tryz.sizeOf25
  have z2 := Tryz.sizeOf2
  have z3 := Tryz.sizeOf9
  rw [show (10000 : Nat) = 9999 + 1 from rfl, run_equalIn_agg w 9999 27 _ _ hS hp]
  simp only [Program.fieldsOf, Tryz.underlying27]
  go_simp
  unfold eqvB
  cases h1 : (x1 == y1) <;> cases h2 : (x2 == y2) <;> cases h3 : (x3.toList == y3.toList) <;> simp_all

theorem eqV (x1 x2 y1 y2 : Int) (x3 y3 : ByteArray) (w : World) :
    (binOp .eql 27 (.agg #[.int .u8 x1, .int .i64 x2, .string x3]) (.agg #[.int .u8 y1, .int .i64 y2, .string y3])).run Tryz.prog w = .ok (.bool (eqvB (x1, x2, x3) (y1, y2, y3))) w := by
  rw [run_eql_struct, eqIn]
  rfl

theorem neV (x1 x2 y1 y2 : Int) (x3 y3 : ByteArray) (w : World) :
    (binOp .neq 27 (.agg #[.int .u8 x1, .int .i64 x2, .string x3]) (.agg #[.int .u8 y1, .int .i64 y2, .string y3])).run Tryz.prog w = .ok (.bool (!eqvB (x1, x2, x3) (y1, y2, y3))) w := by
  rw [run_neq_struct, eqIn]
  rfl

theorem eqvB_iff (x y : Int × Int × ByteArray) : eqvB x y = true ↔ x = y := by
  obtain ⟨x1, x2, x3⟩ := x
  obtain ⟨y1, y2, y3⟩ := y
  simp only [eqvB, Bool.and_eq_true, beq_iff_eq, Prod.mk.injEq, and_assoc]
  constructor
  · rintro ⟨h1, h2, h3⟩
    refine ⟨h1, h2, ?_⟩
    rw [ByteArray.toList_eq, ByteArray.toList_eq] at h3
    obtain ⟨⟨a⟩⟩ := x3
    obtain ⟨⟨b⟩⟩ := y3
    simp at h3
    rw [h3]
  · rintro ⟨h1, h2, h3⟩
    exact ⟨h1, h2, by rw [h3]⟩
theorem bone {W w1 : World} {g : Nat} (hb : Below W.heap.size W w1) (h : g < W.heap.size) : (∀ j, w1.cell? ⟨g, j, none⟩ = W.cell? ⟨g, j, none⟩) ∧ (∀ j, w1.frozen? ⟨g, j, none⟩ = W.frozen? ⟨g, j, none⟩) :=
  ⟨fun j => hb.cell (p := ⟨g, j, none⟩) h, fun j => hb.frozen (p := ⟨g, j, none⟩) h⟩
/-- Values that a machine can hold. -/
def Fine1 (v : V3) : Prop := In64 v.2.1 ∧ v.2.2.size ≤ maxLen

/-- Nothing but one block, and new ones. -/
abbrev Fr (pb : Nat) (w w' : World) : Prop := w.grownBy w' (some pb)
theorem Fr.refl (pb : Nat) (w : World) : Fr pb w w := World.grownBy.refl w _
theorem Fr.trans {pb : Nat} {a b c : World} (h : Fr pb a b) (k : Fr pb b c) : Fr pb a c := Lib.grownBy_trans h k
theorem Fr.alloc {pb : Nat} {a w : World} (h : Fr pb a w) (o : Obj) : Fr pb a (w.alloc o) := h.trans (World.grownBy_alloc w o _)
theorem Fr.set {pb : Nat} {a w : World} (h : Fr pb a w) (i : Nat) (v : Value) : Fr pb a (w.setCell ⟨pb, i, none⟩ v) := h.trans (Lib.grownBy_setCell w pb i v)
theorem Fr.of_below {pb : Nat} {w w' : World} (h : Below w.heap.size w w') : Fr pb w w' := ⟨h.os, h.tape, h.output, h.size, fun k hk _ => h.block k hk⟩
theorem Fr.below {pb B : Nat} {w w' : World} (h : Fr pb w w') (hB : B ≤ w.heap.size) (hp : B ≤ pb) : Below B w w' := ⟨h.os, h.tape, h.output, h.size, fun k hk => h.block k (by omega) (fun e => by cases e; omega)⟩
theorem Fr.keep {pb : Nat} {w w' : World} (h : Fr pb w w') {k : Nat} {o : Obj} (hk : w.heap[k]? = some o) (hne : k ≠ pb) : w'.heap[k]? = some o :=
  (h.block k (Array.getElem?_eq_some_iff.1 hk).1 (fun e => hne (Option.some.inj e))).trans hk
theorem Fr.cell {pb : Nat} {w w' : World} (h : Fr pb w w') {b o : Nat} {v : Value} (hc : w.cell? ⟨b, o, none⟩ = some v) (hne : b ≠ pb) : w'.cell? ⟨b, o, none⟩ = some v :=
  World.grownBy.cell h hc (fun e => hne (Option.some.inj e))
theorem Fr.drew {pb : Nat} {a w : World} (h : Fr pb a w) : Fr pb a w.drew := h.trans ⟨rfl, rfl, rfl, Nat.le_refl _, fun _ _ _ => rfl⟩
theorem Fr.drewN {pb : Nat} {a w : World} (h : Fr pb a w) (n : Nat) : Fr pb a (w.drewN n) := h.trans ⟨rfl, rfl, rfl, Nat.le_refl _, fun _ _ _ => rfl⟩

/-- Only draws and new blocks. -/
def Gr (w W : World) : Prop := ∃ n os, W = Sort.grow (w.drewN n) os
theorem Gr.refl (w : World) : Gr w w := ⟨0, #[], by rw [Sort.grow_empty]; rfl⟩
theorem Gr.trans {a b c : World} (h : Gr a b) (k : Gr b c) : Gr a c := by
  obtain ⟨n, os, rfl⟩ := h
  obtain ⟨m, os', rfl⟩ := k
  refine ⟨n + m, os ++ os', ?_⟩
  show Sort.grow (Sort.grow ((a.drewN n).drewN m) os) os' = _
  rw [Sort.grow_grow, World.drewN_drewN]
theorem Gr.alloc {a b : World} (h : Gr a b) (x : Obj) : Gr a (b.alloc x) := h.trans ⟨0, #[x], by rw [Sort.alloc_eq_grow]; rfl⟩
theorem Gr.drew {a b : World} (h : Gr a b) : Gr a b.drew := h.trans ⟨1, #[], by rw [Sort.grow_empty]; rfl⟩
theorem Gr.drewN {a b : World} (h : Gr a b) (n : Nat) : Gr a (b.drewN n) := h.trans ⟨n, #[], by rw [Sort.grow_empty]⟩
theorem Gr.below {a b : World} (h : Gr a b) : Below a.heap.size a b := by
  obtain ⟨n, os, rfl⟩ := h
  exact Lib.below_grow _ _ (Nat.le_refl _) _ _
theorem Gr.out {a b : World} (h : Gr a b) : ∃ n os, b = Sort.grow (a.drewN n) os := h

theorem cells_made (w : World) (cs : Array Value) (t : TypeId) (j : Nat) (u : Value) (h : cs[j]? = some u) : (w.alloc (.cells cs t)).cell? ⟨w.heap.size, j, none⟩ = some u := by
  show (match (w.heap.push (Obj.cells cs t))[w.heap.size]? with | some (.cells c _ _) => if (none : Option _).isSome then none else c[j]? | _ => none) = _
  rw [Array.getElem?_push_size]
  exact h

theorem lt_of_heap {w : World} {b : Nat} {o : Obj} (h : w.heap[b]? = some o) : b < w.heap.size := (Array.getElem?_eq_some_iff.1 h).1

theorem RowKit_drewN {B : Nat} {a w : World} (h : Below B a w) (n : Nat) : Below B a (w.drewN n) := h.trans ⟨rfl, rfl, rfl, Nat.le_refl _, fun _ _ => rfl⟩

theorem owns_mono {base base' : Nat} {w : World} {e size n : Nat} {v : Value} {xs : List Value} (h : w.ownsRow base e size v n xs) (hb : base' ≤ base) : w.ownsRow base' e size v n xs := by
  obtain ⟨h1, h2⟩ := h
  refine ⟨h1, ?_⟩
  rcases h2 with h2 | ⟨g, cap, cur, hv, hg, r⟩
  · exact Or.inl h2
  · exact Or.inr ⟨g, cap, cur, hv, Nat.le_trans hb hg, r⟩

/-- What is owned is there as long as its block is. -/
theorem owns_below {base : Nat} {w w' : World} {e size n : Nat} {v : Value} {xs : List Value} (h : w.ownsRow base e size v n xs) (b : Below w.heap.size w w') : w'.ownsRow base e size v n xs := by
  obtain ⟨h1, h2⟩ := h
  refine ⟨h1, ?_⟩
  rcases h2 with h2 | ⟨g, cap, cur, hv, hg, hh, r⟩
  · exact Or.inl h2
  · exact Or.inr ⟨g, cap, cur, hv, hg, (b.block g (lt_of_heap hh)).trans hh, r⟩

theorem owns_slice {base : Nat} {w : World} {e size n : Nat} {v : Value} {xs : List Value} (h : w.ownsRow base e size v n xs) : ∃ ao c, v = .slice ao n c := by
  rcases h.2 with ⟨rfl, rfl⟩ | ⟨g, cap, cur, rfl, _⟩
  · exact ⟨none, 0, rfl⟩
  · exact ⟨_, cap, rfl⟩

theorem owns_tag {base : Nat} {w : World} {e size n : Nat} {v : Value} {xs : List Value} (h : w.ownsRow base e size v n xs) : ∀ k, v.ownBlock = some k → ∃ cs fz, w.heap[k]? = some (.cells cs e fz) := by
  intro k hk
  rcases h.2 with ⟨rfl, _⟩ | ⟨g, cap, cur, rfl, _, hg, _⟩
  · simp [Value.ownBlock] at hk
  · simp [Value.ownBlock] at hk
    subst hk
    exact ⟨cur, _, hg⟩
theorem owns_far {base e' : Nat} {w w' : World} {e size n : Nat} {v : Value} {xs : List Value} {row : Option Nat} (h : w.ownsRow base e size v n xs) (he : e ≠ e') (g : w.grownBy w' row) (hr : ∀ k, row = some k → ∃ cs fz, w.heap[k]? = some (.cells cs e' fz)) : w'.ownsRow base e size v n xs := by
  refine h.kept g ?_
  cases hv : v.ownBlock with
  | none => exact Or.inl rfl
  | some k =>
    refine Or.inr fun hk => ?_
    obtain ⟨cs, fz, h1⟩ := hr k hk.symm
    obtain ⟨cs', fz', h2⟩ := owns_tag h k hv
    rw [h1] at h2
    injection h2 with h2
    injection h2 with _ h3 _
    exact he h3.symm
theorem owns_apart {w w' : World} {base b e size n : Nat} {v : Value} {xs : List Value} (h : w.ownsRow base e size v n xs) (g : w.grownBy w' (some b)) (hne : v.ownBlock ≠ some b) : w'.ownsRow base e size v n xs := h.kept g (Or.inr hne)

/-- append to a row of one's own, wherever the source lies: the row's block stays, or is new. -/
theorem wpList_append_apart {P : Program} (w : World) {ops : Array Oper} {rest : List Oper} {o : Oper} {a : Act} {Q : Exit → Act → World → Prop}
    (hg : o.guard = none) (s x : Operand) (t : TypeId) (hop : o.op = Op.call { callee := Callee.builtin Builtin.append, args := #[s, x], argTypes := #[t, t] })
    (base : Nat) (e : TypeId) (i : TypeInfo) (z : Value) (size bytes : Nat) (ht : P.underlying t = some (.slice e)) (hi : P.info? e = some i) (hz : i.zero = some z) (hsize : i.size = size) (hby : i.bytes = bytes) (hzs : z.cells.size = size) (hsz : 0 < size)
    (v : Value) (n : Nat) (xs : List Value) (hs : a.eval s = v) (hown : w.ownsRow base e size v n xs) (ao : Option Addr) (m c : Nat) (news : List Value) (hx : a.eval x = .slice ao m c) (hl : news.length = m * size)
    (hnone : ao = none → m = 0 ∧ c = 0) (hnews : ∀ ad, ao = some ad → ∀ j u, news[j]? = some u → w.cell? (ad.add j) = some u) (h1 : ∀ u ∈ news, u.oneCell' = true)
    (h63 : n + m ≤ maxLen) (hbytes : (n + m) * bytes ≤ 140737488355328) (hbase : base ≤ w.heap.size)
    (hK : ∀ v' w', w'.ownsRow base e size v' (n + m) (xs ++ news) → w.grownBy w' v.ownBlock → (v'.ownBlock = v.ownBlock ∨ ∀ k, v'.ownBlock = some k → w.heap.size ≤ k) → wpList P ops Q rest (a.put o.dst v') w') :
    wpList P ops Q (o :: rest) a w := by
  cases ao with
  | none =>
    obtain ⟨rfl, rfl⟩ := hnone rfl
    have hn : news = [] := List.eq_nil_of_length_eq_zero (by simpa using hl)
    subst hn
    exact wpList_append_own_none hg s x t hop base e i size ht hi v n xs hs hown hx (hK v w (by simpa using hown) (World.grownBy.refl _ _) (Or.inl rfl))
  | some ad =>
    have hown' := hown
    rcases hown.2 with ⟨rfl, rfl⟩ | ⟨g, cap, cur, rfl, hb, hh, hnc, hm, hcs, htk⟩
    · by_cases hm0 : m = 0
      · refine wpList_append_own w hg s x t hop base e i z size bytes ht hi hz hsize hby hzs hsz (.slice none 0 0) 0 xs hs hown' ad m c news hx hl (hnews ad rfl) h1 h63 hbytes hbase fun v' w' h2 h3 h4 => hK v' w' h2 h3 (Or.inl ?_)
        rw [h4.2 ⟨rfl, hm0⟩]
      · obtain rfl : xs = [] := List.eq_nil_of_length_eq_zero (by have := hown'.1; omega)
        refine wpList_append_grows w hg s x t hop e i z size bytes ht hi hz hsize hby hzs hsz none 0 0 [] hs (fun _ => ⟨rfl, rfl⟩) (by simp) (fun b hb => by cases hb) ad m c news hx hl (hnews ad rfl) h1 (by omega) h63 hbytes fun v' w' h2 h3 => hK v' w' (owns_mono h2 hbase) h3 (Or.inr fun k hk => (h2.lt k hk).1)
    · by_cases hfit : n + m ≤ cap
      · exact wpList_append_fits w hg s x t hop base e i size ht hi hsize g n cap xs hs hown' ad m c news hx hl (hnews ad rfl) h1 hfit fun w' h2 h3 => hK _ w' h2 h3 (Or.inl rfl)
      · refine wpList_append_grows w hg s x t hop e i z size bytes ht hi hz hsize hby hzs hsz (some ⟨g, 0, none⟩) n cap xs hs (fun h => by cases h) hown'.1 (fun b hb => by obtain rfl := Option.some.inj hb; exact hown'.cells (g := g) rfl) ad m c news hx hl (hnews ad rfl) h1 (by omega) h63 hbytes fun v' w' h2 h3 => hK v' w' (owns_mono h2 hbase) ⟨h3.os, h3.tape, h3.output, h3.size, fun k hk _ => h3.block k hk (by simp)⟩ (Or.inr fun k hk => (h2.lt k hk).1)

/-- append to a row of one's own, wherever the source lies, as a step of a drawn region. -/
theorem step_append_any {P : Program} {ops : Array Oper} {o : Oper} {a : Act} {w : World} {K : Act → World → Prop} {Q : Exit → Act → World → Prop} {E : Prop}
    (hg : o.guard = none) (s x : Operand) (t : TypeId) (hop : o.op = Op.call { callee := Callee.builtin Builtin.append, args := #[s, x], argTypes := #[t, t] })
    (base : Nat) (e : TypeId) (i : TypeInfo) (z : Value) (size bytes : Nat) (ht : P.underlying t = some (.slice e)) (hi : P.info? e = some i) (hz : i.zero = some z) (hsize : i.size = size) (hby : i.bytes = bytes) (hzs : z.cells.size = size) (hsz : 0 < size)
    (v : Value) (n : Nat) (xs : List Value) (hs : a.eval s = v) (hown : w.ownsRow base e size v n xs) (ao : Option Addr) (m c : Nat) (news : List Value) (hx : a.eval x = .slice ao m c) (hl : news.length = m * size)
    (hnone : ao = none → m = 0 ∧ c = 0) (hnews : ∀ ad, ao = some ad → ∀ j u, news[j]? = some u → w.cell? (ad.add j) = some u) (h1 : ∀ u ∈ news, u.oneCell' = true)
    (h63 : n + m ≤ maxLen) (hbytes : (n + m) * bytes ≤ 140737488355328) (hbase : base ≤ w.heap.size)
    (hK : ∀ v' w', w'.ownsRow base e size v' (n + m) (xs ++ news) → w.grownBy w' v.ownBlock → K (a.put o.dst v') w') :
    if Region.wanted o (yielded ops a.tmps) = true then Oper.wp P o a w K Q else E := by
  have hw : Region.wanted o (yielded ops a.tmps) = true := by simp [Region.wanted, hg]
  rw [if_pos hw]
  cases ao with
  | some ad => exact wp_append_own w s x t hop base e i z size bytes ht hi hz hsize hby hzs hsz v n xs hs hown ad m c news hx hl (hnews ad rfl) h1 h63 hbytes hbase fun v' w' h2 h3 _ => hK v' w' h2 h3
  | none =>
    obtain ⟨rfl, rfl⟩ := hnone rfl
    have hn : news = [] := List.eq_nil_of_length_eq_zero (by simpa using hl)
    subst hn
    have hrun := run_append_owned_none (P := P) (w := w) base t o.type e i size ht hi v n xs hown
    unfold Oper.wp
    simp [execOp, hop, resolve, invoke, builtin, hs, hx, hrun, Result.andThen]
    exact hK v w (by simpa using hown) (World.grownBy.refl _ _)

/-- The call said yes, and turned nothing. -/
def YesP (w : World) (e : Ending) (w' : World) : Prop := e = .returned (.bool true) ∧ Below w.heap.size w w'
/-- The call answered this, and turned nothing old. -/
def SaysP (b : Bool) (w : World) (e : Ending) (w' : World) : Prop := e = .returned (.bool b) ∧ Below w.heap.size w w'

def SlG (B : Nat) (w : World) (ao : Option Addr) (cs : List Value) : Prop := cs ≠ [] → ∃ sb off, ao = some ⟨sb, off, none⟩ ∧ sb < B ∧ ∀ (j : Nat) (u : Value), cs[j]? = some u → w.cell? ⟨sb, off + j, none⟩ = some u
theorem SlG.below {B : Nat} {w w' : World} {ao : Option Addr} {cs : List Value} (h : SlG B w ao cs) (b : Below B w w') : SlG B w' ao cs := fun hn => by
  obtain ⟨sb, off, e, lt, hc⟩ := h hn
  exact ⟨sb, off, e, lt, fun j u hu => (b.cell (p := ⟨sb, off + j, none⟩) lt).trans (hc j u hu)⟩
theorem SlG.up {B B' : Nat} {w w' : World} {ao : Option Addr} {cs : List Value} (h : SlG B w ao cs) (b : Below B w w') (hB : B ≤ B') : SlG B' w' ao cs := fun hn => by
  obtain ⟨sb, off, e, lt, hc⟩ := (h.below b) hn
  exact ⟨sb, off, e, Nat.lt_of_lt_of_le lt hB, hc⟩

end Go.Proofs.YtnnhgbncghpecaaGreat
