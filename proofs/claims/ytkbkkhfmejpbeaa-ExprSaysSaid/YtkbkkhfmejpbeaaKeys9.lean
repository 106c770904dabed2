/- Keys of maps that say where rows stand: how they are compared, asked for and put. -/
import Derived.Test.YtkbkkhfmejpbeaaBase9
import Derived.MapKept
import Derived.LaidEql
import Derived.ChangeKeysEq
namespace Go.Proofs.Ytkbkkhfmejpbeaa
open Go.RowKit

/-- Where a row may stand: s: its block bears no marks. -/
def Good (s : Prop) (w : World) (a : Option Addr) : Prop := ∀ ad, a = some ad → w.frozen? ad = false ∧ ∃ cs t fr, w.heap[ad.block]? = some (.cells cs t fr) ∧ (s → fr = (0, 0))
theorem Good.of_heap {s : Prop} {w w' : World} {a : Option Addr} (h : Good s w a) (e : ∀ ad, a = some ad → w'.heap[ad.block]? = w.heap[ad.block]?) : Good s w' a := fun ad ha => by
  obtain ⟨h1, h2⟩ := h ad ha
  have e1 := e ad ha
  refine ⟨?_, ?_⟩
  · unfold World.frozen? at h1 ⊢
    rw [e1]
    exact h1
  · rw [e1]
    exact h2
theorem Good.none (s : Prop) (w : World) : Good s w Option.none := fun _ h => by cases h
theorem Good.drewN {s : Prop} {w : World} {a : Option Addr} (h : Good s w a) (k : Nat) : Good s (w.drewN k) a := h

theorem run_choose_any {P : Program} (q : Question) (w : World) : ∃ x k, (choose q).run P w = .ok x (w.drewN k) := by
  by_cases h : q.forced = true
  · exact ⟨0, 0, by rw [run_choose_drew, if_pos h]; rfl⟩
  · exact ⟨_, 1, by rw [run_choose_drew, if_neg h]; rfl⟩

theorem sameAddr_any {P : Program} {s : Prop} (w : World) (a b : Addr) (ha : Good s w (some a)) (hb : Good s w (some b)) :
    ∃ r k, (sameAddr a b).run P w = .ok r (w.drewN k) ∧ (a = b → r = true) ∧ (s → r = decide (a = b)) := by
  by_cases hab : a = b
  · subst hab
    exact ⟨true, 0, run_sameAddr_same w a, fun _ => rfl, fun _ => by simp⟩
  · by_cases hbl : a.block = b.block
    · exact ⟨false, 0, by simp [sameAddr, hbl, hab]; rfl, fun h => absurd h hab, fun _ => by simp [hab]⟩
    · obtain ⟨fa, ca, ta, ra, ha1, ha2⟩ := ha a rfl
      obtain ⟨fb, cb, tb, rb, hb1, hb2⟩ := hb b rfl
      by_cases hs : s
      · have e1 := ha2 hs
        have e2 := hb2 hs
        subst e1; subst e2
        exact ⟨false, 0, run_sameAddr_other w hab ha1 hb1, fun h => absurd h hab, fun _ => by simp [hab]⟩
      · have hm : ∃ m, (mayBeOne a b).run P w = .ok m w := by
          simp [mayBeOne, stringish, World.shape?, ha1, hb1, fa, fb]
        obtain ⟨m, hm⟩ := hm
        cases m with
        | false => exact ⟨false, 0, by simp [sameAddr, hbl, fa, fb, noView, viewAt, World.shape?, ha1, hb1, hm, Result.andThen]; rfl, fun h => absurd h hab, fun h => absurd h hs⟩
        | true =>
          obtain ⟨x, k, hx⟩ := run_choose_any (P := P) (.extern "sameAddr.stringBytes" 2) w
          exact ⟨_, k, by simp only [sameAddr]; simp [-run_choose_drew, hbl, fa, fb, noView, viewAt, World.shape?, ha1, hb1, hm, hx, Result.andThen]; rfl, fun h => absurd h hab, fun h => absurd h hs⟩

/-- A row's key: where it begins, and how many they are. -/
abbrev Key := Option Addr × Nat
abbrev rowV (x : Key) : Value := .agg #[.pointer x.1, .int .i64 x.2]
abbrev rowsV (x y : Key) : Value := .agg #[.pointer x.1, .int .i64 x.2, .pointer y.1, .int .i64 y.2]

/-- What the types of keys are. -/
structure RowT (P : Program) (rt pt et it : TypeId) (sz : Nat) : Prop where
  row : ∃ f g : Field, P.underlying rt = some (.struct #[f, g]) ∧ f.name ≠ "_" ∧ g.name ≠ "_" ∧ f.type = pt ∧ f.offset = 0 ∧ g.type = it ∧ g.offset = 1
  ptr : P.underlying pt = some (.pointer et)
  elem : ∃ j, P.info? et = some j ∧ j.size = sz
  pos : sz ≠ 0
  int : P.underlying it = some (.int .i64)
  held : P.stoodInHeld rt = false
  cells : ∃ j, P.info? rt = some j ∧ j.size = 2

theorem run_equalPtr {P : Program} {s : Prop} {pt et : TypeId} {j : TypeInfo} (w : World) (d : Nat) (a b : Option Addr) (hp : P.underlying pt = some (.pointer et)) (he : P.info? et = some j) (hj : j.size ≠ 0) (ha : Good s w a) (hb : Good s w b) :
    ∃ r k, (Op.equalIn (d + 1) pt (.pointer a) (.pointer b)).run P w = .ok r (w.drewN k) ∧ (a = b → r = true) ∧ (s → r = decide (a = b)) := by
  cases a with
  | none =>
    cases b with
    | none => exact ⟨true, 0, by simp [Op.equalIn, run_underlying hp]; rfl, fun _ => rfl, fun _ => by simp⟩
    | some b => exact ⟨false, 0, by simp [Op.equalIn, run_underlying hp]; rfl, (fun h => by cases h), (fun _ => by simp)⟩
  | some a =>
    cases b with
    | none => exact ⟨false, 0, by simp [Op.equalIn, run_underlying hp]; rfl, (fun h => by cases h), (fun _ => by simp)⟩
    | some b =>
      obtain ⟨r, k, h1, h2, h3⟩ := sameAddr_any (P := P) w a b ha hb
      refine ⟨r, k, ?_, fun h => h2 (Option.some.inj h), fun h => by rw [h3 h]; simp⟩
      simp [Op.equalIn, run_underlying hp, sizeOf, typeInfo, he, hj, h1, Result.andThen]

theorem run_equalRow {P : Program} {s : Prop} {rt pt et it : TypeId} {sz : Nat} (T : RowT P rt pt et it sz) (w : World) (d : Nat) (x y : Key) (hx : Good s w x.1) (hy : Good s w y.1) :
    ∃ r k, (Op.equalIn (d + 2) rt (rowV x) (rowV y)).run P w = .ok r (w.drewN k) ∧ (x = y → r = true) ∧ (s → r = decide (x = y)) := by
  obtain ⟨f, g, hr, nf, ng, f1, f2, g1, g2⟩ := T.row
  obtain ⟨j, he, hj⟩ := T.elem
  have hj0 : j.size ≠ 0 := by rw [hj]; exact T.pos
  have hf : P.fieldsOf rt = #[f, g] := by simp [Program.fieldsOf, hr]
  have ht : P.underlying rt = some (.struct (P.fieldsOf rt)) := by rw [hf]; exact hr
  obtain ⟨r, k, h1, h2, h3⟩ := run_equalPtr (P := P) w d x.1 y.1 T.ptr he hj0 hx hy
  have hpt : ∀ (w : World) (xs : Array Value) v, xs[0]? = some v → (part pt xs 0).run P w = .ok v w := fun w xs v h => by simp [part, isAgg, run_underlying T.ptr, h]
  have hit : ∀ (w : World) (xs : Array Value) v, xs[1]? = some v → (part it xs 1).run P w = .ok v w := fun w xs v h => by simp [part, isAgg, run_underlying T.int, h]
  have hq : ∀ (w : World) (a b : Int), (Op.equalIn (d + 1) it (.int .i64 a) (.int .i64 b)).run P w = .ok (a == b) w := fun w a b => run_equalIn_int w d it .i64 .i64 a b T.int
  cases r with
  | false =>
    refine ⟨false, k, ?_, fun h => ?_, fun hs => ?_⟩
    · rw [run_equalIn_struct w (d + 1) rt _ _ ht T.held, hf]
      simp [Op.eqFields, nf, f1, f2, hpt w _ (.pointer x.1), hpt w _ (.pointer y.1), h1, Result.andThen]
    · subst h
      exact h2 rfl
    · have := h3 hs
      have hne : ¬ x.1 = y.1 := by simpa using this.symm
      symm
      exact decide_eq_false fun e => hne (by rw [e])
  | true =>
    refine ⟨((x.2 : Int) == (y.2 : Int)), k, ?_, fun h => ?_, fun hs => ?_⟩
    · rw [run_equalIn_struct w (d + 1) rt _ _ ht T.held, hf]
      simp [Op.eqFields, nf, ng, f1, f2, g1, g2, hpt w _ (.pointer x.1), hpt w _ (.pointer y.1), h1, hit _ _ (.int .i64 x.2), hit _ _ (.int .i64 y.2), hq, Result.andThen]
      by_cases e : (x.2 : Int) = (y.2 : Int)
      · rw [if_pos e, beq_iff_eq.2 e]
      · rw [if_neg e, beq_eq_false_iff_ne.2 e]
    · subst h
      simp
    · have h4 := h3 hs
      have h5 : x.1 = y.1 := by simpa using h4.symm
      by_cases e : x.2 = y.2
      · have : x = y := Prod.ext h5 e
        simp [this]
      · have hne : ¬ x = y := fun h => e (by rw [h])
        have e' : ¬ (x.2 : Int) = (y.2 : Int) := by omega
        rw [beq_eq_false_iff_ne.2 e', decide_eq_false hne]

theorem run_equalRows {P : Program} {s : Prop} {rs rt pt et it : TypeId} {sz : Nat} (T : RowT P rt pt et it sz) (hat : P.underlying rs = some (.array 2 rt)) (w : World) (d : Nat) (x y u v : Key) (hx : Good s w x.1) (hy : Good s w y.1) (hu : Good s w u.1) (hv : Good s w v.1) :
    ∃ r k, (Op.equalIn (d + 3) rs (rowsV x y) (rowsV u v)).run P w = .ok r (w.drewN k) ∧ (x = u ∧ y = v → r = true) ∧ (s → r = decide (x = u ∧ y = v)) := by
  obtain ⟨f, g, hr, -⟩ := T.row
  obtain ⟨j, hj, hj2⟩ := T.cells
  have hco : P.cellsOf rt = 2 := by simp [Program.cellsOf, hj, hj2]
  have hsz : ∀ w : World, (sizeOf rt).run P w = .ok 2 w := fun w => by simp [sizeOf, typeInfo, hj, hj2]
  have p0 : ∀ (w : World) (x y : Key), (part rt #[.pointer x.1, .int .i64 x.2, .pointer y.1, .int .i64 y.2] 0).run P w = .ok (rowV x) w := fun w x y => by simp [part, isAgg, run_underlying hr, hsz, Result.andThen]
  have p2 : ∀ (w : World) (x y : Key), (part rt #[.pointer x.1, .int .i64 x.2, .pointer y.1, .int .i64 y.2] 2).run P w = .ok (rowV y) w := fun w x y => by simp [part, isAgg, run_underlying hr, hsz, Result.andThen]
  obtain ⟨r1, k1, h1, h2, h3⟩ := run_equalRow T w d x u hx hu
  cases r1 with
  | false =>
    refine ⟨false, k1, ?_, fun h => h2 h.1, fun hs => ?_⟩
    · rw [run_equalIn_array w (d + 2) _ _ hat hj, hco]
      simp [Op.eqItems, List.range_succ, p0, h1, Result.andThen]
    · have := h3 hs
      have hne : ¬ x = u := by simpa using this.symm
      symm
      exact decide_eq_false fun e => hne e.1
  | true =>
    obtain ⟨r2, k2, h4, h5, h6⟩ := run_equalRow T (w.drewN k1) d y v (hy.drewN _) (hv.drewN _)
    refine ⟨r2, k1 + k2, ?_, fun h => h5 h.2, fun hs => ?_⟩
    · rw [run_equalIn_array w (d + 2) _ _ hat hj, hco]
      have e2 : ((w.drewN k1).drewN k2) = w.drewN (k1 + k2) := World.drewN_drewN ..
      rw [← e2]
      cases r2 <;> simp [Op.eqItems, List.range_succ, p0, p2, h1, h4, Result.andThen]
    · have e1 : x = u := by simpa using (h3 hs).symm
      rw [h6 hs]
      simp [e1]

/-- A type of keys, as they are told apart in a world: s: for good. -/
structure KeyOf (P : Program) (s : Prop) (kt : TypeId) (K : Type) (enc : K → Value) (good : World → K → Prop) : Prop where
  eq : ∀ w x y, good w x → good w y → ∃ r k, (Op.equal kt (enc x) (enc y)).run P w = .ok r (w.drewN k) ∧ (x = y → r = true) ∧ (s → (r = true ↔ x = y))
  drew : ∀ w x k, good w x → good (w.drewN k) x
  check : ∀ w x e, (Instr.checkKey e 10000 kt (enc x)).run P w = .ok () w
  now : ∃ d, P.underlying kt = some d ∧ ∀ x v, Instr.sameNow d (enc x) v = none
  bits : ∀ x, Instr.sameBits 10000 (enc x) (enc x) = true

theorem findAsking_any {P : Program} {s : Prop} {kt : TypeId} {K : Type} {enc : K → Value} {good : World → K → Prop} (T : KeyOf P s kt K enc good) (x : K) :
    ∀ (es : List MapEntry) (l : List (K × Value)) (w : World) (n : Nat), es.map (fun e => (e.key, e.val)) = l.map (fun p => (enc p.1, p.2)) → good w x → (∀ p, p ∈ l → good w p.1) →
    ∃ o k, (Instr.findAsking kt (enc x) es n).run P w = .ok o (w.drewN k) ∧ (o = none → ∀ p, p ∈ l → p.1 ≠ x) ∧ (∀ i v, o = some (i, v) → ∃ j y, i = n + j ∧ l[j]? = some (y, v) ∧ (s → y = x))
  | [], l, w, n, he, _, _ => by
    have : l = [] := by cases l; rfl; simp at he
    subst this
    exact ⟨none, 0, by simp [Instr.findAsking]; rfl, (fun _ p h => by cases h), (fun i v h => by cases h)⟩
  | e :: es, [], w, n, he, _, _ => by simp at he
  | e :: es, q :: l, w, n, he, hx, hg => by
    simp only [List.map_cons, List.cons.injEq, Prod.mk.injEq] at he
    obtain ⟨⟨he1, he2⟩, he3⟩ := he
    obtain ⟨r, k, h1, h2, h3⟩ := T.eq w x q.1 hx (hg q (List.mem_cons_self ..))
    cases r with
    | true =>
      refine ⟨some (n, e.val), k, ?_, (fun h => by cases h), fun i v h => ?_⟩
      · simp [Instr.findAsking, he1, h1, Result.andThen]
      · obtain ⟨rfl, rfl⟩ : n = i ∧ e.val = v := by simpa using h
        refine ⟨0, q.1, rfl, ?_, fun hs => ((h3 hs).1 rfl).symm⟩
        rw [List.getElem?_cons_zero, he2]
    | false =>
      obtain ⟨o, k', h4, h5, h6⟩ := findAsking_any T x es l (w.drewN k) (n + 1) he3 (T.drew _ _ _ hx) (fun p hp => T.drew _ _ _ (hg p (List.mem_cons_of_mem _ hp)))
      refine ⟨o, k + k', ?_, fun h p hp => ?_, fun i v h => ?_⟩
      · have e2 : ((w.drewN k).drewN k') = w.drewN (k + k') := World.drewN_drewN ..
        rw [← e2]
        simp [Instr.findAsking, he1, h1, h4, Result.andThen]
      · rcases List.mem_cons.1 hp with rfl | hp
        · exact fun e => by have := h2 e.symm; cases this
        · exact h5 h p hp
      · obtain ⟨j, y, rfl, hj, hs⟩ := h6 i v h
        exact ⟨j + 1, y, by omega, by simpa using hj, hs⟩

theorem findKey_any {P : Program} {s : Prop} {kt : TypeId} {K : Type} {enc : K → Value} {good : World → K → Prop} (T : KeyOf P s kt K enc good) (x : K)
    (es : List MapEntry) (l : List (K × Value)) (w : World) (he : es.map (fun e => (e.key, e.val)) = l.map (fun p => (enc p.1, p.2))) (hx : good w x) (hg : ∀ p, p ∈ l → good w p.1) :
    ∃ o k, (Instr.findKey kt (enc x) es).run P w = .ok o (w.drewN k) ∧ (o = none → ∀ p, p ∈ l → p.1 ≠ x) ∧ (∀ i v, o = some (i, v) → ∃ y, l[i]? = some (y, v) ∧ (s → y = x)) := by
  obtain ⟨d, hd, hn⟩ := T.now
  cases es with
  | nil =>
    have : l = [] := by cases l; rfl; simp at he
    subst this
    exact ⟨none, 0, by simp [Instr.findKey, run_underlying hd, Instr.findNow, Result.andThen]; rfl, (fun _ p h => by cases h), (fun i v h => by cases h)⟩
  | cons e es =>
    obtain ⟨o, k, h1, h2, h3⟩ := findAsking_any T x (e :: es) l w 0 he hx hg
    refine ⟨o, k, ?_, h2, fun i v h => ?_⟩
    · simp [Instr.findKey, run_underlying hd, Instr.findNow, hn, Result.andThen, h1]
    · obtain ⟨j, y, rfl, hj, hs⟩ := h3 i v h
      rw [Nat.zero_add]
      exact ⟨y, hj, hs⟩

/-- At b lies a map of these. -/
def MapIs {K : Type} (enc : K → Value) (w : World) (b : Nat) (l : List (K × Value)) : Prop := ∃ es clock, w.heap[b]? = some (.map es clock) ∧ es.toList.map (fun e => (e.key, e.val)) = l.map (fun p => (enc p.1, p.2))
theorem MapIs.keep {K : Type} {enc : K → Value} {w w' : World} {b : Nat} {l : List (K × Value)} (h : MapIs enc w b l) (e : w'.heap[b]? = w.heap[b]?) : MapIs enc w' b l := by
  obtain ⟨es, clock, h1, h2⟩ := h
  exact ⟨es, clock, e.trans h1, h2⟩
theorem MapIs.lt {K : Type} {enc : K → Value} {w : World} {b : Nat} {l : List (K × Value)} (h : MapIs enc w b l) : b < w.heap.size := by
  obtain ⟨es, clock, h1, h2⟩ := h
  exact (Array.getElem?_eq_some_iff.1 h1).1

theorem lookup_any {P : Program} {s : Prop} {kt : TypeId} {K : Type} {enc : K → Value} {good : World → K → Prop} (T : KeyOf P s kt K enc good) (x : K) (t et : TypeId) (z : Value)
    (ht : P.underlying t = some (.map kt et)) (hz : ∀ w, (zeroValue et).run P w = .ok z w) (w : World) (b : Nat) (l : List (K × Value)) (hm : MapIs enc w b l) (hx : good w x) (hg : ∀ p, p ∈ l → good w p.1) :
    ∃ ok v k, (Instr.lookup t (.map (some b)) (enc x) true).run P w = .ok (.tuple #[v, .bool ok]) (w.drewN k) ∧ (ok = false → v = z ∧ ∀ p, p ∈ l → p.1 ≠ x) ∧ (ok = true → ∃ y, (y, v) ∈ l ∧ (s → y = x)) := by
  obtain ⟨es, clock, h1, h2⟩ := hm
  obtain ⟨o, k, h3, h4, h5⟩ := findKey_any T x es.toList l w h2 hx hg
  cases o with
  | none =>
    refine ⟨false, z, k, ?_, fun _ => ⟨rfl, h4 rfl⟩, fun h => by cases h⟩
    simp [Instr.lookup, run_underlying ht, MapKept.run_getObj_map h1, T.check, h3, hz, Result.andThen]
  | some o =>
    obtain ⟨i, v⟩ := o
    refine ⟨true, v, k, ?_, (fun h => by cases h), fun _ => ?_⟩
    · simp [Instr.lookup, run_underlying ht, MapKept.run_getObj_map h1, T.check, h3, Result.andThen]
    · obtain ⟨y, hy, hs⟩ := h5 i v rfl
      exact ⟨y, List.mem_of_getElem? hy, hs⟩

theorem update_any {P : Program} {s : Prop} {kt : TypeId} {K : Type} {enc : K → Value} {good : World → K → Prop} (T : KeyOf P s kt K enc good) (x : K) (val : Value) (t et : TypeId)
    (ht : P.underlying t = some (.map kt et)) (w : World) (b : Nat) (l : List (K × Value)) (hm : MapIs enc w b l) (hx : good w x) (hg : ∀ p, p ∈ l → good w p.1) :
    ∃ w' l', (Instr.mapUpdate t (.map (some b)) (enc x) val).run P w = .ok () w' ∧ w'.heap.size = w.heap.size ∧ w.grownBy w' (some b) ∧ MapIs enc w' b l' ∧ (∀ p, p ∈ l' → p ∈ l ∨ (p.2 = val ∧ (p.1 = x ∨ ∃ q, q ∈ l ∧ q.1 = p.1))) ∧ (s → (∀ p, p ∈ l → p.1 ≠ x) → l' = l ++ [(x, val)]) ∧ (s → ∀ p, p ∈ l → p.1 = x → ∃ i, (l[i]?).map Prod.fst = some x ∧ l' = l.set i (x, val)) := by
  obtain ⟨es, clock, h1, h2⟩ := hm
  obtain ⟨o, k, h3, h4, h5⟩ := findKey_any T x es.toList l w h2 hx hg
  have hlt := (Array.getElem?_eq_some_iff.1 h1).1
  have h1k : (w.drewN k).heap[b]? = some (.map es clock) := h1
  have frame : ∀ (k : Nat) (o : Obj), w.grownBy { w.drewN k with heap := w.heap.setIfInBounds b o } (some b) := fun k o => by
    refine ⟨rfl, rfl, rfl, by simp, fun j _ hj => ?_⟩
    have hne : b ≠ j := fun e => hj (by rw [e])
    show (w.heap.setIfInBounds b o)[j]? = _
    simp [hne]
  have there : ∀ (k : Nat) (o : Obj), ({ w.drewN k with heap := w.heap.setIfInBounds b o } : World).heap[b]? = some o := fun k o => by
    show (w.heap.setIfInBounds b o)[b]? = _
    simp [hlt]
  cases o with
  | none =>
    refine ⟨{ w.drewN k with heap := w.heap.setIfInBounds b (.map (es.push ⟨enc x, val, clock⟩) (clock + 1)) }, l ++ [(x, val)], ?_, ?_, frame _ _, ⟨_, _, there _ _, ?_⟩, ?_, ?_, ?_⟩
    · simp [Instr.mapUpdate, run_underlying ht, MapKept.run_getObj_map h1, T.check, h3, MapKept.run_setObj_map _ h1k, Result.andThen]
    · simp
    · simp [h2]
    · intro p hp
      rcases List.mem_append.1 hp with hp | hp
      · exact Or.inl hp
      · rw [List.mem_singleton.1 hp]
        exact Or.inr ⟨rfl, Or.inl rfl⟩
    · exact fun _ _ => rfl
    · exact fun _ p hp e => absurd e (h4 rfl p hp)
  | some o =>
    obtain ⟨i, v⟩ := o
    obtain ⟨y0, hy0, hs⟩ := h5 i v rfl
    have hi := (List.getElem?_eq_some_iff.1 hy0).1
    have hlen : es.size = l.length := by
      have := congrArg List.length h2
      simpa using this
    obtain ⟨q, hqe⟩ : ∃ q : K × Value, q = (y0, v) := ⟨_, rfl⟩
    have hq : l[i]? = some q := by rw [hqe]; exact hy0
    have hqs : s → q.1 = x := fun h => by rw [hqe]; exact hs h
    have hei : ∃ e : MapEntry, es[i]? = some e ∧ e.key = enc q.1 := by
      have hi' : i < es.size := by omega
      refine ⟨es[i], Array.getElem?_eq_getElem hi', ?_⟩
      have h := congrArg (fun m => (m[i]?).map Prod.fst) h2
      simp only [List.getElem?_map, hq, Option.map_some] at h
      rw [show es.toList[i]? = some es[i] from by simp [hi']] at h
      simpa using h
    obtain ⟨e0, he0, he1⟩ := hei
    have hkeep : ∃ y k', (Instr.keyThatStays (enc q.1) (enc x)).run P (w.drewN k) = .ok (enc y) (w.drewN k') ∧ (y = x ∨ y = q.1) := by
      by_cases hb : Instr.sameBits 10000 (enc q.1) (enc x) = true
      · exact ⟨x, k, by simp [Instr.keyThatStays, hb], Or.inl rfl⟩
      · obtain ⟨n, k', hc⟩ := run_choose_any (P := P) (.extern "map.whichKeyStays" 2) (w.drewN k)
        have e2 : ((w.drewN k).drewN k') = w.drewN (k + k') := World.drewN_drewN ..
        by_cases hn : n = 0
        · exact ⟨x, k + k', by simp [-run_choose_drew, Instr.keyThatStays, hb, hc, hn, Result.andThen, e2], Or.inl rfl⟩
        · exact ⟨q.1, k + k', by simp [-run_choose_drew, Instr.keyThatStays, hb, hc, hn, Result.andThen, e2], Or.inr rfl⟩
    obtain ⟨y, k', hk1, hk2⟩ := hkeep
    have h1k' : (w.drewN k').heap[b]? = some (.map es clock) := h1
    refine ⟨{ w.drewN k' with heap := w.heap.setIfInBounds b (.map (es.modify i fun e => { e with key := enc y, val := val }) clock) }, l.set i (y, val), ?_, ?_, frame _ _, ⟨_, _, there _ _, ?_⟩, ?_, ?_, ?_⟩
    · simp [Instr.mapUpdate, run_underlying ht, MapKept.run_getObj_map h1, T.check, h3, he0, he1, hk1, MapKept.run_setObj_map _ h1k', Result.andThen]
    · simp
    · apply List.ext_getElem?
      intro j
      have hj := congrArg (fun m => m[j]?) h2
      simp only [List.getElem?_map, Array.getElem?_toList] at hj
      simp only [List.getElem?_map, Array.getElem?_toList, Array.getElem?_modify, List.getElem?_set]
      by_cases hij : i = j
      · subst hij
        rw [if_pos rfl, if_pos rfl, if_pos hi, he0]
        rfl
      · rw [if_neg hij, if_neg hij, hj]
    · intro p hp
      obtain ⟨j, hj⟩ := List.getElem?_of_mem hp
      rw [List.getElem?_set, if_pos hi] at hj
      split at hj
      · obtain rfl := Option.some.inj hj
        rcases hk2 with h | h
        · exact Or.inr ⟨rfl, Or.inl h⟩
        · exact Or.inr ⟨rfl, Or.inr ⟨q, List.mem_of_getElem? hq, h.symm⟩⟩
      · exact Or.inl (List.mem_of_getElem? hj)
    · intro hs' h
      exact absurd (hqs hs') (h _ (List.mem_of_getElem? hq))
    · intro hs' p hp he
      have hx' := hqs hs'
      have hy : y = x := by
        rcases hk2 with h | h
        · exact h
        · rw [h, hx']
      refine ⟨i, by rw [hq, Option.map_some, hx'], by rw [hy]⟩

theorem ordEq (b : Bool) (p : Prop) [Decidable p] (h : b = decide p) : b = true ↔ p := by rw [h]; simp
theorem sameBits_row (n : Nat) (x : Key) : Instr.sameBits (n + 2) (rowV x) (rowV x) = true := by
  simp [Instr.sameBits]
theorem sameBits_rows (n : Nat) (x y : Key) : Instr.sameBits (n + 2) (rowsV x y) (rowsV x y) = true := by
  simp [Instr.sameBits]

theorem checkKey_row {P : Program} {rt pt et it : TypeId} {sz : Nat} (T : RowT P rt pt et it sz) (w : World) (x : Key) (e : Bool) (n : Nat) : (Instr.checkKey e (n + 2) rt (rowV x)).run P w = .ok () w := by
  obtain ⟨f, g, hr, nf, ng, f1, f2, g1, g2⟩ := T.row
  have hpt : ∀ (w : World) (xs : Array Value) v, xs[0]? = some v → (part pt xs 0).run P w = .ok v w := fun w xs v h => by simp [part, isAgg, run_underlying T.ptr, h]
  have hit : ∀ (w : World) (xs : Array Value) v, xs[1]? = some v → (part it xs 1).run P w = .ok v w := fun w xs v h => by simp [part, isAgg, run_underlying T.int, h]
  simp [Instr.checkKey, run_underlying hr, nf, ng, f1, f2, g1, g2, hpt _ _ (.pointer x.1), hit _ _ (.int .i64 x.2), run_underlying T.ptr, run_underlying T.int, Result.andThen]
theorem checkKey_rows {P : Program} {rs rt pt et it : TypeId} {sz : Nat} (T : RowT P rt pt et it sz) (hat : P.underlying rs = some (.array 2 rt)) (w : World) (x y : Key) (e : Bool) (n : Nat) : (Instr.checkKey e (n + 3) rs (rowsV x y)).run P w = .ok () w := by
  obtain ⟨f, g, hr, -⟩ := T.row
  obtain ⟨j, hj, hj2⟩ := T.cells
  have hsz : ∀ w : World, (sizeOf rt).run P w = .ok 2 w := fun w => by simp [sizeOf, typeInfo, hj, hj2]
  have p0 : ∀ (w : World) (x y : Key), (part rt #[.pointer x.1, .int .i64 x.2, .pointer y.1, .int .i64 y.2] 0).run P w = .ok (rowV x) w := fun w x y => by simp [part, isAgg, run_underlying hr, hsz, Result.andThen]
  have p2 : ∀ (w : World) (x y : Key), (part rt #[.pointer x.1, .int .i64 x.2, .pointer y.1, .int .i64 y.2] 2).run P w = .ok (rowV y) w := fun w x y => by simp [part, isAgg, run_underlying hr, hsz, Result.andThen]
  have hc := fun (w : World) (x : Key) => checkKey_row T w x e n
  unfold Instr.checkKey
  simp only [Sem.run_bind, run_underlying hat, Result.andThen_ok]
  simp only [Std.Legacy.Range.forIn_eq_forIn_range', Std.Legacy.Range.size, Nat.sub_zero, Nat.add_one_sub_one, Nat.div_one, List.range'_succ, List.range'_zero, List.forIn_cons, List.forIn_nil]
  simp [hsz, p0, p2, hc, Result.andThen]

theorem keyRow {P : Program} (s : Prop) {rt pt et it : TypeId} {sz : Nat} (T : RowT P rt pt et it sz) : KeyOf P s rt Key rowV (fun w x => Good s w x.1) where
  eq w x y hx hy := by
    obtain ⟨r, k, h1, h2, h3⟩ := run_equalRow T w 9998 x y hx hy
    exact ⟨r, k, by simpa [Op.equal, Op.maxDepth] using h1, h2, fun hs => ordEq _ _ (h3 hs)⟩
  drew w x k h := h.drewN k
  check w x e := checkKey_row T w x e 9998
  now := by
    obtain ⟨f, g, hr, -⟩ := T.row
    exact ⟨_, hr, fun _ _ => rfl⟩
  bits x := sameBits_row 9998 x
theorem keyRows {P : Program} (s : Prop) {rs rt pt et it : TypeId} {sz : Nat} (T : RowT P rt pt et it sz) (hat : P.underlying rs = some (.array 2 rt)) : KeyOf P s rs (Key × Key) (fun x => rowsV x.1 x.2) (fun w x => Good s w x.1.1 ∧ Good s w x.2.1) where
  eq w x y hx hy := by
    obtain ⟨r, k, h1, h2, h3⟩ := run_equalRows T hat w 9997 x.1 x.2 y.1 y.2 hx.1 hx.2 hy.1 hy.2
    have e : (x.1 = y.1 ∧ x.2 = y.2) ↔ x = y := ⟨fun h => Prod.ext h.1 h.2, fun h => by subst h; exact ⟨rfl, rfl⟩⟩
    exact ⟨r, k, by simpa [Op.equal, Op.maxDepth] using h1, fun h => h2 (e.2 h), fun hs => (ordEq _ _ (h3 hs)).trans e⟩
  drew w x k h := ⟨h.1.drewN k, h.2.drewN k⟩
  check w x e := checkKey_rows T hat w x.1 x.2 e 9997
  now := ⟨_, hat, fun _ _ => rfl⟩
  bits x := sameBits_rows 9998 x.1 x.2

end Go.Proofs.Ytkbkkhfmejpbeaa
