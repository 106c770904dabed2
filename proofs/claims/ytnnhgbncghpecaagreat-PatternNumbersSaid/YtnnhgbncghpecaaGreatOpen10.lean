/- What came in: a condition, a fact, rows of truths and of values, a value; how long its texts may be. -/
import Derived.Test.YtnnhgbncghpecaaGreatWide10
import Derived.ProofKit
import Derived.OpenShut
import Derived.ChangeArms
import Derived.ChangeMaps5
import Derived.Deep.Slices
import Derived.Deep.Strs
import Derived.Lib.SmallJoins
namespace Go.Proofs.YtnnhgbncghpecaaGreat
open Go.ChangeShapes Go.WideShapes Go.ChangeAt Go.RowKit
set_option maxRecDepth 100000

theorem in64_of_wf {x : Int} (h : (Lit.int .i64 x).wf = true) : In64 x := by
  have h' : -9223372036854775808 ≤ x ∧ x ≤ 9223372036854775807 := by simpa [Lit.wf, IntKind.min, IntKind.max, IntKind.signed, IntKind.bits] using h
  exact ⟨h'.1, h'.2⟩
theorem flat_row (f : Nat → List Value) (sz : Nat) : ∀ (len : Nat), (∀ i, i < len → (f i).length = sz) → ((List.range len).map f).flatten.length = len * sz ∧ ∀ i r, i < len → r < sz → ((List.range len).map f).flatten[i * sz + r]? = (f i)[r]? := by
  intro len
  induction len with
  | zero => exact fun _ => ⟨by simp, fun i r hi => absurd hi (Nat.not_lt_zero _)⟩
  | succ len ih =>
    intro hl
    obtain ⟨h1, h2⟩ := ih fun i hi => hl i (by omega)
    have e : ((List.range (len + 1)).map f).flatten = ((List.range len).map f).flatten ++ f len := by simp [List.range_succ]
    rw [e]
    refine ⟨by rw [List.length_append, h1, hl len (by omega), Nat.succ_mul], fun i r hi hr => ?_⟩
    by_cases hil : i < len
    · have hle : (i + 1) * sz ≤ len * sz := Nat.mul_le_mul_right _ hil
      rw [Nat.succ_mul] at hle
      rw [List.getElem?_append_left (by rw [h1]; omega)]
      exact h2 i r hil hr
    · obtain rfl : i = len := by omega
      rw [List.getElem?_append_right (by rw [h1]; omega), h1]
      congr 1
      omega
theorem slg_row {W : World} {a : Addr} {len sz : Nat} (f : Nat → List Value) (hsz : 0 < sz) (hl : ∀ i, i < len → (f i).length = sz) (hc : ∀ i, i < len → ∀ j, j < sz → W.cell? ((a.add (i * sz)).add j) = (f i)[j]?) : SlG W.heap.size W (some a) ((List.range len).map f).flatten := by
  intro hne
  obtain ⟨h1, h2⟩ := flat_row f sz len hl
  have hlen : 0 < len := by
    rcases Nat.eq_zero_or_pos len with h | h
    · subst h; exact absurd rfl hne
    · exact h
  have hcell : ∀ (j : Nat) (u : Value), ((List.range len).map f).flatten[j]? = some u → W.cell? (a.add j) = some u := fun j u hu => by
    have hj := (List.getElem?_eq_some_iff.1 hu).1
    rw [h1] at hj
    have hi : j / sz < len := Nat.div_lt_of_lt_mul (by rw [Nat.mul_comm]; exact hj)
    have hr : j % sz < sz := Nat.mod_lt _ hsz
    have e : j / sz * sz + j % sz = j := Nat.div_add_mod' j sz
    have q := hc (j / sz) hi (j % sz) hr
    rw [Deep.add_add, e] at q
    rw [q, ← h2 _ _ hi hr, e]
    exact hu
  obtain ⟨u, hu⟩ : ∃ u, ((List.range len).map f).flatten[0]? = some u := by
    cases hz : ((List.range len).map f).flatten with
    | nil => exact absurd hz hne
    | cons u l => exact ⟨u, rfl⟩
  have h0 := hcell 0 u hu
  obtain ⟨b, off, path⟩ := a
  have hp : path = none := by
    cases path with
    | none => rfl
    | some z => exfalso; revert h0; simp only [Addr.add, World.cell?]; split <;> simp
  subst hp
  refine ⟨b, off, rfl, ?_, fun j u hu => ?_⟩
  · apply Classical.byContradiction
    intro hn
    have hnone : W.heap[b]? = none := Array.getElem?_eq_none (by omega)
    revert h0
    simp [Addr.add, World.cell?, hnone]
  · have := hcell j u hu
    rwa [Addr.add_lit] at this
/-- What is weighed. -/
theorem weighs_all {H : Type} {P : Program} {e : TypeId} {l : List (DataW H)} {d : DataW H} (hd : d ∈ l) {m : Nat} (hm : m ∈ d.weights P e) : m ∈ DataW.weightsAll P e l := by
  induction l with
  | nil => cases hd
  | cons x l ih =>
    rw [DataW.weightsAll, List.mem_append]
    rcases List.mem_cons.1 hd with rfl | h
    · exact Or.inl hm
    · exact Or.inr (ih h)
section
variable {H : Type} {enc : TypeId × Value → H} {W : World}
abbrev Trd (enc : TypeId × Value → H) (W : World) (fuel : Nat) (t : TypeId) (cs : List Value) (x : DataW H × List MemPlace) : Prop := DataW.trod enc Tryz.prog W 0 (fun _ => true) true fuel t cs = some x
def threeV (v : V3) : List Value := [.int .u8 v.1, .int .i64 v.2.1, .string v.2.2]
theorem open_v3 {fuel : Nat} {cs : List Value} {x : DataW H × List MemPlace} (h : Trd enc W fuel 27 cs x) : ∃ v : V3, cs = threeV v ∧ v.2.2.size ∈ x.1.weights Tryz.prog 27 := by
  have c0 : Tryz.prog.cellsOf 25 = 1 := by kernel_rfl
  have c1 : Tryz.prog.cellsOf 2 = 1 := by kernel_rfl
  have c2 : Tryz.prog.cellsOf 9 = 1 := by kernel_rfl
  have c3 : Tryz.prog.cellsOf 27 = 3 := by kernel_rfl
  obtain ⟨y0, y1, y2, k, hx, hl, g0, g1, g2⟩ := Deep.trod_struct3 Tryz.underlying27 h
  rw [c3] at hl
  match cs, hl with
  | [v0, v1, v2], _ =>
    simp [c0, c1, c2] at g0 g1 g2
    obtain ⟨k0, e0, f0, wk⟩ := DataW.trod_int Tryz.underlying25 g0
    obtain ⟨n0, e1, f1, wn⟩ := DataW.trod_int Tryz.underlying2 g1
    obtain ⟨s0, e2, f2, ws⟩ := DataW.trod_string Tryz.underlying9 g2
    simp at e0 e1 e2
    subst e0 e1 e2 hx f0 f1 f2
    refine ⟨(k0, n0, s0), rfl, ?_⟩
    simp [DataW.weights, DataW.weightsEach, Tryz.underlying27]
/-- A row, element by element. -/
theorem open_rowG {α : Type} [Inhabited α] {t e : TypeId} {sz : Nat} (ht : Tryz.prog.underlying t = some (.slice e)) (hc : Tryz.prog.cellsOf e = sz) (hsz : 0 < sz) (cells : α → List Value) (good : α → DataW H → Prop) (hcl : ∀ a, (cells a).length = sz)
    (one : ∀ fuel cs x, Trd enc W fuel e cs x → ∃ a, cs = cells a ∧ good a x.1) {fuel : Nat} {cs : List Value} {x : DataW H × List MemPlace} (h : Trd enc W fuel t cs x) :
    ∃ (ao : Option Addr) (l : List α) (c : Nat), cs = [.slice ao l.length c] ∧ Sl10 W.heap.size W l.length ao c (l.map cells).flatten ∧ ∀ a, a ∈ l → ∃ d, good a d ∧ ∀ m, m ∈ d.weights Tryz.prog e → m ∈ x.1.weights Tryz.prog t := by
  rcases Deep.open_slice ht h with ⟨hcs, _⟩ | ⟨a, len, cap, m, n, D, Pl, hcs, _, hl, hm, hmm, hx, hel⟩
  · exact ⟨none, [], 0, hcs, ⟨fun hne => absurd rfl hne, fun _ => ⟨rfl, rfl⟩, Nat.le_refl _, by unfold maxLen; omega⟩, fun a ha => by cases ha⟩
  · have hmc : m = cap := by rw [hmm]; rfl
    have each : ∀ i, i < len → ∃ q : α, good q (D i) ∧ ∀ j, j < sz → W.cell? ((a.add (i * sz)).add j) = (cells q)[j]? := by
      intro i hi
      obtain ⟨cs', h1, h2⟩ := hel i (by omega)
      rw [hc] at h1
      obtain ⟨_, _, hcell⟩ := World.cells?_some h1
      obtain ⟨q, rfl, hg⟩ := one _ _ _ h2
      exact ⟨q, hg, hcell⟩
    obtain ⟨q, hq⟩ := Deep.choose_lt each
    refine ⟨some a, (List.range len).map q, cap, by rw [hcs]; simp, ⟨?_, (fun e => by cases e), by simpa using hl, hm⟩, fun b hb => ?_⟩
    · have := slg_row (W := W) (a := a) (len := len) (fun i => cells (q i)) hsz (fun i _ => hcl _) (fun i hi j hj => (hq i hi).2 j hj)
      rw [List.map_map]
      exact this
    · obtain ⟨i, hi, rfl⟩ := List.mem_map.1 hb
      have hi' : i < len := by simpa using hi
      refine ⟨D i, (hq i hi').1, fun m' hm' => ?_⟩
      rw [hx]
      simp only [DataW.weights, ht]
      exact List.mem_cons_of_mem _ (List.mem_append_left _ (weighs_all (List.mem_map.2 ⟨i, by simpa using hi', rfl⟩) hm'))
theorem cellsV_flat (l : List V3) : (l.map threeV).flatten = cellsV l := by
  induction l with
  | nil => rfl
  | cons v l ih => rw [List.map_cons, List.flatten_cons, ih]; rfl
theorem cellsB_flat (l : List Bool) : (l.map fun b => [Value.bool b]).flatten = cellsB l := by
  induction l with
  | nil => rfl
  | cons v l ih => rw [List.map_cons, List.flatten_cons, ih]; rfl
def fiveA (a : A10) : List Value := .int .u8 a.kind :: .int .i64 a.var :: threeV a.val
theorem cellsA_flat (l : List A10) : (l.map fiveA).flatten = cellsA l := by
  induction l with
  | nil => rfl
  | cons v l ih => rw [List.map_cons, List.flatten_cons, ih]; rfl
instance : Inhabited A10 := ⟨⟨0, 0, 0, 0, ⟨#[]⟩⟩⟩
theorem open_vals {fuel : Nat} {cs : List Value} {x : DataW H × List MemPlace} (h : Trd enc W fuel 34 cs x) :
    ∃ (ao : Option Addr) (l : List V3) (c : Nat), cs = [.slice ao l.length c] ∧ Sl10 W.heap.size W l.length ao c (cellsV l) ∧ ∀ v, v ∈ l → v.2.2.size ∈ x.1.weights Tryz.prog 34 := by
  obtain ⟨ao, l, c, h1, h2, h3⟩ := open_rowG (sz := 3) Tryz.underlying34 (by kernel_rfl) (by decide) threeV (fun v d => v.2.2.size ∈ d.weights Tryz.prog 27) (fun _ => rfl) (fun fuel cs x h => open_v3 h) h
  rw [cellsV_flat] at h2
  refine ⟨ao, l, c, h1, h2, fun v hv => ?_⟩
  obtain ⟨d, hd, hm⟩ := h3 v hv
  exact hm _ hd
theorem open_bools {fuel : Nat} {cs : List Value} {x : DataW H × List MemPlace} (h : Trd enc W fuel 37 cs x) :
    ∃ (ao : Option Addr) (l : List Bool) (c : Nat), cs = [.slice ao l.length c] ∧ Sl10 W.heap.size W l.length ao c (cellsB l) := by
  obtain ⟨ao, l, c, h1, h2, -⟩ := open_rowG (sz := 1) Tryz.underlying37 (by kernel_rfl) (by decide) (fun b => [Value.bool b]) (fun _ _ => True) (fun _ => rfl) (fun fuel cs x h => by
    obtain ⟨b, hb, -⟩ := DataW.trod_bool Tryz.underlying4 h
    exact ⟨b, hb, trivial⟩) h
  rw [cellsB_flat] at h2
  exact ⟨ao, l, c, h1, h2⟩
theorem open_arg {fuel : Nat} {cs : List Value} {x : DataW H × List MemPlace} (h : Trd enc W fuel 64 cs x) : ∃ a : A10, cs = fiveA a ∧ In64 a.var := by
  have c0 : Tryz.prog.cellsOf 62 = 1 := by kernel_rfl
  have c1 : Tryz.prog.cellsOf 3 = 1 := by kernel_rfl
  have c2 : Tryz.prog.cellsOf 27 = 3 := by kernel_rfl
  have c3 : Tryz.prog.cellsOf 64 = 5 := by kernel_rfl
  obtain ⟨y0, y1, y2, k, hx, hl, g0, g1, g2⟩ := Deep.trod_struct3 Tryz.underlying64 h
  rw [c3] at hl
  match cs, hl with
  | [v0, v1, v2, v3, v4], _ =>
    simp [c0, c1, c2] at g0 g1 g2
    obtain ⟨k0, e0, f0, wk⟩ := DataW.trod_int Tryz.underlying62 g0
    obtain ⟨n0, e1, f1, wn⟩ := DataW.trod_int Tryz.underlying3 g1
    obtain ⟨v, e2, -⟩ := open_v3 g2
    simp at e0 e1
    subst e0 e1
    refine ⟨⟨k0, n0, v⟩, ?_, in64_of_wf wn⟩
    rw [e2]
    rfl
theorem open_args {fuel : Nat} {cs : List Value} {x : DataW H × List MemPlace} (h : Trd enc W fuel 23 cs x) :
    ∃ (ao : Option Addr) (l : List A10) (c : Nat), cs = [.slice ao l.length c] ∧ Sl10 W.heap.size W l.length ao c (cellsA l) ∧ ∀ a, a ∈ l → In64 a.var := by
  obtain ⟨ao, l, c, h1, h2, h3⟩ := open_rowG (sz := 5) Tryz.underlying23 (by kernel_rfl) (by decide) fiveA (fun a _ => In64 a.var) (fun _ => rfl) (fun fuel cs x h => open_arg h) h
  rw [cellsA_flat] at h2
  refine ⟨ao, l, c, h1, h2, fun v hv => ?_⟩
  obtain ⟨d, hd, -⟩ := h3 v hv
  exact hd
theorem open_fact {fuel : Nat} {cs : List Value} {x : DataW H × List MemPlace} (h : Trd enc W fuel 36 cs x) :
    ∃ (f : F10) (fo : Option Addr) (fc : Nat), cs = [.int .i64 f.id, .int .i64 f.type, .slice fo f.args.length fc] ∧ Sl10 W.heap.size W f.args.length fo fc (cellsV f.args) ∧ ∀ v, v ∈ f.args → v.2.2.size ∈ x.1.weights Tryz.prog 36 := by
  have c1 : Tryz.prog.cellsOf 3 = 1 := by kernel_rfl
  have c2 : Tryz.prog.cellsOf 34 = 1 := by kernel_rfl
  have c3 : Tryz.prog.cellsOf 36 = 3 := by kernel_rfl
  obtain ⟨y0, y1, y2, k, hx, hl, g0, g1, g2⟩ := Deep.trod_struct3 Tryz.underlying36 h
  rw [c3] at hl
  match cs, hl with
  | [v0, v1, v2], _ =>
    simp [c1, c2] at g0 g1 g2
    obtain ⟨k0, e0, f0, wk⟩ := DataW.trod_int Tryz.underlying3 g0
    obtain ⟨n0, e1, f1, wn⟩ := DataW.trod_int Tryz.underlying3 g1
    obtain ⟨fo, l, fc, e2, hs, hw⟩ := open_vals g2
    simp at e0 e1 e2
    subst e0 e1 e2 hx f0 f1
    refine ⟨⟨k0, n0, l⟩, fo, fc, rfl, hs, fun v hv => ?_⟩
    have := hw v hv
    simp [DataW.weights, DataW.weightsEach, Tryz.underlying36]
    exact this
theorem open_test {fuel : Nat} {cs : List Value} {x : DataW H × List MemPlace} (h : Trd enc W fuel 31 cs x) :
    ∃ (t : X) (xo : Option Addr) (xc : Nat), cs = [.int .u8 t.kind, .int .u8 t.vk, .int .i64 t.vn, .string t.vs, .int .i64 t.var, .int .u8 t.op, .slice xo t.kids.length xc] := by
  have c0 : Tryz.prog.cellsOf 24 = 1 := by kernel_rfl
  have c1 : Tryz.prog.cellsOf 27 = 3 := by kernel_rfl
  have c2 : Tryz.prog.cellsOf 3 = 1 := by kernel_rfl
  have c3 : Tryz.prog.cellsOf 28 = 1 := by kernel_rfl
  have c4 : Tryz.prog.cellsOf 29 = 1 := by kernel_rfl
  have c5 : Tryz.prog.cellsOf 31 = 7 := by kernel_rfl
  obtain ⟨xs, n, rfl, rfl, hl, hlen, hf⟩ := DataW.trod_struct Tryz.underlying31 h
  rw [c5] at hl
  match cs, hl, xs, hlen with
  | [v0, v1, v2, v3, v4, v5, v6], _, [y0, y1, y2, y3, y4], _ =>
    have g0 := hf 0 _ rfl
    have g1 := hf 1 _ rfl
    have g2 := hf 2 _ rfl
    have g3 := hf 3 _ rfl
    have g4 := hf 4 _ rfl
    simp [c0, c1, c2, c3, c4] at g0 g1 g2 g3 g4
    obtain ⟨v, ev, -⟩ := open_v3 g1
    obtain ⟨k0, e0, _, wk⟩ := DataW.trod_int Tryz.underlying24 g0
    obtain ⟨i0, e4, _, wi⟩ := DataW.trod_int Tryz.underlying3 g2
    obtain ⟨o0, e5, _, wo⟩ := DataW.trod_int Tryz.underlying28 g3
    simp [threeV] at e0 ev e4 e5
    obtain ⟨e1, e2, e3⟩ := ev
    subst e0 e1 e2 e3 e4 e5
    rcases DataW.trod_slice Tryz.underlying29 g4 with ⟨e6, _⟩ | ⟨a, len, cap, elems, rest, n', hn, e6, _⟩
    · simp at e6
      subst e6
      exact ⟨.mk k0 v.1 v.2.1 v.2.2 i0 o0 [], none, 0, rfl⟩
    · simp at e6
      subst e6
      exact ⟨.mk k0 v.1 v.2.1 v.2.2 i0 o0 (List.replicate len (.mk 0 0 0 ⟨#[]⟩ 0 0 [])), some a, cap, by simp [X.kind, X.vk, X.vn, X.vs, X.var, X.op, X.kids]⟩
theorem open_cond {fuel : Nat} {cs : List Value} {x : DataW H × List MemPlace} (h : Trd enc W fuel 33 cs x) :
    ∃ (c : C10) (ao : Option Addr) (ac : Nat) (xo : Option Addr) (xc : Nat), cs = (cellsC c ao ac xo xc).toList ∧ Sl10 W.heap.size W c.args.length ao ac (cellsA c.args) ∧ ∀ a, a ∈ c.args → In64 a.var := by
  have c0 : Tryz.prog.cellsOf 22 = 1 := by kernel_rfl
  have c1 : Tryz.prog.cellsOf 3 = 1 := by kernel_rfl
  have c2 : Tryz.prog.cellsOf 23 = 1 := by kernel_rfl
  have c3 : Tryz.prog.cellsOf 31 = 7 := by kernel_rfl
  have c4 : Tryz.prog.cellsOf 33 = 10 := by kernel_rfl
  obtain ⟨xs, n, rfl, rfl, hl, hlen, hf⟩ := DataW.trod_struct Tryz.underlying33 h
  rw [c4] at hl
  match cs, hl, xs, hlen with
  | [v0, v1, v2, v3, v4, v5, v6, v7, v8, v9], _, [y0, y1, y2, y3], _ =>
    have g0 := hf 0 _ rfl
    have g1 := hf 1 _ rfl
    have g2 := hf 2 _ rfl
    have g3 := hf 3 _ rfl
    simp [c0, c1, c2, c3] at g0 g1 g2 g3
    obtain ⟨k0, e0, _, wk⟩ := DataW.trod_int Tryz.underlying22 g0
    obtain ⟨i0, e1, _, wi⟩ := DataW.trod_int Tryz.underlying3 g1
    obtain ⟨ao, l, ac, e2, hs, hv⟩ := open_args g2
    obtain ⟨t, xo, xc, e3⟩ := open_test g3
    simp at e0 e1 e2
    subst e0 e1 e2
    refine ⟨⟨k0, i0, l, t⟩, ao, ac, xo, xc, ?_, hs, hv⟩
    rw [e3]
end
end Go.Proofs.YtnnhgbncghpecaaGreat
