/- What came in: rows of steps; how long its texts may be. -/
import Derived.Test.YtajhngkdnkbfcaaMemOf11
import Derived.ProofKit
import Derived.OpenShut
import Derived.ChangeArms
import Derived.ChangeMaps5
import Derived.Deep.Slices
import Derived.Deep.Strs
import Derived.Lib.SmallJoins
namespace Go.Proofs.Ytajhngkdnkbfcaa
open Go.ChangeShapes Go.WideShapes Go.ChangeAt Go.RowKit Go.Joins

theorem flat_row (f : Nat → List Value) (sz : Nat) : ∀ (len : Nat), (∀ i, i < len → (f i).length = sz) → ((List.range len).map f).flatten.length = len * sz ∧ ∀ i r, i < len → r < sz → ((List.range len).map f).flatten[i * sz + r]? = (f i)[r]? := by
  intro len
  induction len with
  | zero => exact fun _ => ⟨by simp, fun i r hi => absurd hi (Nat.not_lt_zero _)⟩
  | succ len ih =>
    intro hl
    obtain ⟨h1, h2⟩ := ih fun i hi => hl i (by omega)
    have e : ((List.range (len + 1)).map f).flatten = ((List.range len).map f).flatten ++ f len := by simp [List.range_succ]
    rw [e]
    refine ⟨by rw [List.length_append, h1, hl len (by omega), Nat.succ_mul], fun i r hi hr => ?_⟩
    by_cases hil : i < len
    · have hle : (i + 1) * sz ≤ len * sz := Nat.mul_le_mul_right _ hil
      rw [Nat.succ_mul] at hle
      rw [List.getElem?_append_left (by rw [h1]; omega)]
      exact h2 i r hil hr
    · obtain rfl : i = len := by omega
      rw [List.getElem?_append_right (by rw [h1]; omega), h1]
      congr 1
      omega
theorem slg_row {W : World} {a : Addr} {len sz : Nat} (f : Nat → List Value) (hsz : 0 < sz) (hl : ∀ i, i < len → (f i).length = sz) (hc : ∀ i, i < len → ∀ j, j < sz → W.cell? ((a.add (i * sz)).add j) = (f i)[j]?) : SlG W.heap.size W (some a) ((List.range len).map f).flatten := by
  intro hne
  obtain ⟨h1, h2⟩ := flat_row f sz len hl
  have hlen : 0 < len := by
    rcases Nat.eq_zero_or_pos len with h | h
    · subst h; exact absurd rfl hne
    · exact h
  have hcell : ∀ (j : Nat) (u : Value), ((List.range len).map f).flatten[j]? = some u → W.cell? (a.add j) = some u := fun j u hu => by
    have hj := (List.getElem?_eq_some_iff.1 hu).1
    rw [h1] at hj
    have hi : j / sz < len := Nat.div_lt_of_lt_mul (by rw [Nat.mul_comm]; exact hj)
    have hr : j % sz < sz := Nat.mod_lt _ hsz
    have e : j / sz * sz + j % sz = j := Nat.div_add_mod' j sz
    have q := hc (j / sz) hi (j % sz) hr
    rw [Deep.add_add, e] at q
    rw [q, ← h2 _ _ hi hr, e]
    exact hu
  obtain ⟨u, hu⟩ : ∃ u, ((List.range len).map f).flatten[0]? = some u := by
    cases hz : ((List.range len).map f).flatten with
    | nil => exact absurd hz hne
    | cons u l => exact ⟨u, rfl⟩
  have h0 := hcell 0 u hu
  obtain ⟨b, off, path⟩ := a
  have hp : path = none := by
    cases path with
    | none => rfl
    | some z => exfalso; revert h0; simp only [Addr.add, World.cell?]; split <;> simp
  subst hp
  refine ⟨b, off, rfl, ?_, fun j u hu => ?_⟩
  · apply Classical.byContradiction
    intro hn
    have hnone : W.heap[b]? = none := Array.getElem?_eq_none (by omega)
    revert h0
    simp [Addr.add, World.cell?, hnone]
  · have := hcell j u hu
    rwa [Addr.add_lit] at this
/-- What is weighed. -/
theorem weighs_all {H : Type} {P : Program} {e : TypeId} {l : List (DataW H)} {d : DataW H} (hd : d ∈ l) {m : Nat} (hm : m ∈ d.weights P e) : m ∈ DataW.weightsAll P e l := by
  induction l with
  | nil => cases hd
  | cons x l ih =>
    rw [DataW.weightsAll, List.mem_append]
    rcases List.mem_cons.1 hd with rfl | h
    · exact Or.inl hm
    · exact Or.inr (ih h)
section
variable {H : Type} {enc : TypeId × Value → H} {W : World}
abbrev Trd (enc : TypeId × Value → H) (W : World) (fuel : Nat) (t : TypeId) (cs : List Value) (x : DataW H × List MemPlace) : Prop := DataW.trod enc Try.prog W 0 (fun _ => true) true fuel t cs = some x
def threeV (v : V3) : List Value := [.int .u8 v.1, .int .i64 v.2.1, .string v.2.2]
theorem open_v3 {fuel : Nat} {cs : List Value} {x : DataW H × List MemPlace} (h : Trd enc W fuel 33 cs x) : ∃ v : V3, cs = threeV v ∧ v.2.2.size ∈ x.1.weights Try.prog 33 := by
  have c0 : Try.prog.cellsOf 31 = 1 := by kernel_rfl
  have c1 : Try.prog.cellsOf 2 = 1 := by kernel_rfl
  have c2 : Try.prog.cellsOf 9 = 1 := by kernel_rfl
  have c3 : Try.prog.cellsOf 33 = 3 := by kernel_rfl
  obtain ⟨y0, y1, y2, k, hx, hl, g0, g1, g2⟩ := Deep.trod_struct3 Try.underlying33 h
  rw [c3] at hl
  match cs, hl with
  | [v0, v1, v2], _ =>
    simp [c0, c1, c2] at g0 g1 g2
    obtain ⟨k0, e0, f0, wk⟩ := DataW.trod_int Try.underlying31 g0
    obtain ⟨n0, e1, f1, wn⟩ := DataW.trod_int Try.underlying2 g1
    obtain ⟨s0, e2, f2, ws⟩ := DataW.trod_string Try.underlying9 g2
    simp at e0 e1 e2
    subst e0 e1 e2 hx f0 f1 f2
    refine ⟨(k0, n0, s0), rfl, ?_⟩
    simp [DataW.weights, DataW.weightsEach, Try.underlying33]
/-- A row, element by element. -/
theorem open_rowG {α : Type} [Inhabited α] {t e : TypeId} {sz : Nat} (ht : Try.prog.underlying t = some (.slice e)) (hc : Try.prog.cellsOf e = sz) (hsz : 0 < sz) (cells : α → List Value) (good : α → DataW H → Prop) (hcl : ∀ a, (cells a).length = sz)
    (one : ∀ fuel cs x, Trd enc W fuel e cs x → ∃ a, cs = cells a ∧ good a x.1) {fuel : Nat} {cs : List Value} {x : DataW H × List MemPlace} (h : Trd enc W fuel t cs x) :
    ∃ (ao : Option Addr) (l : List α) (c : Nat), cs = [.slice ao l.length c] ∧ Sl10 W.heap.size W l.length ao c (l.map cells).flatten ∧ ∀ a, a ∈ l → ∃ d, good a d ∧ ∀ m, m ∈ d.weights Try.prog e → m ∈ x.1.weights Try.prog t := by
  rcases Deep.open_slice ht h with ⟨hcs, _⟩ | ⟨a, len, cap, m, n, D, Pl, hcs, _, hl, hm, hmm, hx, hel⟩
  · exact ⟨none, [], 0, hcs, ⟨fun hne => absurd rfl hne, fun _ => ⟨rfl, rfl⟩, Nat.le_refl _, by unfold maxLen; omega⟩, fun a ha => by cases ha⟩
  · have hmc : m = cap := by rw [hmm]; rfl
    have each : ∀ i, i < len → ∃ q : α, good q (D i) ∧ ∀ j, j < sz → W.cell? ((a.add (i * sz)).add j) = (cells q)[j]? := by
      intro i hi
      obtain ⟨cs', h1, h2⟩ := hel i (by omega)
      rw [hc] at h1
      obtain ⟨_, _, hcell⟩ := World.cells?_some h1
      obtain ⟨q, rfl, hg⟩ := one _ _ _ h2
      exact ⟨q, hg, hcell⟩
    obtain ⟨q, hq⟩ := Deep.choose_lt each
    refine ⟨some a, (List.range len).map q, cap, by rw [hcs]; simp, ⟨?_, (fun e => by cases e), by simpa using hl, hm⟩, fun b hb => ?_⟩
    · have := slg_row (W := W) (a := a) (len := len) (fun i => cells (q i)) hsz (fun i _ => hcl _) (fun i hi j hj => (hq i hi).2 j hj)
      rw [List.map_map]
      exact this
    · obtain ⟨i, hi, rfl⟩ := List.mem_map.1 hb
      have hi' : i < len := by simpa using hi
      refine ⟨D i, (hq i hi').1, fun m' hm' => ?_⟩
      rw [hx]
      simp only [DataW.weights, ht]
      exact List.mem_cons_of_mem _ (List.mem_append_left _ (weighs_all (List.mem_map.2 ⟨i, by simpa using hi', rfl⟩) hm'))
theorem cellsV_flat (l : List V3) : (l.map threeV).flatten = cellsV l := by
  induction l with
  | nil => rfl
  | cons v l ih => rw [List.map_cons, List.flatten_cons, ih]; rfl
theorem open_vals {fuel : Nat} {cs : List Value} {x : DataW H × List MemPlace} (h : Trd enc W fuel 35 cs x) :
    ∃ (ao : Option Addr) (l : List V3) (c : Nat), cs = [.slice ao l.length c] ∧ Sl10 W.heap.size W l.length ao c (cellsV l) ∧ ∀ v, v ∈ l → v.2.2.size ∈ x.1.weights Try.prog 35 := by
  obtain ⟨ao, l, c, h1, h2, h3⟩ := open_rowG (sz := 3) Try.underlying35 (by kernel_rfl) (by decide) threeV (fun v d => v.2.2.size ∈ d.weights Try.prog 33) (fun _ => rfl) (fun fuel cs x h => open_v3 h) h
  rw [cellsV_flat] at h2
  refine ⟨ao, l, c, h1, h2, fun v hv => ?_⟩
  obtain ⟨d, hd, hm⟩ := h3 v hv
  exact hm _ hd
instance : Inhabited (D11 × Value) := ⟨(default, .slice none 0 0)⟩
theorem open_do {fuel : Nat} {cs : List Value} {x : DataW H × List MemPlace} (h : Trd enc W fuel 51 cs x) :
    ∃ (f : D11) (fo : Option Addr) (fc : Nat), cs = [.int .i64 f.op, .int .i64 f.id, .int .i64 f.kind, .slice fo f.args.length fc] ∧ Sl10 W.heap.size W f.args.length fo fc (cellsV f.args) ∧ ∀ v, v ∈ f.args → v.2.2.size ∈ x.1.weights Try.prog 51 := by
  have c1 : Try.prog.cellsOf 3 = 1 := by kernel_rfl
  have c2 : Try.prog.cellsOf 35 = 1 := by kernel_rfl
  have c3 : Try.prog.cellsOf 51 = 4 := by kernel_rfl
  obtain ⟨y0, y1, y2, y3, k, hx, hl, g0, g1, g2, g3⟩ := trod_struct4 Try.underlying51 h
  rw [c3] at hl
  match cs, hl with
  | [v0, v1, v2, v3], _ =>
    simp [c1, c2] at g0 g1 g2 g3
    obtain ⟨k0, e0, f0, wk⟩ := DataW.trod_int Try.underlying3 g0
    obtain ⟨n0, e1, f1, wn⟩ := DataW.trod_int Try.underlying3 g1
    obtain ⟨m0, e2, f2, wm⟩ := DataW.trod_int Try.underlying3 g2
    obtain ⟨fo, l, fc, e3, hs, hw⟩ := open_vals g3
    simp at e0 e1 e2 e3
    subst e0 e1 e2 e3 hx f0 f1 f2
    refine ⟨⟨k0, n0, m0, l⟩, fo, fc, rfl, hs, fun v hv => ?_⟩
    have := hw v hv
    simp [DataW.weights, DataW.weightsEach, Try.underlying51]
    exact this
theorem cells4_flat (l : List (D11 × Value)) : (l.map fun p => [Value.int .i64 p.1.op, .int .i64 p.1.id, .int .i64 p.1.kind, p.2]).flatten = cells4 l := by
  induction l with
  | nil => rfl
  | cons v l ih => rw [List.map_cons, List.flatten_cons, ih]; rfl
theorem open_dos {fuel : Nat} {cs : List Value} {x : DataW H × List MemPlace} (h : Trd enc W fuel 48 cs x) (hw : ∀ m, m ∈ x.1.weights Try.prog 48 → m ≤ 140737488355328) :
    ∃ (ao : Option Addr) (l : List D11) (c : Nat), cs = [.slice ao l.length c] ∧ DRow W.heap.size W l ao c := by
  obtain ⟨ao, l, c, h1, h2, h3⟩ := open_rowG (sz := 4) Try.underlying48 (by kernel_rfl) (by decide) (fun p : D11 × Value => [Value.int .i64 p.1.op, .int .i64 p.1.id, .int .i64 p.1.kind, p.2])
    (fun p d => (∃ a c, p.2 = .slice a p.1.args.length c ∧ Sl10 W.heap.size W p.1.args.length a c (cellsV p.1.args)) ∧ ∀ v ∈ p.1.args, v.2.2.size ∈ d.weights Try.prog 51) (fun _ => rfl) (fun fuel cs x h => by
    obtain ⟨f, fo, fc, e, s, hx⟩ := open_do h
    exact ⟨(f, .slice fo f.args.length fc), e, ⟨fo, fc, rfl, s⟩, hx⟩) h
  rw [cells4_flat] at h2
  have hl : (l.map Prod.fst).length = l.length := by simp
  refine ⟨ao, l.map Prod.fst, c, by rw [hl]; exact h1, l, rfl, by rw [hl]; exact h2, fun p hp => ?_⟩
  obtain ⟨d, ⟨hd, hv⟩, hm⟩ := h3 p hp
  exact ⟨hd, fun v hvm => hw _ (hm _ (hv v hvm))⟩
end
end Go.Proofs.Ytajhngkdnkbfcaa
