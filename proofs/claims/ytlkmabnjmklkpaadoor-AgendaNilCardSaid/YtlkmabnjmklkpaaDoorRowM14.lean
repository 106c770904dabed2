/- Rows of the program's matches, as they lie in memory; slices.SortFunc of such a row. -/
import Derived.Test.YtlkmabnjmklkpaaDoorSortB14
import Derived.Test.YtlkmabnjmklkpaaDoorHold14
namespace Go.Proofs.YtlkmabnjmklkpaaDoor
open Go.RowKit Go.Sort Go.Lib

/-- The cells of a match, of a row of them. -/
def mrow (p : MV) : List Value := [.int .i64 p.1.1, .slice p.2.1.1 p.1.2.length p.2.1.2, .slice p.2.2.1 p.1.2.length p.2.2.2]
def mcells : List MV → List Value
  | [] => []
  | p :: l => .int .i64 p.1.1 :: .slice p.2.1.1 p.1.2.length p.2.1.2 :: .slice p.2.2.1 p.1.2.length p.2.2.2 :: mcells l
theorem mcells_append (l m : List MV) : mcells (l ++ m) = mcells l ++ mcells m := by
  induction l with
  | nil => rfl
  | cons x l ih => simp only [mcells, List.cons_append, ih]
theorem mcells_length (l : List MV) : (mcells l).length = l.length * 3 := by
  induction l with
  | nil => rfl
  | cons x l ih => simp only [mcells, List.length_cons, ih]; omega
theorem mcells_one (l : List MV) : ∀ u ∈ mcells l, u.oneCell' = true := by
  induction l with
  | nil => intro u hu; cases hu
  | cons x l ih =>
    intro u hu
    simp only [mcells, List.mem_cons] at hu
    rcases hu with rfl | rfl | rfl | hu
    · rfl
    · rfl
    · rfl
    · exact ih u hu
theorem mcells_at (l : List MV) : ∀ (i : Nat) (h : i < l.length), (mcells l)[i * 3]? = some (.int .i64 (l[i]).1.1) ∧ (mcells l)[i * 3 + 1]? = some (.slice (l[i]).2.1.1 (l[i]).1.2.length (l[i]).2.1.2) ∧ (mcells l)[i * 3 + 2]? = some (.slice (l[i]).2.2.1 (l[i]).1.2.length (l[i]).2.2.2) := by
  induction l with
  | nil => intro i h; cases h
  | cons x l ih =>
    intro i h
    cases i with
    | zero => exact ⟨rfl, rfl, rfl⟩
    | succ i =>
      rw [show (i + 1) * 3 = i * 3 + 1 + 1 + 1 by omega]
      exact ih i (by simpa using h)

/-- A slice whose row, if it has one, lies at a block of S. -/
def SlS (S : Nat → Prop) (w : World) (ao : Option Addr) (cs : List Value) : Prop := cs ≠ [] → ∃ sb off, ao = some ⟨sb, off, none⟩ ∧ S sb ∧ sb < w.heap.size ∧ ∀ (j : Nat) (u : Value), cs[j]? = some u → w.cell? ⟨sb, off + j, none⟩ = some u
theorem cell_heap {w w' : World} {b o : Nat} (h : w'.heap[b]? = w.heap[b]?) : w'.cell? ⟨b, o, none⟩ = w.cell? ⟨b, o, none⟩ := by
  simp only [World.cell?, h]
theorem SlS.touch {S T : Nat → Prop} {w w' : World} {ao : Option Addr} {cs : List Value} (h : SlS S w ao cs) (t : Touch T w w') (hd : ∀ b, S b → ¬ T b) : SlS S w' ao cs := fun hn => by
  obtain ⟨sb, off, e, hs, lt, hc⟩ := h hn
  exact ⟨sb, off, e, hs, Nat.lt_of_lt_of_le lt t.size, fun j u hu => (cell_heap (t.block sb lt (hd sb hs))).trans (hc j u hu)⟩
theorem SlS.slG {S : Nat → Prop} {w : World} {ao : Option Addr} {cs : List Value} (h : SlS S w ao cs) : SlG w.heap.size w ao cs := fun hn => by
  obtain ⟨sb, off, e, _, lt, hc⟩ := h hn
  exact ⟨sb, off, e, lt, hc⟩
theorem SlS.mono {S T : Nat → Prop} {w : World} {ao : Option Addr} {cs : List Value} (h : SlS S w ao cs) (hs : ∀ b, S b → T b) : SlS T w ao cs := fun hn => by
  obtain ⟨sb, off, e, hS, lt, hc⟩ := h hn
  exact ⟨sb, off, e, hs _ hS, lt, hc⟩
/-- A match of the program's whose rows lie at blocks of S. -/
structure MvS (S : Nat → Prop) (w : World) (p : MV) : Prop where
  ids : SlS S w p.2.1.1 (icells p.1.2)
  srt : SlS S w p.2.2.1 (icells (falling14 p.1.2))
  nil : p.2.1.1 = none → p.2.1.2 = 0
  cap : p.1.2.length ≤ p.2.1.2
theorem MvS.touch {S T : Nat → Prop} {w w' : World} {p : MV} (h : MvS S w p) (t : Touch T w w') (hd : ∀ b, S b → ¬ T b) : MvS S w' p := ⟨h.ids.touch t hd, h.srt.touch t hd, h.nil, h.cap⟩
theorem MvS.mono {S T : Nat → Prop} {w : World} {p : MV} (h : MvS S w p) (hs : ∀ b, S b → T b) : MvS T w p := ⟨h.ids.mono hs, h.srt.mono hs, h.nil, h.cap⟩
theorem MvS.mt {S : Nat → Prop} {w : World} {p : MV} (h : MvS S w p) : Mt w.heap.size w p.1 p.2.1.1 p.2.2.1 := ⟨h.ids.slG, h.srt.slG⟩

/-- The matches that may stand in the row at block g. -/
abbrev OkM (w : World) (g : Nat) := {p : MV // MvS (fun b => b ≠ g) w p ∧ p.1.2.length ≤ 1000000}
instance okM_some (w : World) (g : Nat) : Inhabited (OkM w g) := ⟨⟨((0, []), (none, 0), (none, 0)), ⟨fun h => absurd rfl h, fun h => absurd rfl h, fun _ => rfl, Nat.le_refl _⟩, by simp⟩⟩

theorem flat_cells {α : Type} [Inhabited α] (f : α → MV) (d : Array α) : (flatK (enc3 f) 3 d).toList = mcells (d.toList.map f) := by
  have hl : (flatK (enc3 f) 3 d).toList.length = (mcells (d.toList.map f)).length := by rw [mcells_length]; simp
  refine List.ext_getElem? fun t => ?_
  by_cases ht : t < d.size * 3
  · have h1 : t / 3 < d.size := by omega
    have hd : d[t / 3]! = d[t / 3] := getElem!_pos d (t / 3) h1
    have e1 : (flatK (enc3 f) 3 d).toList[t]? = some ((enc3 f d[t / 3])[t % 3]!) := by
      have h2 := get_flatK (enc3 f) 3 d t ht
      have hs : t < (flatK (enc3 f) 3 d).size := by rw [size_flatK]; exact ht
      rw [getElem!_pos _ t hs, hd] at h2
      rw [Array.getElem?_toList, Array.getElem?_eq_getElem hs, h2]
    have h3 : t / 3 < (d.toList.map f).length := by simpa using h1
    obtain ⟨c0, c1, c2⟩ := mcells_at (d.toList.map f) (t / 3) h3
    have hg : (d.toList.map f)[t / 3] = f d[t / 3] := by simp
    rw [hg] at c0 c1 c2
    have hm : t % 3 = 0 ∨ t % 3 = 1 ∨ t % 3 = 2 := by omega
    rcases hm with hm | hm | hm
    · rw [e1, hm]
      have : t = t / 3 * 3 := by omega
      rw [show (mcells (d.toList.map f))[t]? = (mcells (d.toList.map f))[t / 3 * 3]? by rw [← this], c0]
      rfl
    · rw [e1, hm]
      have : t = t / 3 * 3 + 1 := by omega
      rw [show (mcells (d.toList.map f))[t]? = (mcells (d.toList.map f))[t / 3 * 3 + 1]? by rw [← this], c1]
      rfl
    · rw [e1, hm]
      have : t = t / 3 * 3 + 2 := by omega
      rw [show (mcells (d.toList.map f))[t]? = (mcells (d.toList.map f))[t / 3 * 3 + 2]? by rw [← this], c2]
      rfl
  · rw [List.getElem?_eq_none (by rw [Array.length_toList, size_flatK]; omega), List.getElem?_eq_none (by rw [mcells_length]; simp; omega)]

/-- A row sorted by the order: each one stands not behind the next ones. -/
def Srt14 (s : List Int) (l : List MV) : Prop := l.Pairwise fun x y => better14 s y.1 x.1 = false
/-- What slices.SortFunc does to rows of N matches at most. -/
def SortsM (N : Nat) : Prop := ∀ (s : List Int) (so ao : Option Addr) (sc cap base : Nat) (ps : List MV) (w : World), ps.length ≤ N → w.ownsRow base 59 3 (.slice ao ps.length cap) ps.length (mcells ps) →
  (∀ g, ao = some ⟨g, 0, none⟩ → SlS (fun b => b ≠ g) w so (icells s) ∧ ∀ p, p ∈ ps → MvS (fun b => b ≠ g) w p ∧ p.1.2.length ≤ 1000000) →
  Calls Tryd.prog 32 #[.slice ao ps.length cap, .func (.func 28) #[aggO so s.length sc] #[]] w fun e w' => e = .returned (.tuple #[]) ∧ ∃ qs, qs.Perm ps ∧ Srt14 s qs ∧ w'.ownsRow base 59 3 (.slice ao ps.length cap) ps.length (mcells qs) ∧ w.grownBy w' (Value.slice ao ps.length cap).ownBlock

theorem swo14 {α : Type} (s : List Int) (f : α → MV) : SWO (ltOf fun x y : α => cmp14 s (f x).1 (f y).1) := by
  have hl : ∀ x y : α, ltOf (fun x y : α => cmp14 s (f x).1 (f y).1) x y = better14 s (f x).1 (f y).1 := fun x y => cmp14_lt s _ _
  refine ⟨fun x => by rw [hl]; exact better_irr s _, fun x y z h1 h2 => by rw [hl] at *; exact better_trans s _ _ _ h1 h2, fun x y z h1 h2 => ?_⟩
  rw [hl] at *
  cases h3 : better14 s (f x).1 (f z).1 with
  | false => rfl
  | true =>
    by_cases hxy : (f x).1 = (f y).1
    · rw [hxy] at h3; rw [h3] at h2; cases h2
    · have h4 := better_tot s _ _ hxy
      rw [h1] at h4
      have h5 : better14 s (f y).1 (f x).1 = true := by simpa using h4.symm
      have := better_trans s _ _ _ h5 h3
      rw [this] at h2
      cases h2

theorem heap_rowG {α : Type} [Inhabited α] (enc : α → Value) {w : World} {g n : Nat} {os : Array Obj} {cur : Array Value} {e : TypeId} {fr : Nat × Nat} (d : Array α) (hb : w.heap[g]? = some (.cells cur e fr)) :
    (grow (putRow enc (Sort.ahead w n) g 0 d) os).heap[g]? = some (.cells (putCells enc 0 d cur) e fr) := by
  have hg : g < w.heap.size := (Array.getElem?_eq_some_iff.1 hb).1
  rw [Sort.heap_grow_old _ _ (by simpa using hg)]
  simp [putRow, mapBlock, Sort.ahead, Array.getElem?_modify, hb, onCells]
theorem grownBy_rowG {α : Type} [Inhabited α] (enc : α → Value) {w : World} {g n : Nat} {os : Array Obj} (d : Array α) : w.grownBy (grow (putRow enc (Sort.ahead w n) g 0 d) os) (some g) := by
  refine ⟨rfl, rfl, rfl, by simp, fun k hk hne => ?_⟩
  rw [Sort.heap_grow_old _ _ (by simpa using hk)]
  have : g ≠ k := fun e => hne (by rw [e])
  simp [putRow, mapBlock, Sort.ahead, Array.getElem?_modify, this]
theorem take_rowG (cur F : Array Value) (h : F.size ≤ cur.size) : (putCells id 0 F cur).toList.take F.size = F.toList := by
  apply List.ext_getElem?
  intro j
  by_cases hj : j < F.size
  · rw [List.getElem?_take_of_lt hj, Array.getElem?_toList]
    simp [putCells, hj, show j < cur.size by omega]
  · rw [List.getElem?_take_eq_none (by omega), List.getElem?_eq_none (by simp; omega)]

theorem sorts_small : SortsM 12 := by
  intro s so ao sc cap base ps w hn ho hok
  rcases ho.2 with ⟨h1, h2⟩ | ⟨g, cap', cur, h1, hb, hg, hnc, hcap, hcs, htk⟩
  · simp only [Value.slice.injEq] at h1
    obtain ⟨rfl, _, rfl⟩ := h1
    obtain rfl : ps = [] := List.eq_nil_of_length_eq_zero h2
    refine (sortFunc_small none 0 0 _ w (by omega) (fun w' => w' = w) (insM_none none 0 _ w)).mono ?_
    rintro e w' ⟨rfl, rfl⟩
    exact ⟨rfl, [], List.Perm.refl _, List.Pairwise.nil, ho, World.grownBy.refl _ _⟩
  · simp only [Value.slice.injEq] at h1
    obtain ⟨rfl, _, rfl⟩ := h1
    obtain ⟨hso, hps⟩ := hok g rfl
    let f : OkM w g → MV := Subtype.val
    let d : Array (OkM w g) := (ps.attach.map fun p => (⟨p.1, hps p.1 p.2⟩ : OkM w g)).toArray
    have hdl : d.toList.map f = ps := by
      simp only [d, f, List.map_map]
      exact List.attach_map_subtype_val ps
    have hds : d.size = ps.length := by simp [d]
    have hlt := lt_of_heap hg
    have hfl : (flatK (enc3 f) 3 d).toList = mcells ps := by rw [flat_cells, hdl]
    have hH : HoldsK (enc3 f) 3 w g 0 d := by
      intro j hj
      rw [size_flatK, hds] at hj
      have hjl : j < (mcells ps).length := by rw [mcells_length]; exact hj
      have hv : (flatK (enc3 f) 3 d)[j]! = (mcells ps)[j] := by
        have hs : j < (flatK (enc3 f) 3 d).size := by rw [size_flatK, hds]; exact hj
        rw [getElem!_pos _ j hs]
        have := List.getElem_of_eq hfl (i := j) (by simpa using hs)
        rw [← this]
        simp
      refine ⟨?_, by simp [World.frozen?, hg]⟩
      rw [hv, Nat.zero_add]
      have := ho.cells (g := g) rfl j _ (List.getElem?_eq_getElem hjl)
      rwa [Addr.add_lit, Nat.zero_add] at this
    have R : RowK (enc3 f) 3 w g 0 d := ⟨fun _ => rfl, fun x v hv => by
      simp only [enc3, List.mem_cons, List.not_mem_nil, or_false] at hv
      rcases hv with rfl | rfl | rfl <;> rfl, hH, hlt⟩
    have hC : CmpM f (aggO so s.length sc) (fun x y => cmp14 s (f x).1 (f y).1) g ps.length w := fun W dk _ hW x y => by
      obtain ⟨m, os, rfl⟩ := hW
      have hgr : w.grownBy (sortWorldK (enc3 f) 3 w g 0 m dk os) (some g) := grownBy_rowG id _
      have ht : Touch (fun b => b = g) w (sortWorldK (enc3 f) 3 w g 0 m dk os) := (Touch.refl _ w).grown hgr (fun q hq => Or.inl (Option.some.inj hq).symm)
      have hx := x.2.1.touch ht (fun b hb => hb)
      have hy := y.2.1.touch ht (fun b hb => hb)
      have hs := hso.touch ht (fun b hb => hb)
      exact compare_any s x.1.1 y.1.1 so x.1.2.1.1 x.1.2.2.1 y.1.2.1.1 y.1.2.2.1 sc x.1.2.1.2 x.1.2.2.2 y.1.2.1.2 y.1.2.2.2 (Nat.le_trans x.2.2 (by omega)) (Nat.le_trans y.2.2 (by omega)) _ hs.slG hx.mt hy.mt
    have hI := insM_any f (aggO so s.length sc) (fun x y => cmp14 s (f x).1 (f y).1) g cap ps.length 0 ps.length d d w w R hds hds (Nat.zero_le _) (Nat.le_refl _) (by omega) hC (SWK.start hH)
    refine (sortFunc_small _ ps.length cap _ w hn _ hI).mono ?_
    rintro e w' ⟨rfl, m, os, rfl⟩
    obtain ⟨hp, hsrt⟩ := insertionSort_holds (swo14 s f) d 0 ps.length (Nat.zero_le _) (by rw [hds]; exact Nat.le_refl _)
    generalize insertionSort (ltOf fun x y => cmp14 s (f x).1 (f y).1) d 0 ps.length = d' at hp hsrt
    have hds' : d'.size = ps.length := hp.1.trans hds
    have hperm : d'.toList.Perm d.toList := by
      have := hp.2.2
      rw [show d'.extract 0 ps.length = d' by rw [← hds']; exact Array.extract_size, show d.extract 0 ps.length = d by rw [← hds]; exact Array.extract_size] at this
      exact this
    have hfl' : (flatK (enc3 f) 3 d').toList = mcells (d'.toList.map f) := flat_cells f d'
    have hql : (d'.toList.map f).length = ps.length := by simp [hds']
    refine ⟨rfl, d'.toList.map f, by rw [← hdl]; exact hperm.map f, ?_, ?_, grownBy_rowG id _⟩
    · rw [Srt14, List.pairwise_map, List.pairwise_iff_getElem]
      intro i j hi hj hij
      have h := hsrt i j (Nat.zero_le _) hij (by simpa [hds'] using hj)
      rw [getElem!_pos d' i (by simpa using hi), getElem!_pos d' j (by simpa using hj)] at h
      have e : ltOf (cmp14 s) (f d'[j]).1 (f d'[i]).1 = false := h
      rw [cmp14_lt] at e
      simpa using e
    · refine ⟨by rw [mcells_length, hql], .inr ⟨g, cap, _, rfl, hb, heap_rowG id _ hg, hnc, hcap, by simp [putCells, hcs], ?_⟩⟩
      have hFs : (flatK (enc3 f) 3 d').size = ps.length * 3 := by rw [size_flatK, hds']
      rw [← hFs, ← hfl']
      exact take_rowG cur _ (by rw [hFs, hcs]; exact Nat.mul_le_mul_right _ hnc)
end Go.Proofs.YtlkmabnjmklkpaaDoor
