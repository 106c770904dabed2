/- Matches as they lie in memory; whether they are the same. -/
import Derived.Test.YtlkmabnjmklkpaaDoorInts14
namespace Go.Proofs.YtlkmabnjmklkpaaDoor
open Go.RowKit

/-- A match: its rule's number, its Ids. -/
abbrev TK := Int × List Int

/-- Matches, each with the slice of its Data. -/
def cellsTk : List (TK × Value) → List Value
  | [] => []
  | p :: l => .int .i64 p.1.1 :: p.2 :: cellsTk l
theorem cellsTk_append (l m : List (TK × Value)) : cellsTk (l ++ m) = cellsTk l ++ cellsTk m := by
  induction l with
  | nil => rfl
  | cons x l ih => simp only [cellsTk, List.cons_append, ih]
theorem cellsTk_length (l : List (TK × Value)) : (cellsTk l).length = l.length * 2 := by
  induction l with
  | nil => rfl
  | cons x l ih => simp only [cellsTk, List.length_cons, ih]; omega
theorem cellsTk_at (l : List (TK × Value)) : ∀ (i : Nat) (h : i < l.length), (cellsTk l)[i * 2]? = some (.int .i64 (l[i]).1.1) ∧ (cellsTk l)[i * 2 + 1]? = some (l[i]).2 := by
  induction l with
  | nil => intro i h; cases h
  | cons x l ih =>
    intro i h
    cases i with
    | zero => exact ⟨rfl, rfl⟩
    | succ i =>
      obtain ⟨h1, h2⟩ := ih i (by simpa using h)
      rw [show (i + 1) * 2 = i * 2 + 1 + 1 by omega]
      exact ⟨h1, h2⟩

/-- The row of Ids. -/
abbrev RowD (w : World) (base : Nat) (p : TK × Value) : Prop := w.ownsRow base 3 1 p.2 p.1.2.length (icells p.1.2)
/-- A row of matches, each in memory of its own. -/
structure RowTk (w : World) (base : Nat) (v : Value) (ps : List (TK × Value)) : Prop where
  row : w.ownsRow base 24 2 v ps.length (cellsTk ps)
  Ids : ∀ p, p ∈ ps → RowD w base p
  apart : (ps.filterMap fun p => p.2.ownBlock).Nodup

theorem RowTk.nil (w : World) (base : Nat) : RowTk w base (.slice none 0 0) [] := ⟨World.ownsRow_nil _ _ _ _, (fun p hp => by cases hp), List.nodup_nil⟩
theorem RowTk.below {base : Nat} {w w' : World} {v : Value} {ps : List (TK × Value)} (h : RowTk w base v ps) (b : Below w.heap.size w w') : RowTk w' base v ps :=
  ⟨owns_below h.row b, fun p hp => owns_below (h.Ids p hp) b, h.apart⟩
/-- One match more. -/
theorem RowTk.snoc {base B : Nat} {w w' : World} {v v' : Value} {ps : List (TK × Value)} {p : TK × Value} (h : RowTk w base v ps) (hb : ∀ q, q ∈ ps → ∀ k, q.2.ownBlock = some k → k < B) (hp : w.ownsRow B 3 1 p.2 p.1.2.length (icells p.1.2)) (hB : base ≤ B)
    (hg : w.grownBy w' v.ownBlock) (hv : w'.ownsRow base 24 2 v' (ps.length + 1) (cellsTk ps ++ cellsTk [p])) : RowTk w' base v' (ps ++ [p]) := by
  have ht : ∀ k, v.ownBlock = some k → ∃ cs fz, w.heap[k]? = some (.cells cs 24 fz) := owns_tag h.row
  refine ⟨?_, fun q hq => ?_, ?_⟩
  · rw [cellsTk_append, List.length_append]
    exact hv
  · rcases List.mem_append.1 hq with hq | hq
    · exact owns_far (h.Ids q hq) (by decide) hg ht
    · obtain rfl := List.mem_singleton.1 hq
      exact owns_far (owns_mono hp hB) (by decide) hg ht
  · rw [List.filterMap_append, List.nodup_append]
    refine ⟨h.apart, ?_, fun a ha c hc e => ?_⟩
    · cases hpb : p.2.ownBlock <;> simp [List.filterMap, hpb]
    · subst e
      obtain ⟨q, hq, hqa⟩ := List.mem_filterMap.1 ha
      obtain ⟨q', hq', hqa'⟩ := List.mem_filterMap.1 hc
      obtain rfl := List.mem_singleton.1 hq'
      have h1 := hb q hq a hqa
      have h2 := (hp.lt a hqa').1
      omega
theorem RowTk.lt {base : Nat} {w : World} {v : Value} {ps : List (TK × Value)} (h : RowTk w base v ps) : ∀ q, q ∈ ps → ∀ k, q.2.ownBlock = some k → k < w.heap.size := fun q hq k hk => ((h.Ids q hq).lt k hk).2

theorem infoTk : (Tryd.prog.info? 24).map (fun i => (i.zero, i.size, i.bytes)) = some (some (.agg #[.int .i64 0, .slice none 0 0]), 2, 32) := by kernel_rfl

/-- The slice of Ids, wherever it lies. -/
def SlD (B : Nat) (w : World) (p : TK × Value) : Prop := ∃ a c, p.2 = .slice a p.1.2.length c ∧ SlG B w a (icells p.1.2) ∧ (a = none → c = 0)
theorem SlD.below {B : Nat} {w w' : World} {p : TK × Value} (h : SlD B w p) (b : Below B w w') : SlD B w' p := by
  obtain ⟨a, c, h1, h2, h3⟩ := h
  exact ⟨a, c, h1, h2.below b, h3⟩
theorem SlD.up {B B' : Nat} {w w' : World} {p : TK × Value} (h : SlD B w p) (b : Below B w w') (hB : B ≤ B') : SlD B' w' p := by
  obtain ⟨a, c, h1, h2, h3⟩ := h
  exact ⟨a, c, h1, h2.up b hB, h3⟩
/-- A row of matches, wherever it lies. -/
def SlTk (B : Nat) (w : World) (ao : Option Addr) (l : List TK) : Prop :=
  ∃ ps : List (TK × Value), ps.map Prod.fst = l ∧ SlG B w ao (cellsTk ps) ∧ ∀ p, p ∈ ps → SlD B w p
theorem SlTk.below {B : Nat} {w w' : World} {ao : Option Addr} {l : List TK} (h : SlTk B w ao l) (b : Below B w w') : SlTk B w' ao l := by
  obtain ⟨ps, h1, h2, h3⟩ := h
  exact ⟨ps, h1, h2.below b, fun p hp => (h3 p hp).below b⟩
theorem SlTk.up {B B' : Nat} {w w' : World} {ao : Option Addr} {l : List TK} (h : SlTk B w ao l) (b : Below B w w') (hB : B ≤ B') : SlTk B' w' ao l := by
  obtain ⟨ps, h1, h2, h3⟩ := h
  exact ⟨ps, h1, h2.up b hB, fun p hp => (h3 p hp).up b hB⟩
theorem SlTk.at {B : Nat} {w : World} {ao : Option Addr} {l : List TK} (h : SlTk B w ao l) (hl : 0 < l.length) : ∃ sb off, ao = some ⟨sb, off, none⟩ ∧ sb < B ∧ ∀ i, (hi : i < l.length) → ∃ a c, w.cell? ⟨sb, off + i * 2, none⟩ = some (.int .i64 (l[i]).1) ∧ w.cell? ⟨sb, off + i * 2 + 1, none⟩ = some (.slice a (l[i]).2.length c) ∧ SlG B w a (icells (l[i]).2) ∧ (a = none → c = 0) := by
  obtain ⟨ps, rfl, h2, h3⟩ := h
  rw [List.length_map] at hl
  obtain ⟨sb, off, e, lt, hc⟩ := h2 (by
    cases ps with
    | nil => simp at hl
    | cons x y => simp [cellsTk])
  refine ⟨sb, off, e, lt, fun i hi => ?_⟩
  have hi' : i < ps.length := by simpa using hi
  obtain ⟨c1, c2⟩ := cellsTk_at ps i hi'
  obtain ⟨a, c, e1, e2, e3⟩ := h3 _ (List.getElem_mem hi')
  rw [List.getElem_map]
  refine ⟨a, c, hc _ _ c1, ?_, e2, e3⟩
  rw [Nat.add_assoc, hc _ _ c2, e1]
/-- Matches of its own, read. -/
theorem RowTk.sl {base : Nat} {w : World} {ao : Option Addr} {c : Nat} {ps : List (TK × Value)} (h : RowTk w base (.slice ao ps.length c) ps) : SlTk w.heap.size w ao (ps.map Prod.fst) := by
  refine ⟨ps, rfl, fun hne => ?_, fun p hp => ?_⟩
  · rcases h.row.2 with ⟨h1, h2⟩ | ⟨g, cap, cur, h1, _, hg, _⟩
    · have := List.eq_nil_of_length_eq_zero h2
      subst this
      exact absurd rfl hne
    · simp only [Value.slice.injEq] at h1
      obtain ⟨rfl, _, rfl⟩ := h1
      refine ⟨g, 0, rfl, lt_of_heap hg, fun j u hu => ?_⟩
      have := h.row.cells (g := g) rfl j u hu
      rwa [Addr.add_lit, Nat.zero_add, ← Nat.zero_add j] at this
  · have hd := h.Ids p hp
    obtain ⟨a, c', e⟩ := owns_slice hd
    unfold RowD at hd
    rw [e] at hd
    exact ⟨a, c', e, owns_slI hd, owns_none hd⟩


/-- What Put tells. -/
def PuttedP (r : List Int × Nat) (w : World) (e : Ending) (w' : World) : Prop :=
  ∃ ao c, e = .returned (.tuple #[.slice ao r.1.length c, .int .i64 ((r.2 : Nat) : Int)]) ∧ w'.ownsRow w.heap.size 3 1 (.slice ao r.1.length c) r.1.length (icells r.1) ∧ Below w.heap.size w w'


theorem two_boxes {w w1 : World} {c1 c2 : Array Value} {t1 t2 : TypeId} (h : Below ((w.alloc (.cells c1 t1)).alloc (.cells c2 t2)).heap.size ((w.alloc (.cells c1 t1)).alloc (.cells c2 t2)) w1) :
    (∀ j, w1.cell? ⟨w.heap.size, j, none⟩ = c1[j]?) ∧ (∀ j, w1.cell? ⟨w.heap.size + 1, j, none⟩ = c2[j]?) := by
  have e1 : ((w.alloc (.cells c1 t1)).alloc (.cells c2 t2)).heap[w.heap.size]? = some (.cells c1 t1 (0, 0)) := by
    rw [Below.heap_alloc _ _ _ (by simp)]
    exact heap_alloc_new w _
  have e2 : ((w.alloc (.cells c1 t1)).alloc (.cells c2 t2)).heap[w.heap.size + 1]? = some (.cells c2 t2 (0, 0)) := by
    have := heap_alloc_new (w.alloc (.cells c1 t1)) (.cells c2 t2)
    simpa using this
  exact ⟨fun j => Lib.cell_of_heap ((h.block _ (by simp; omega)).trans e1) j, fun j => Lib.cell_of_heap ((h.block _ (by simp)).trans e2) j⟩

theorem below_two (w : World) (o1 o2 : Obj) : Below w.heap.size w ((w.alloc o1).alloc o2) := below_new (below_own o1) o2

theorem cellG {w : World} {b o : Nat} {v : Value} (hb : b < w.heap.size) (h : w.cell? ⟨b, o, none⟩ = some v) : ∀ q os, (Sort.grow (w.drewN q) os).cell? ⟨b, o, none⟩ = some v := fun q os =>
  ((bcell (Gr.below ⟨q, os, rfl⟩)).1 b o hb).trans h
theorem three_boxes {w w1 : World} {c1 c2 c3 : Array Value} {t1 t2 t3 : TypeId} (h : Below (((w.alloc (.cells c1 t1)).alloc (.cells c2 t2)).alloc (.cells c3 t3)).heap.size (((w.alloc (.cells c1 t1)).alloc (.cells c2 t2)).alloc (.cells c3 t3)) w1) :
    (∀ j, w1.cell? ⟨w.heap.size, j, none⟩ = c1[j]?) ∧ (∀ j, w1.cell? ⟨w.heap.size + 1, j, none⟩ = c2[j]?) ∧ (∀ j, w1.cell? ⟨w.heap.size + 1 + 1, j, none⟩ = c3[j]?) := by
  obtain ⟨e1, e2, e3⟩ := heap_three (w := w) (.cells c1 t1) (.cells c2 t2) (.cells c3 t3)
  exact ⟨fun j => Lib.cell_of_heap ((h.block _ (lt_of_heap e1)).trans e1) j, fun j => Lib.cell_of_heap ((h.block _ (lt_of_heap e2)).trans e2) j, fun j => Lib.cell_of_heap ((h.block _ (lt_of_heap e3)).trans e3) j⟩
theorem gr_two (w : World) (o1 o2 : Obj) : Gr w ((w.alloc o1).alloc o2) := ((Gr.refl w).alloc o1).alloc o2

theorem sameTok_any (x y : TK) (ao1 ao2 : Option Addr) (n1 n2 c1 c2 : Nat) (hn1 : n1 = x.2.length) (hn2 : n2 = y.2.length) (hm1 : x.2.length ≤ 9223372036854775807) (hm2 : y.2.length ≤ 9223372036854775807) (w : World) (h1 : SlG w.heap.size w ao1 (icells x.2)) (h2 : SlG w.heap.size w ao2 (icells y.2)) :
    Calls Tryd.prog 8 #[.agg #[.int .i64 x.1, .slice ao1 n1 c1], .agg #[.int .i64 y.1, .slice ao2 n2 c2]] w (SaysG (decide (x = y)) w) := by
  subst hn1
  subst hn2
  obtain ⟨k1, d1⟩ := x
  obtain ⟨k2, d2⟩ := y
  simp only at hm1 hm2 h1 h2 ⊢
  have HB := Lib.hid (gr_two w (.cells #[.int .i64 k1, .slice ao1 d1.length c1] 24) (.cells #[.int .i64 k2, .slice ao2 d2.length c2] 24))
  have HV := Lib.hid (sameI_any d1 d2 ao1 ao2 c1 c2 hm1 hm2 _ (h1.up HB.out.below HB.out.below.size) (h2.up HB.out.below HB.out.below.size))
  have HE : Hid (decide ((k1, d1) = (k2, d2)) = (decide (k1 = k2) && decide (d1 = d2))) := by
    rw [Hid, ← Bool.decide_and]
    simp [Prod.mk.injEq]
  clear h1 h2 hm1 hm2
  by_cases hk : k1 = k2
  · subst hk
    go_enter Tryd.func8, Tryd.ntmps8
    go_wp2_with (go_at_call 22; refine (HV.out).mono ?_; rintro e w1 ⟨rfl, hb⟩)
    go_ret
    refine ⟨?_, HB.out.trans hb⟩
    rw [HE.out]
    simp
  · have hd : (k1 == k2) = false := by simpa using hk
    have HK := Lib.hid hk
    clear hk
    go_enter Tryd.func8, Tryd.ntmps8
    go_wp2_with (go_at_call 22; refine (HV.out).mono ?_; rintro e w1 ⟨rfl, hb⟩)
    go_ret
    refine ⟨?_, HB.out⟩
    rw [HE.out, decide_eq_false HK.out]
    rfl

theorem sameTokG (k : Int) (d : List Int) (ao1 ao2 : Option Addr) (n1 n2 c1 c2 : Nat) (hn1 : n1 = d.length) (hn2 : n2 = d.length) (hm : d.length ≤ 9223372036854775807) (w : World) (h1 : SlG w.heap.size w ao1 (icells d)) (h2 : SlG w.heap.size w ao2 (icells d)) :
    Calls Tryd.prog 8 #[.agg #[.int .i64 k, .slice ao1 n1 c1], .agg #[.int .i64 k, .slice ao2 n2 c2]] w (YesG w) :=
  (sameTok_any (k, d) (k, d) ao1 ao2 n1 n2 c1 c2 hn1 hn2 hm hm w h1 h2).mono fun _ _ h => ⟨by rw [h.1]; simp, h.2⟩

end Go.Proofs.YtlkmabnjmklkpaaDoor
