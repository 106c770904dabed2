/- Rows of matches whose slices have room for what they hold. -/
import Derived.Test.YtlkmabnjmklkpaaDoorOpen14
import Derived.Test.YtlkmabnjmklkpaaDoorMark14
namespace Go.Proofs.YtlkmabnjmklkpaaDoor
open Go.ChangeShapes Go.WideShapes Go.ChangeAt Go.RowKit Go.Joins

def SlDC (B : Nat) (w : World) (p : TK × Value) : Prop := ∃ a c, p.2 = .slice a p.1.2.length c ∧ SlG B w a (icells p.1.2) ∧ (a = none → c = 0) ∧ p.1.2.length ≤ c
theorem SlDC.sl {B : Nat} {w : World} {p : TK × Value} (h : SlDC B w p) : SlD B w p := by
  obtain ⟨a, c, h1, h2, h3, _⟩ := h
  exact ⟨a, c, h1, h2, h3⟩
theorem SlDC.below {B : Nat} {w w' : World} {p : TK × Value} (h : SlDC B w p) (b : Below B w w') : SlDC B w' p := by
  obtain ⟨a, c, h1, h2, h3⟩ := h
  exact ⟨a, c, h1, h2.below b, h3⟩
theorem SlDC.up {B B' : Nat} {w w' : World} {p : TK × Value} (h : SlDC B w p) (b : Below B w w') (hB : B ≤ B') : SlDC B' w' p := by
  obtain ⟨a, c, h1, h2, h3⟩ := h
  exact ⟨a, c, h1, h2.up b hB, h3⟩
def SlTkC (B : Nat) (w : World) (ao : Option Addr) (l : List TK) : Prop :=
  ∃ ps : List (TK × Value), ps.map Prod.fst = l ∧ SlG B w ao (cellsTk ps) ∧ ∀ p, p ∈ ps → SlDC B w p
theorem SlTkC.sl {B : Nat} {w : World} {ao : Option Addr} {l : List TK} (h : SlTkC B w ao l) : SlTk B w ao l := by
  obtain ⟨ps, h1, h2, h3⟩ := h
  exact ⟨ps, h1, h2, fun p hp => (h3 p hp).sl⟩
theorem SlTkC.below {B : Nat} {w w' : World} {ao : Option Addr} {l : List TK} (h : SlTkC B w ao l) (b : Below B w w') : SlTkC B w' ao l := by
  obtain ⟨ps, h1, h2, h3⟩ := h
  exact ⟨ps, h1, h2.below b, fun p hp => (h3 p hp).below b⟩
theorem SlTkC.up {B B' : Nat} {w w' : World} {ao : Option Addr} {l : List TK} (h : SlTkC B w ao l) (b : Below B w w') (hB : B ≤ B') : SlTkC B' w' ao l := by
  obtain ⟨ps, h1, h2, h3⟩ := h
  exact ⟨ps, h1, h2.up b hB, fun p hp => (h3 p hp).up b hB⟩
theorem SlTkC.at {B : Nat} {w : World} {ao : Option Addr} {l : List TK} (h : SlTkC B w ao l) (hl : 0 < l.length) : ∃ sb off, ao = some ⟨sb, off, none⟩ ∧ sb < B ∧ ∀ i, (hi : i < l.length) → ∃ a c, w.cell? ⟨sb, off + i * 2, none⟩ = some (.int .i64 (l[i]).1) ∧ w.cell? ⟨sb, off + i * 2 + 1, none⟩ = some (.slice a (l[i]).2.length c) ∧ SlG B w a (icells (l[i]).2) ∧ (a = none → c = 0) ∧ (l[i]).2.length ≤ c := by
  obtain ⟨ps, rfl, h2, h3⟩ := h
  rw [List.length_map] at hl
  obtain ⟨sb, off, e, lt, hc⟩ := h2 (by
    cases ps with
    | nil => simp at hl
    | cons x y => simp [cellsTk])
  refine ⟨sb, off, e, lt, fun i hi => ?_⟩
  have hi' : i < ps.length := by simpa using hi
  obtain ⟨c1, c2⟩ := cellsTk_at ps i hi'
  obtain ⟨a, c, e1, e2, e3⟩ := h3 _ (List.getElem_mem hi')
  rw [List.getElem_map]
  refine ⟨a, c, hc _ _ c1, ?_, e2, e3⟩
  rw [Nat.add_assoc, hc _ _ c2, e1]
/-- Matches of its own, read. -/
theorem RowTk.slC {base : Nat} {w : World} {ao : Option Addr} {c : Nat} {ps : List (TK × Value)} (h : RowTk w base (.slice ao ps.length c) ps) : SlTkC w.heap.size w ao (ps.map Prod.fst) := by
  obtain ⟨qs, h1, h2, h3⟩ := h.sl
  refine ⟨ps, rfl, ?_, fun p hp => ?_⟩
  · intro hne
    rcases h.row.2 with ⟨g1, g2⟩ | ⟨g, cap, cur, g1, _, hg, _⟩
    · have := List.eq_nil_of_length_eq_zero g2
      subst this
      exact absurd rfl hne
    · simp only [Value.slice.injEq] at g1
      obtain ⟨rfl, _, rfl⟩ := g1
      refine ⟨g, 0, rfl, lt_of_heap hg, fun j u hu => ?_⟩
      have := h.row.cells (g := g) rfl j u hu
      rwa [Addr.add_lit, Nat.zero_add, ← Nat.zero_add j] at this
  · have hd := h.Ids p hp
    obtain ⟨a, c', e⟩ := owns_slice hd
    unfold RowD at hd
    rw [e] at hd
    refine ⟨a, c', e, owns_slI hd, owns_none hd, ?_⟩
    rcases hd.2 with ⟨h1, h2⟩ | ⟨g, cap, cur, h1, _, _, hc, _⟩
    · omega
    · simp only [Value.slice.injEq] at h1
      omega
section
variable {H : Type} {enc : TypeId × Value → H} {W : World}
set_option maxRecDepth 100000 in
theorem open_toksC {fuel : Nat} {cs : List Value} {x : DataW H × List MemPlace} (h : Trd enc W fuel 37 cs x) (hw : ∀ m, m ∈ x.1.weights Tryd.prog 37 → m ≤ 140737488355328) :
    ∃ (ao : Option Addr) (l : List TK) (c : Nat), cs = [.slice ao l.length c] ∧ SlTkC W.heap.size W ao l ∧ (ao = none → c = 0) ∧ l.length ≤ c ∧ c ≤ maxLen ∧ l.length ≤ 281474976710656 ∧ ∀ t, t ∈ l → t.2.length ≤ 281474976710656 := by
  have hb : Tryd.prog.bytesOf 24 = 32 := by kernel_rfl
  obtain ⟨ao, l, c, h1, h2, h3, h4⟩ := open_rowG (sz := 2) Tryd.underlying37 (by kernel_rfl) (by decide) (fun p : TK × Value => [Value.int .i64 p.1.1, p.2])
    (fun p d => SlDC W.heap.size W p ∧ (p.1.2.length = 0 ∨ ∃ m, m ∈ d.weights Tryd.prog 24 ∧ p.1.2.length * 8 ≤ m)) (fun _ => rfl) (fun fuel cs x h => by
    obtain ⟨t, ao, c, e, s, hx⟩ := open_tok h
    exact ⟨(t, .slice ao t.2.length c), e, ⟨ao, c, rfl, s.row, fun hn => (s.nil hn).2, s.cap⟩, hx⟩) h
  rw [cellsTk_flat] at h2
  rw [hb] at h3
  have hl : (l.map Prod.fst).length = l.length := by simp
  refine ⟨ao, l.map Prod.fst, c, by rw [hl]; exact h1, ⟨l, rfl, h2.row, fun p hp => ?_⟩, fun hn => (h2.nil hn).2, by rw [hl]; exact h2.cap, h2.top, ?_, fun t ht => ?_⟩
  · obtain ⟨d, ⟨hd, _⟩, _⟩ := h4 p hp
    exact hd
  · rw [hl]
    rcases h3 with h3 | ⟨m, hm, h3⟩
    · omega
    · have := hw m hm
      omega
  · obtain ⟨p, hp, rfl⟩ := List.mem_map.1 ht
    obtain ⟨d, ⟨_, hd⟩, hm⟩ := h4 p hp
    rcases hd with hd | ⟨m, hmm, hd⟩
    · omega
    · have := hw m (hm m hmm)
      omega
end
end Go.Proofs.YtlkmabnjmklkpaaDoor
