/- A reader of bytes: NewReader, Bad, Done. -/
import Derived.Test.YtmocfielcllfmaaDoorPubF
import Derived.Test.YtmocfielcllfmaaDoorPubR
import Derived.Test.YtmocfielcllfmaaDoorPubE
namespace Go.Proofs.YtmocfielcllfmaaDoor
open Go.RowKit

theorem bad_any (R pb B : Nat) (s : St) (w : World) (h : RdS w R pb B s) :
    Calls Tryd.prog 14 #[.pointer (some ⟨R, 0, none⟩)] w fun e w' => e = .returned (.bool s.2) ∧ w = w' := by
  have HM := Lib.hid (made_yes R pb B s w h)
  have c0 := h.ptr
  have cf := h.flag
  clear h
  go_enter Tryd.func14, Tryd.ntmps14
  go_wp2_with (go_at_call 46; refine (HM.out).mono ?_; rintro e w0 ⟨rfl, rfl⟩)
  go_ret
  exact ⟨rfl, rfl⟩

def doneB (s : St) : Bool := !s.2 && s.1.isEmpty

theorem done_any (R pb B : Nat) (s : St) (w : World) (h : RdS w R pb B s) :
    Calls Tryd.prog 15 #[.pointer (some ⟨R, 0, none⟩)] w fun e w' => e = .returned (.bool (doneB s)) ∧ w = w' := by
  have HM := Lib.hid (made_yes R pb B s w h)
  have c0 := h.ptr
  have cf := h.flag
  obtain ⟨ao, c, h1, -⟩ := h.pl
  have cs : w.cell? ⟨pb, 0, none⟩ = some (.slice ao s.1.length c) := Lib.cell_of_heap h1 0
  clear h h1
  obtain ⟨l, b⟩ := s
  simp only at cs cf
  cases b with
  | true =>
    go_enter Tryd.func15, Tryd.ntmps15
    go_wp2_with (go_at_call 46; refine (HM.out).mono ?_; rintro e w0 ⟨rfl, rfl⟩)
    go_ret
    exact ⟨rfl, rfl⟩
  | false =>
    cases l with
    | nil =>
      go_enter Tryd.func15, Tryd.ntmps15
      go_wp2_with (go_at_call 46; refine (HM.out).mono ?_; rintro e w0 ⟨rfl, rfl⟩)
      go_ret
      exact ⟨rfl, rfl⟩
    | cons x l =>
      have hd : (((l.length : Int) + 1) == 0) = false := by simp; omega
      have hd' : ((((l.length + 1 : Nat) : Int)) == 0) = false := by simp; omega
      go_enter Tryd.func15, Tryd.ntmps15
      go_wp2_with (go_at_call 46; refine (HM.out).mono ?_; rintro e w0 ⟨rfl, rfl⟩)
      go_ret
      exact ⟨rfl, rfl⟩

/-- A slice of bytes, wherever it lies. -/
structure SlB (w : World) (ao : Option Addr) (l : List UInt8) (c : Nat) : Prop where
  nil : ao = none → l = [] ∧ c = 0
  row : 0 < l.length → ∃ sb off, ao = some ⟨sb, off, none⟩ ∧ sb < w.heap.size ∧ ∀ j, (h : j < l.length) → w.cell? ⟨sb, off + j, none⟩ = some (.int .u8 ((l[j]).toNat : Int))
theorem SlB.below {w w' : World} {ao : Option Addr} {l : List UInt8} {c : Nat} (h : SlB w ao l c) (b : Below w.heap.size w w') : SlB w' ao l c :=
  ⟨h.nil, fun hl => by
    obtain ⟨sb, off, e, lt, hc⟩ := h.row hl
    exact ⟨sb, off, e, Nat.lt_of_lt_of_le lt b.size, fun j hj => (b.cell (p := ⟨sb, off + j, none⟩) lt).trans (hc j hj)⟩⟩
theorem SlB.cells {w : World} {ao : Option Addr} {l : List UInt8} {c : Nat} (h : SlB w ao l c) : ∀ ad, ao = some ad → ∀ j u, (bcells l)[j]? = some u → w.cell? (ad.add j) = some u := by
  intro ad had j u hu
  have hj : j < l.length := by
    have := (List.getElem?_eq_some_iff.1 hu).1
    simpa [Lib.byteCells] using this
  obtain ⟨sb, off, e, lt, hc⟩ := h.row (by omega)
  rw [had] at e
  obtain rfl := Option.some.inj e
  rw [Addr.add_lit, hc j hj, ← hu]
  simp [Lib.byteCells, hj]

/-- A row of bytes of its own, read as a place reads it. -/
theorem owns_cut {w : World} {base pb B : Nat} {v : Value} {l : List UInt8} (h : w.ownsRow base 5 1 v l.length (bcells l)) (h1 : w.heap.size ≤ pb) (h2 : w.heap.size ≤ B) : ∃ ao c, v = .slice ao l.length c ∧ Cut w pb B ao l c := by
  rcases h.2 with ⟨rfl, h0⟩ | ⟨g, cap, cur, rfl, hg, hh, hn, hm, hs, ht⟩
  · have := List.eq_nil_of_length_eq_zero h0
    subst this
    exact ⟨none, 0, rfl, Cut.nil _ _ _⟩
  · have hlt := lt_of_heap hh
    refine ⟨_, cap, rfl, hn, hm, by simp, fun hl => ⟨g, 0, rfl, by omega, by omega, fun j hj => ?_⟩⟩
    rw [Nat.zero_add, Lib.cell_of_heap hh]
    have e : (cur.toList.take (l.length * 1))[j]? = (bcells l)[j]? := by rw [ht]
    rw [List.getElem?_take_of_lt (by omega)] at e
    simpa [Lib.byteCells, hj] using e

theorem infoB : (Tryd.prog.info? 5).map (fun i => (i.zero, i.size, i.bytes)) = some (some (.int .u8 0), 1, 1) := by kernel_rfl

set_option maxRecDepth 100000 in
theorem clone_any (ao : Option Addr) (l : List UInt8) (c : Nat) (w : World) (hl : l.length ≤ 140737488355328) (h : SlB w ao l c) :
    Calls Tryd.prog 45 #[.slice ao l.length c] w fun e w' => ∃ v, e = .returned v ∧ w'.ownsRow w.heap.size 5 1 v l.length (bcells l) ∧ Below w.heap.size w w' := by
  have HL := Lib.hid hl
  clear hl
  cases ao with
  | none =>
    obtain ⟨rfl, rfl⟩ := h.nil rfl
    clear h
    have hnil := fun W => (Lib.run_eql_slice_nil_nil (P := Tryd.prog) W 0 0 Tryd.underlying23)
    go_enter Tryd.func45, Tryd.ntmps45
    go_wp2
    go_ret
    exact ⟨_, rfl, World.ownsRow_nil _ _ _ _, Below.refl _ _⟩
  | some ad =>
    obtain ⟨i0, hi, hz0, hz1, hz2⟩ := info_parts infoB
    have HS := Lib.hid (h.below (below_own (.cells #[] 5)))
    clear h
    have hnil := fun W => (Lib.run_eql_slice_some_nil (P := Tryd.prog) W ad l.length c Tryd.underlying23)
    go_enter Tryd.func45, Tryd.ntmps45
    go_wp2_with (at_builtin; refine wpList_append_own _ rfl _ _ 23 rfl w.heap.size 5 i0 (.int .u8 0) 1 1 Tryd.underlying23 hi hz0 hz1 hz2 rfl (by decide) _ 0 [] rfl (World.ownsRow_made w #[] 0 (Nat.le_refl _) (Nat.zero_le _) rfl) ad l.length c (bcells l) rfl (by simp [Lib.byteCells]) (HS.out.cells ad rfl) (Lib.byteCells_one l) (by have := HL.out; unfold maxLen; omega) (by have := HL.out; omega) (by simp) ?_; intro v' w3 hown' hgrow' hnil')
    go_ret
    exact ⟨v', rfl, by simpa using hown', (below_own _).grown hgrow' (by simp) (fun k hk => Nat.le_of_eq (Option.some.inj hk))⟩

/-- A reader was made. -/
def NewP (l : List UInt8) (w : World) (e : Ending) (w' : World) : Prop :=
  ∃ R pb B, e = .returned (.pointer (some ⟨R, 0, none⟩)) ∧ RdS w' R pb B (l, false) ∧ w.heap.size ≤ pb ∧ w.heap.size ≤ R ∧ Below w.heap.size w w'

theorem new_any (ao : Option Addr) (l : List UInt8) (c : Nat) (w : World) (hl : l.length ≤ 140737488355328) (h : SlB w ao l c) :
    Calls Tryd.prog 13 #[.slice ao l.length c] w (NewP l w) := by
  have HC := Lib.hid (clone_any ao l c w hl h)
  clear h
  go_enter Tryd.func13, Tryd.ntmps13
  go_wp2_with (go_at_call 45; refine (HC.out).mono ?_; rintro e w1 ⟨v, rfl, hown, hb⟩; obtain ⟨ao1, c1, rfl, hcut⟩ := owns_cut (pb := w1.heap.size) (B := w1.heap.size + 2) hown (Nat.le_refl _) (by omega); refine Hid.out ?_)
  have HB := Lib.hid hb
  have HCut := Lib.hid hcut
  clear hb hcut hown HC
  refine Lib.hid ?_
  go_wp2
  go_ret
  refine ⟨w1.heap.size + 1, w1.heap.size, w1.heap.size + 2, rfl, ⟨?_, by omega, ⟨ao1, c1, ?_, (HCut.out.fr (Fr.of_below (below_own _))).fr (Fr.of_below (below_own _))⟩, by omega, by omega, by simp⟩, HB.out.size, Nat.le_succ_of_le HB.out.size, below_new (below_new HB.out _) _⟩
  · have := heap_alloc_new (w1.alloc (.cells #[.slice ao1 l.length c1, .bool false] 97)) (.cells #[.pointer (some ⟨w1.heap.size, 0, none⟩)] 40)
    simpa using this
  · rw [Below.heap_alloc _ _ _ (by simp)]
    exact heap_alloc_new w1 _
end Go.Proofs.YtmocfielcllfmaaDoor
