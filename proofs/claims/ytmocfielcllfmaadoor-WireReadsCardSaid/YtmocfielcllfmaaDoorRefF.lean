/- The document's reader: facts, commands. -/
import Derived.Test.YtmocfielcllfmaaDoorRefV
namespace Go.Proofs.YtmocfielcllfmaaDoor
open Go.RowKit

/-- A struct that is made, field by field, while the document's reader goes on: at w0's end the result, behind it the struct. -/
structure Mid (w0 w : World) (t : TypeId) (Z cs : Array Value) (D B : Nat) (ao : Option Addr) (l0 : List UInt8) (c : Nat) (s : St) : Prop where
  rf : RfS w D B ao l0 c s
  fr : Fr D w0 w
  h3 : w.heap[w0.heap.size + 1]? = some (.cells cs t (0, 0))
  h2 : w.heap[w0.heap.size]? = some (.cells Z t (0, 0))
  sz : w0.heap.size + 2 ≤ w.heap.size
  lt : D < w0.heap.size

theorem Mid.start {w : World} {D B : Nat} {ao : Option Addr} {l0 : List UInt8} {c : Nat} {s : St} (h : RfS w D B ao l0 c s) (t : TypeId) (Z : Array Value) : Mid w ((w.alloc (.cells Z t)).alloc (.cells Z t)) t Z Z D B ao l0 c s :=
  ⟨(h.alloc _).alloc _, ((Fr.refl D w).alloc _).alloc _, by
    have := heap_alloc_new (w.alloc (.cells Z t)) (.cells Z t)
    simpa using this, by
    rw [Below.heap_alloc _ _ _ (by simp)]
    exact heap_alloc_new w _, by simp, h.lt⟩
theorem Mid.call {w0 w w' : World} {t : TypeId} {Z cs : Array Value} {D B : Nat} {ao : Option Addr} {l0 : List UInt8} {c : Nat} {s s' : St} (h : Mid w0 w t Z cs D B ao l0 c s) (hr : RfS w' D B ao l0 c s') (hf : Fr D w w') : Mid w0 w' t Z cs D B ao l0 c s' :=
  ⟨hr, h.fr.trans hf, hf.keep h.h3 (by have := h.lt; omega), hf.keep h.h2 (by have := h.lt; omega), Nat.le_trans h.sz hf.size, h.lt⟩
theorem Mid.set {w0 w : World} {t : TypeId} {Z cs : Array Value} {D B : Nat} {ao : Option Addr} {l0 : List UInt8} {c : Nat} {s : St} (h : Mid w0 w t Z cs D B ao l0 c s) (f : Nat) (v : Value) (cs' : Array Value) (e : cs.setIfInBounds f v = cs') : Mid w0 (w.setCell ⟨w0.heap.size + 1, f, none⟩ v) t Z cs' D B ao l0 c s := by
  subst e
  exact ⟨h.rf.setNew (by have := h.lt; omega) f v, h.fr.setNew (by omega) f v, Lib.heap_setCell_same (i := f) h.h3 v, (Below.heap_setCell _ _ _ _ (by simp)).trans h.h2, by simpa [World.setCell] using h.sz, h.lt⟩
theorem Mid.cells {w0 w : World} {t : TypeId} {Z cs : Array Value} {D B : Nat} {ao : Option Addr} {l0 : List UInt8} {c : Nat} {s : St} (h : Mid w0 w t Z cs D B ao l0 c s) :
    (∀ j, w.cell? ⟨w0.heap.size + 1, j, none⟩ = cs[j]?) ∧ (∀ j, w.frozen? ⟨w0.heap.size + 1, j, none⟩ = false) ∧ (∀ j, w.cell? ⟨w0.heap.size, j, none⟩ = Z[j]?) ∧ (∀ j, w.frozen? ⟨w0.heap.size, j, none⟩ = false) ∧ w.cell? ⟨D, 2, none⟩ = some (.bool s.2) :=
  ⟨fun j => Lib.cell_of_heap h.h3 j, fun j => Lib.frozen_of_heap h.h3 j, fun j => Lib.cell_of_heap h.h2 j, fun j => Lib.frozen_of_heap h.h2 j, h.rf.cells.2.1⟩

def factR0 (s : St) : F3 × St := (((numS s).1, (numS (numS s).2).1, (valuesR (numS (numS s).2).2).1), (valuesR (numS (numS s).2).2).2)
def factR (s : St) : F3 × St := wholeS factR0 (0, 0, []) s
def RfactP (r : F3 × St) (D B : Nat) (ao : Option Addr) (l0 : List UInt8) (c : Nat) (w : World) (e : Ending) (w' : World) : Prop :=
  ∃ v, e = .returned (aggF r.1 v) ∧ RowV w' w.heap.size v r.1.2.2 ∧ RfS w' D B ao l0 c r.2 ∧ Fr D w w'

set_option maxRecDepth 100000 in
set_option maxHeartbeats 4000000 in
theorem rfact_any (D B : Nat) (ao : Option Addr) (l0 : List UInt8) (c : Nat) (s : St) (w : World) (h : RfS w D B ao l0 c s) :
    Calls Tryd.prog 52 #[.pointer (some ⟨D, 0, none⟩)] w (RfactP (factR s) D B ao l0 c w) := by
  have HM := Lib.hid (Mid.start h 52 #[.int .i64 0, .int .i64 0, .slice none 0 0])
  have hlt : D < w.heap.size := h.lt
  have q1 : w.heap.size ≠ D := by omega
  have q2 : w.heap.size + 1 ≠ D := by omega
  have q3 : D ≠ w.heap.size := by omega
  have q4 : D ≠ w.heap.size + 1 := by omega
  have HOK := Lib.hid h.ok
  clear h
  unfold factR wholeS factR0
  have HC1 := Lib.hid (fun W h => rnumber_any D B ao l0 c s W h)
  generalize numS s = r1 at HC1 ⊢
  obtain ⟨i, s1⟩ := r1
  simp only at HC1 ⊢
  have HC2 := Lib.hid (fun W h => rnumber_any D B ao l0 c s1 W h)
  generalize numS s1 = r2 at HC2 ⊢
  obtain ⟨t, s2⟩ := r2
  simp only at HC2 ⊢
  have HC3 := Lib.hid (fun W h => rvalues_any D B ao l0 c s2 W h)
  generalize valuesR s2 = r3 at HC3 ⊢
  obtain ⟨a, l9, b9⟩ := r3
  simp only at HC3 ⊢
  go_enter Tryd.func52, Tryd.ntmps52
  go_wp2_with (go_at_call 48; refine (HC1.out _ HM.out.rf).mono ?_; rintro e w1 ⟨rfl, hr, hf⟩; refine Hid.out ?_)
  have HMc := Lib.hid (HM.out.call hr hf)
  obtain ⟨hc3, hz3, hc2, hz2, cq⟩ := HMc.out.cells
  have HMs := Lib.hid (HMc.out.set 0 (.int .i64 i) #[.int .i64 i, .int .i64 0, .slice none 0 0] rfl)
  clear hr hf HM HMc HC1
  have HM := Lib.hid HMs.out
  clear HMs
  refine Lib.hid ?_
  go_wp2_with (go_at_call 48; refine (HC2.out _ HM.out.rf).mono ?_; rintro e w2 ⟨rfl, hr, hf⟩; refine Hid.out ?_)
  clear hc3 hz3 hc2 hz2 cq
  have HMc := Lib.hid (HM.out.call hr hf)
  obtain ⟨hc3, hz3, hc2, hz2, cq⟩ := HMc.out.cells
  have HMs := Lib.hid (HMc.out.set 1 (.int .i64 t) #[.int .i64 i, .int .i64 t, .slice none 0 0] rfl)
  clear hr hf HM HMc HC2
  have HM := Lib.hid HMs.out
  clear HMs
  refine Lib.hid ?_
  go_wp2_with (go_at_call 51; refine (HC3.out _ HM.out.rf).mono ?_; rintro e w3 ⟨v3, rfl, hrow, hr, hf⟩; obtain ⟨ao3, c3, rfl⟩ := hrow.slice; refine Hid.out ?_)
  clear hc3 hz3 hc2 hz2 cq
  have HMc := Lib.hid (HM.out.call hr hf)
  obtain ⟨hc3, hz3, hc2, hz2, cq⟩ := HMc.out.cells
  have HW3 := Lib.hid ((hrow.mono HM.out.sz).set (by omega : w.heap.size + 1 < w.heap.size + 2) 2 (.slice ao3 a.length c3))
  have HMs := Lib.hid (HMc.out.set 2 (.slice ao3 a.length c3) #[.int .i64 i, .int .i64 t, .slice ao3 a.length c3] rfl)
  clear hr hf HM HMc HC3 hrow
  have HM := Lib.hid HMs.out
  clear HMs
  refine Lib.hid ?_
  cases b9 with
  | true =>
    go_wp2_with fail
    refine bodyPost_ret (R := RfactP _ D B ao l0 c w) (v := .agg #[.int .i64 0, .int .i64 0, .slice none 0 0]) (by simp [results, Tryd.results52, go_sem, hc2]) rfl ?_
    exact ⟨_, rfl, RowV.nil _ _, (((HM.out.rf.setNew hlt 0 _).setNew hlt 1 _).setNew hlt 2 _), (((HM.out.fr.setNew (Nat.le_refl _) 0 _).setNew (Nat.le_refl _) 1 _).setNew (Nat.le_refl _) 2 _)⟩
  | false =>
    go_wp2_with fail
    refine bodyPost_ret (R := RfactP _ D B ao l0 c w) (v := .agg #[.int .i64 i, .int .i64 t, .slice ao3 a.length c3]) (by simp [results, Tryd.results52, go_sem, hc2]) rfl ?_
    exact ⟨_, rfl, ((((HW3.out.set (by omega : w.heap.size < w.heap.size + 2) 0 _).set (by omega : w.heap.size < w.heap.size + 2) 1 _).set (by omega : w.heap.size < w.heap.size + 2) 2 _).mono (by omega)), (((HM.out.rf.setNew hlt 0 _).setNew hlt 1 _).setNew hlt 2 _), (((HM.out.fr.setNew (Nat.le_refl _) 0 _).setNew (Nat.le_refl _) 1 _).setNew (Nat.le_refl _) 2 _)⟩

theorem rsaid1 (D B : Nat) (ao : Option Addr) (l0 : List UInt8) (c : Nat) (s : St) (w : World) (h : RfS w D B ao l0 c s) :
    Calls Tryd.prog 95 #[.pointer (some ⟨D, 0, none⟩), .int .i64 1] w fun e w' => e = .returned (.int .u64 ((wordS 1 s).1 : Nat)) ∧ RfS w' D B ao l0 c (wordS 1 s).2 ∧ Fr D w w' := rsaid_any D B 1 ao l0 c s w (by omega) h

def commandR0 (s : St) : C4 × St :=
  let k := wordS 1 s
  let x := textS k.2
  let n := numS x.2
  let a := valuesR n.2
  (((k.1 : Int), x.1, a.1, n.1), a.2)
def commandR (s : St) : C4 × St := wholeS commandR0 (0, ⟨#[]⟩, [], 0) s
def RcommandP (r : C4 × St) (D B : Nat) (ao : Option Addr) (l0 : List UInt8) (c : Nat) (w : World) (e : Ending) (w' : World) : Prop :=
  ∃ v, e = .returned (aggC r.1 v) ∧ RowV w' w.heap.size v r.1.2.2.1 ∧ RfS w' D B ao l0 c r.2 ∧ Fr D w w'

set_option maxRecDepth 100000 in
set_option maxHeartbeats 4000000 in
theorem rcommand_any (D B : Nat) (ao : Option Addr) (l0 : List UInt8) (c : Nat) (s : St) (w : World) (h : RfS w D B ao l0 c s) :
    Calls Tryd.prog 53 #[.pointer (some ⟨D, 0, none⟩)] w (RcommandP (commandR s) D B ao l0 c w) := by
  have HM := Lib.hid (Mid.start h 57 #[.int .u8 0, .string ⟨#[]⟩, .slice none 0 0, .int .i64 0])
  have hlt : D < w.heap.size := h.lt
  have q1 : w.heap.size ≠ D := by omega
  have q2 : w.heap.size + 1 ≠ D := by omega
  have q3 : D ≠ w.heap.size := by omega
  have q4 : D ≠ w.heap.size + 1 := by omega
  have HOK := Lib.hid h.ok
  clear h
  unfold commandR wholeS commandR0
  have HC1 := Lib.hid (fun W h => rsaid1 D B ao l0 c s W h)
  have hk1 := wordS_lt 1 s
  generalize wordS 1 s = r1 at HC1 hk1 ⊢
  obtain ⟨k, s1⟩ := r1
  simp only at HC1 hk1 ⊢
  have hv1 : IntKind.u8.wrap (k : Int) = (k : Int) := wrap_u8 k hk1
  have hm1 : (k : Int) % 256 = (k : Int) := by omega
  clear hk1
  have HC2 := Lib.hid (fun W h => rtext_any D B ao l0 c s1 W h)
  generalize textS s1 = r2 at HC2 ⊢
  obtain ⟨x, s2⟩ := r2
  simp only at HC2 ⊢
  have HC3 := Lib.hid (fun W h => rnumber_any D B ao l0 c s2 W h)
  generalize numS s2 = r3 at HC3 ⊢
  obtain ⟨n, s3⟩ := r3
  simp only at HC3 ⊢
  have HC4 := Lib.hid (fun W h => rvalues_any D B ao l0 c s3 W h)
  generalize valuesR s3 = r4 at HC4 ⊢
  obtain ⟨a, l9, b9⟩ := r4
  simp only at HC4 ⊢
  go_enter Tryd.func53, Tryd.ntmps53
  go_wp2_with (go_at_call 95; refine (HC1.out _ HM.out.rf).mono ?_; rintro e w1 ⟨rfl, hr, hf⟩; refine Hid.out ?_)
  have HMc := Lib.hid (HM.out.call hr hf)
  obtain ⟨hc3, hz3, hc2, hz2, cq⟩ := HMc.out.cells
  have HMs := Lib.hid (HMc.out.set 0 (.int .u8 (k : Int)) #[.int .u8 (k : Int), .string ⟨#[]⟩, .slice none 0 0, .int .i64 0] rfl)
  clear hr hf HM HMc HC1
  have HM := Lib.hid HMs.out
  clear HMs
  refine Lib.hid ?_
  go_wp2_with (go_at_call 49; refine (HC2.out _ HM.out.rf).mono ?_; rintro e w2 ⟨rfl, hr, hf⟩; refine Hid.out ?_)
  clear hc3 hz3 hc2 hz2 cq
  have HMc := Lib.hid (HM.out.call hr hf)
  obtain ⟨hc3, hz3, hc2, hz2, cq⟩ := HMc.out.cells
  have HMs := Lib.hid (HMc.out.set 1 (.string x) #[.int .u8 (k : Int), .string x, .slice none 0 0, .int .i64 0] rfl)
  clear hr hf HM HMc HC2
  have HM := Lib.hid HMs.out
  clear HMs
  refine Lib.hid ?_
  go_wp2_with (go_at_call 48; refine (HC3.out _ HM.out.rf).mono ?_; rintro e w3 ⟨rfl, hr, hf⟩; refine Hid.out ?_)
  clear hc3 hz3 hc2 hz2 cq
  have HMc := Lib.hid (HM.out.call hr hf)
  obtain ⟨hc3, hz3, hc2, hz2, cq⟩ := HMc.out.cells
  have HMs := Lib.hid (HMc.out.set 3 (.int .i64 n) #[.int .u8 (k : Int), .string x, .slice none 0 0, .int .i64 n] rfl)
  clear hr hf HM HMc HC3
  have HM := Lib.hid HMs.out
  clear HMs
  refine Lib.hid ?_
  go_wp2_with (go_at_call 51; refine (HC4.out _ HM.out.rf).mono ?_; rintro e w4 ⟨v4, rfl, hrow, hr, hf⟩; obtain ⟨ao4, c4, rfl⟩ := hrow.slice; refine Hid.out ?_)
  clear hc3 hz3 hc2 hz2 cq
  have HMc := Lib.hid (HM.out.call hr hf)
  obtain ⟨hc3, hz3, hc2, hz2, cq⟩ := HMc.out.cells
  have HW4 := Lib.hid ((hrow.mono HM.out.sz).set (by omega : w.heap.size + 1 < w.heap.size + 2) 2 (.slice ao4 a.length c4))
  have HMs := Lib.hid (HMc.out.set 2 (.slice ao4 a.length c4) #[.int .u8 (k : Int), .string x, .slice ao4 a.length c4, .int .i64 n] rfl)
  clear hr hf HM HMc HC4 hrow
  have HM := Lib.hid HMs.out
  clear HMs
  refine Lib.hid ?_
  cases b9 with
  | true =>
    go_wp2_with fail
    refine bodyPost_ret (R := RcommandP _ D B ao l0 c w) (v := .agg #[.int .u8 0, .string ⟨#[]⟩, .slice none 0 0, .int .i64 0]) (by simp [results, Tryd.results53, go_sem, hc2]) rfl ?_
    exact ⟨_, rfl, RowV.nil _ _, ((((HM.out.rf.setNew hlt 0 _).setNew hlt 1 _).setNew hlt 2 _).setNew hlt 3 _), ((((HM.out.fr.setNew (Nat.le_refl _) 0 _).setNew (Nat.le_refl _) 1 _).setNew (Nat.le_refl _) 2 _).setNew (Nat.le_refl _) 3 _)⟩
  | false =>
    go_wp2_with fail
    refine bodyPost_ret (R := RcommandP _ D B ao l0 c w) (v := .agg #[.int .u8 (k : Int), .string x, .slice ao4 a.length c4, .int .i64 n]) (by simp [results, Tryd.results53, go_sem, hc2]) rfl ?_
    exact ⟨_, rfl, (((((HW4.out.set (by omega : w.heap.size < w.heap.size + 2) 0 _).set (by omega : w.heap.size < w.heap.size + 2) 1 _).set (by omega : w.heap.size < w.heap.size + 2) 2 _).set (by omega : w.heap.size < w.heap.size + 2) 3 _).mono (by omega)), ((((HM.out.rf.setNew hlt 0 _).setNew hlt 1 _).setNew hlt 2 _).setNew hlt 3 _), ((((HM.out.fr.setNew (Nat.le_refl _) 0 _).setNew (Nat.le_refl _) 1 _).setNew (Nat.le_refl _) 2 _).setNew (Nat.le_refl _) 3 _)⟩
end Go.Proofs.YtmocfielcllfmaaDoor
