/- The next values, fact, command of a reader. -/
import Derived.Test.YtmocfielcllfmaaDoorTakeRowV
namespace Go.Proofs.YtmocfielcllfmaaDoor
open Go.RowKit

theorem RowV.set {w : World} {base : Nat} {v : Value} {xs : List V3} (h : RowV w base v xs) {b : Nat} (hb : b < base) (i : Nat) (u : Value) : RowV (w.setCell ⟨b, i, none⟩ u) base v xs := ownsRow_setCell_below h (a := ⟨b, i, none⟩) hb u
theorem RowI.set {w : World} {base : Nat} {v : Value} {xs : List Int} (h : RowI w base v xs) {b : Nat} (hb : b < base) (i : Nat) (u : Value) : RowI (w.setCell ⟨b, i, none⟩ u) base v xs := ownsRow_setCell_below h (a := ⟨b, i, none⟩) hb u
theorem RowF.set {w : World} {base : Nat} {v : Value} {xs : List F3} (h : RowF w base v xs) {b : Nat} (hb : b < base) (i : Nat) (u : Value) : RowF (w.setCell ⟨b, i, none⟩ u) base v xs := by
  obtain ⟨ps, h1, h2, h3⟩ := h
  exact ⟨ps, h1, ownsRow_setCell_below h2 (a := ⟨b, i, none⟩) hb u, fun p hp => (h3 p hp).set hb i u⟩

def valuesS (s : St) : List V3 × St := manyS valueS s
theorem values_any (R pb B : Nat) (s : St) (w : World) (h : RdS w R pb B s) :
    Calls Tryd.prog 63 #[.pointer (some ⟨R, 0, none⟩)] w (Rowed RowV (valuesS s) R pb B w) := by
  have HC := Lib.hid (takeV_any R pb B s w h)
  clear h
  unfold valuesS
  generalize manyS valueS s = r at HC
  go_enter Tryd.func63, Tryd.ntmps63
  go_wp2_with (go_at_call 103; refine (HC.out).mono ?_; rintro e w1 ⟨v, rfl, h1, h2, h3⟩)
  go_ret
  exact ⟨v, rfl, h1, h2, h3⟩

def factS (s : St) : F3 × St := (((numS s).1, (numS (numS s).2).1, (valuesS (numS (numS s).2).2).1), (valuesS (numS (numS s).2).2).2)
def aggF (f : F3) (v : Value) : Value := .agg #[.int .i64 f.1, .int .i64 f.2.1, v]
def FactP (r : F3 × St) (R pb B : Nat) (w : World) (e : Ending) (w' : World) : Prop :=
  ∃ v, e = .returned (aggF r.1 v) ∧ RowV w' w.heap.size v r.1.2.2 ∧ RdS w' R pb B r.2 ∧ Fr pb w w'

def commandS (s : St) : C4 × St :=
  let k := octS s
  let t := textS k.2
  let n := numS t.2
  let a := valuesS n.2
  ((k.1, t.1, a.1, n.1), a.2)
def aggC (c : C4) (v : Value) : Value := .agg #[.int .u8 c.1, .string c.2.1, v, .int .i64 c.2.2.2]
def CommandP (r : C4 × St) (R pb B : Nat) (w : World) (e : Ending) (w' : World) : Prop :=
  ∃ v, e = .returned (aggC r.1 v) ∧ RowV w' w.heap.size v r.1.2.2.1 ∧ RdS w' R pb B r.2 ∧ Fr pb w w'

set_option maxRecDepth 100000 in
set_option maxHeartbeats 2000000 in
theorem fact_any (R pb B : Nat) (s : St) (w : World) (h : RdS w R pb B s) :
    Calls Tryd.prog 65 #[.pointer (some ⟨R, 0, none⟩)] w (FactP (factS s) R pb B w) := by
  have HR0 := Lib.hid (h.alloc (.cells #[.int .i64 0, .int .i64 0, .slice none 0 0] 52))
  have HF0 := Lib.hid (Fr.refl pb (w.alloc (.cells #[.int .i64 0, .int .i64 0, .slice none 0 0] 52)))
  have hne : w.heap.size ≠ pb := by have := h.lp; have := h.lb; omega
  have hlt : pb < w.heap.size := Nat.lt_of_lt_of_le h.lp h.lb
  have hB := h.lb
  clear h
  unfold factS
  have HC1 := Lib.hid (fun W h => integer_any R pb B s W h)
  generalize numS s = r1 at HC1 ⊢
  obtain ⟨i, s1⟩ := r1
  simp only at HC1 ⊢
  have HC2 := Lib.hid (fun W h => integer_any R pb B s1 W h)
  generalize numS s1 = r2 at HC2 ⊢
  obtain ⟨t, s2⟩ := r2
  simp only at HC2 ⊢
  have HC3 := Lib.hid (fun W h => values_any R pb B s2 W h)
  generalize valuesS s2 = r3 at HC3 ⊢
  obtain ⟨a, s3⟩ := r3
  simp only at HC3 ⊢
  go_enter Tryd.func65, Tryd.ntmps65
  go_wp2_with (go_at_call 104; refine (HC1.out _ HR0.out).mono ?_; rintro e w1 ⟨rfl, hr, hf⟩; refine Hid.out ?_)
  have HR1 := Lib.hid hr
  have HF1 := Lib.hid (HF0.out.trans hf)
  clear hr hf HC1 HR0 HF0
  refine Lib.hid ?_
  go_wp2_with (go_at_call 104; refine (HC2.out _ HR1.out).mono ?_; rintro e w2 ⟨rfl, hr, hf⟩; refine Hid.out ?_)
  have HR2 := Lib.hid hr
  have HF2 := Lib.hid (HF1.out.trans hf)
  clear hr hf HC2 HR1 HF1
  refine Lib.hid ?_
  go_wp2_with (go_at_call 63; refine (HC3.out _ HR2.out).mono ?_; rintro e w3 ⟨v3, rfl, hrow, hr, hf⟩; obtain ⟨ao3, c3, rfl⟩ := hrow.slice; refine Hid.out ?_)
  have hsz3 : w.heap.size + 1 ≤ w2.heap.size := by have := HF2.out.size; simpa using this
  have HW3 := Lib.hid (hrow.mono hsz3)
  clear hrow
  have HR3 := Lib.hid hr
  have HF3 := Lib.hid (HF2.out.trans hf)
  obtain ⟨hc, hz⟩ := fret HF3.out hne
  clear hr hf HC3 HR2 HF2
  refine Lib.hid ?_
  go_wp2_with fail
  refine bodyPost_ret (R := FactP _ R pb B w) (v := .agg #[.int .i64 i, .int .i64 t, .slice ao3 a.length c3]) (by simp [results, Tryd.results65, go_sem, hc]) rfl ?_
  exact ⟨_, rfl, ((((HW3.out.set (Nat.lt_succ_self _) 0 _).set (Nat.lt_succ_self _) 1 _).set (Nat.lt_succ_self _) 2 _).mono (Nat.le_succ _)), (((HR3.out.set hB 0 _).set hB 1 _).set hB 2 _), ((((((Fr.refl pb w).alloc (.cells #[.int .i64 0, .int .i64 0, .slice none 0 0] 52)).trans HF3.out).setNew (Nat.le_refl _) 0 _).setNew (Nat.le_refl _) 1 _).setNew (Nat.le_refl _) 2 _)⟩

set_option maxRecDepth 100000 in
set_option maxHeartbeats 2000000 in
theorem command_any (R pb B : Nat) (s : St) (w : World) (h : RdS w R pb B s) :
    Calls Tryd.prog 67 #[.pointer (some ⟨R, 0, none⟩)] w (CommandP (commandS s) R pb B w) := by
  have HR0 := Lib.hid (h.alloc (.cells #[.int .u8 0, .string ⟨#[]⟩, .slice none 0 0, .int .i64 0] 57))
  have HF0 := Lib.hid (Fr.refl pb (w.alloc (.cells #[.int .u8 0, .string ⟨#[]⟩, .slice none 0 0, .int .i64 0] 57)))
  have hne : w.heap.size ≠ pb := by have := h.lp; have := h.lb; omega
  have hlt : pb < w.heap.size := Nat.lt_of_lt_of_le h.lp h.lb
  have hB := h.lb
  clear h
  unfold commandS
  have HC1 := Lib.hid (fun W h => octet_any R pb B s W h)
  generalize octS s = r1 at HC1 ⊢
  obtain ⟨k, s1⟩ := r1
  simp only at HC1 ⊢
  have HC2 := Lib.hid (fun W h => text_any R pb B s1 W h)
  generalize textS s1 = r2 at HC2 ⊢
  obtain ⟨x, s2⟩ := r2
  simp only at HC2 ⊢
  have HC3 := Lib.hid (fun W h => integer_any R pb B s2 W h)
  generalize numS s2 = r3 at HC3 ⊢
  obtain ⟨n, s3⟩ := r3
  simp only at HC3 ⊢
  have HC4 := Lib.hid (fun W h => values_any R pb B s3 W h)
  generalize valuesS s3 = r4 at HC4 ⊢
  obtain ⟨a, s4⟩ := r4
  simp only at HC4 ⊢
  go_enter Tryd.func67, Tryd.ntmps67
  go_wp2_with (go_at_call 101; refine (HC1.out _ HR0.out).mono ?_; rintro e w1 ⟨rfl, hr, hf⟩; refine Hid.out ?_)
  have HR1 := Lib.hid hr
  have HF1 := Lib.hid (HF0.out.trans hf)
  clear hr hf HC1 HR0 HF0
  refine Lib.hid ?_
  go_wp2_with (go_at_call 59; refine (HC2.out _ HR1.out).mono ?_; rintro e w2 ⟨rfl, hr, hf⟩; refine Hid.out ?_)
  have HR2 := Lib.hid hr
  have HF2 := Lib.hid (HF1.out.trans hf)
  clear hr hf HC2 HR1 HF1
  refine Lib.hid ?_
  go_wp2_with (go_at_call 104; refine (HC3.out _ HR2.out).mono ?_; rintro e w3 ⟨rfl, hr, hf⟩; refine Hid.out ?_)
  have HR3 := Lib.hid hr
  have HF3 := Lib.hid (HF2.out.trans hf)
  clear hr hf HC3 HR2 HF2
  refine Lib.hid ?_
  go_wp2_with (go_at_call 63; refine (HC4.out _ HR3.out).mono ?_; rintro e w4 ⟨v4, rfl, hrow, hr, hf⟩; obtain ⟨ao4, c4, rfl⟩ := hrow.slice; refine Hid.out ?_)
  have hsz4 : w.heap.size + 1 ≤ w3.heap.size := by have := HF3.out.size; simpa using this
  have HW4 := Lib.hid (hrow.mono hsz4)
  clear hrow
  have HR4 := Lib.hid hr
  have HF4 := Lib.hid (HF3.out.trans hf)
  obtain ⟨hc, hz⟩ := fret HF4.out hne
  clear hr hf HC4 HR3 HF3
  refine Lib.hid ?_
  go_wp2_with fail
  refine bodyPost_ret (R := CommandP _ R pb B w) (v := .agg #[.int .u8 k, .string x, .slice ao4 a.length c4, .int .i64 n]) (by simp [results, Tryd.results67, go_sem, hc]) rfl ?_
  exact ⟨_, rfl, (((((HW4.out.set (Nat.lt_succ_self _) 0 _).set (Nat.lt_succ_self _) 1 _).set (Nat.lt_succ_self _) 2 _).set (Nat.lt_succ_self _) 3 _).mono (Nat.le_succ _)), ((((HR4.out.set hB 0 _).set hB 1 _).set hB 2 _).set hB 3 _), (((((((Fr.refl pb w).alloc (.cells #[.int .u8 0, .string ⟨#[]⟩, .slice none 0 0, .int .i64 0] 57)).trans HF4.out).setNew (Nat.le_refl _) 0 _).setNew (Nat.le_refl _) 1 _).setNew (Nat.le_refl _) 2 _).setNew (Nat.le_refl _) 3 _)⟩
end Go.Proofs.YtmocfielcllfmaaDoor
