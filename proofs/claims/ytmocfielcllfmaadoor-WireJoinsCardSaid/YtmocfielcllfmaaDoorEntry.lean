/- The next reply, entry of a reader. -/
import Derived.Test.YtmocfielcllfmaaDoorTakeRowF
import Derived.Test.YtmocfielcllfmaaDoorTakeRowI
namespace Go.Proofs.YtmocfielcllfmaaDoor
open Go.RowKit

def replyS (s : St) : R4 × St :=
  let e := numS s
  let n := numS e.2
  let f := manyS factS n.2
  let a := valuesS f.2
  ((e.1, n.1, f.1, a.1), a.2)
def aggR (r : R4) (vf va : Value) : Value := .agg #[.int .i64 r.1, .int .i64 r.2.1, vf, va]
def ReplyP (r : R4 × St) (R pb B : Nat) (w : World) (e : Ending) (w' : World) : Prop :=
  ∃ vf va, e = .returned (aggR r.1 vf va) ∧ RowF w' w.heap.size vf r.1.2.2.1 ∧ RowV w' w.heap.size va r.1.2.2.2 ∧ RdS w' R pb B r.2 ∧ Fr pb w w'

def entryS (s : St) : E6 × St :=
  let t := numS s
  let k := octS t.2
  let n := numS k.2
  let q := numS n.2
  let c := commandS q.2
  let v := manyS numS c.2
  ((t.1, k.1, n.1, q.1, c.1, v.1), v.2)
def aggE (e : E6) (va vi : Value) : Value := .agg #[.int .i64 e.1, .int .u8 e.2.1, .int .i64 e.2.2.1, .int .i64 e.2.2.2.1, .int .u8 e.2.2.2.2.1.1, .string e.2.2.2.2.1.2.1, va, .int .i64 e.2.2.2.2.1.2.2.2, vi]
def EntryP (r : E6 × St) (R pb B : Nat) (w : World) (e : Ending) (w' : World) : Prop :=
  ∃ va vi, e = .returned (aggE r.1 va vi) ∧ RowV w' w.heap.size va r.1.2.2.2.2.1.2.2.1 ∧ RowI w' w.heap.size vi r.1.2.2.2.2.2 ∧ RdS w' R pb B r.2 ∧ Fr pb w w'

set_option maxRecDepth 100000 in
set_option maxHeartbeats 2000000 in
theorem reply_any (R pb B : Nat) (s : St) (w : World) (h : RdS w R pb B s) :
    Calls Tryd.prog 70 #[.pointer (some ⟨R, 0, none⟩)] w (ReplyP (replyS s) R pb B w) := by
  have HR0 := Lib.hid (h.alloc (.cells #[.int .i64 0, .int .i64 0, .slice none 0 0, .slice none 0 0] 63))
  have HF0 := Lib.hid (Fr.refl pb (w.alloc (.cells #[.int .i64 0, .int .i64 0, .slice none 0 0, .slice none 0 0] 63)))
  have hne : w.heap.size ≠ pb := by have := h.lp; have := h.lb; omega
  have hlt : pb < w.heap.size := Nat.lt_of_lt_of_le h.lp h.lb
  have hB := h.lb
  clear h
  unfold replyS
  have HC1 := Lib.hid (fun W h => integer_any R pb B s W h)
  generalize numS s = r1 at HC1 ⊢
  obtain ⟨x, s1⟩ := r1
  simp only at HC1 ⊢
  have HC2 := Lib.hid (fun W h => integer_any R pb B s1 W h)
  generalize numS s1 = r2 at HC2 ⊢
  obtain ⟨n, s2⟩ := r2
  simp only at HC2 ⊢
  have HC3 := Lib.hid (fun W h => takeF_any R pb B s2 W h)
  generalize manyS factS s2 = r3 at HC3 ⊢
  obtain ⟨f, s3⟩ := r3
  simp only at HC3 ⊢
  have HC4 := Lib.hid (fun W h => values_any R pb B s3 W h)
  generalize valuesS s3 = r4 at HC4 ⊢
  obtain ⟨a, s4⟩ := r4
  simp only at HC4 ⊢
  go_enter Tryd.func70, Tryd.ntmps70
  go_wp2_with (go_at_call 104; refine (HC1.out _ HR0.out).mono ?_; rintro e w1 ⟨rfl, hr, hf⟩; refine Hid.out ?_)
  have HR1 := Lib.hid hr
  have HF1 := Lib.hid (HF0.out.trans hf)
  clear hr hf HC1 HR0 HF0
  refine Lib.hid ?_
  go_wp2_with (go_at_call 104; refine (HC2.out _ HR1.out).mono ?_; rintro e w2 ⟨rfl, hr, hf⟩; refine Hid.out ?_)
  have HR2 := Lib.hid hr
  have HF2 := Lib.hid (HF1.out.trans hf)
  clear hr hf HC2 HR1 HF1
  refine Lib.hid ?_
  go_wp2_with (go_at_call 105; refine (HC3.out _ HR2.out).mono ?_; rintro e w3 ⟨v3, rfl, hrow, hr, hf⟩; obtain ⟨ao3, c3, rfl⟩ := hrow.slice; refine Hid.out ?_)
  have hsz3 : w.heap.size + 1 ≤ w2.heap.size := by have := HF2.out.size; simpa using this
  have HW3 := Lib.hid (hrow.mono hsz3)
  clear hrow
  have HR3 := Lib.hid hr
  have HF3 := Lib.hid (HF2.out.trans hf)
  clear hr hf HC3 HR2 HF2
  refine Lib.hid ?_
  go_wp2_with (go_at_call 63; refine (HC4.out _ HR3.out).mono ?_; rintro e w4 ⟨v4, rfl, hrow, hr, hf⟩; obtain ⟨ao4, c4, rfl⟩ := hrow.slice; refine Hid.out ?_)
  have HW3n := Lib.hid (HW3.out.fr hf (by omega))
  clear HW3
  have HW3 := Lib.hid HW3n.out
  clear HW3n
  have hsz4 : w.heap.size + 1 ≤ w3.heap.size := by have := HF3.out.size; simpa using this
  have HW4 := Lib.hid (hrow.mono hsz4)
  clear hrow
  have HR4 := Lib.hid hr
  have HF4 := Lib.hid (HF3.out.trans hf)
  obtain ⟨hc, hz⟩ := fret HF4.out hne
  clear hr hf HC4 HR3 HF3
  refine Lib.hid ?_
  go_wp2_with fail
  refine bodyPost_ret (R := ReplyP _ R pb B w) (v := .agg #[.int .i64 x, .int .i64 n, .slice ao3 f.length c3, .slice ao4 a.length c4]) (by simp [results, Tryd.results70, go_sem, hc]) rfl ?_
  exact ⟨_, _, rfl, (((((HW3.out.set (Nat.lt_succ_self _) 0 _).set (Nat.lt_succ_self _) 1 _).set (Nat.lt_succ_self _) 2 _).set (Nat.lt_succ_self _) 3 _).mono (Nat.le_succ _)), (((((HW4.out.set (Nat.lt_succ_self _) 0 _).set (Nat.lt_succ_self _) 1 _).set (Nat.lt_succ_self _) 2 _).set (Nat.lt_succ_self _) 3 _).mono (Nat.le_succ _)), ((((HR4.out.set hB 0 _).set hB 1 _).set hB 2 _).set hB 3 _), (((((((Fr.refl pb w).alloc (.cells #[.int .i64 0, .int .i64 0, .slice none 0 0, .slice none 0 0] 63)).trans HF4.out).setNew (Nat.le_refl _) 0 _).setNew (Nat.le_refl _) 1 _).setNew (Nat.le_refl _) 2 _).setNew (Nat.le_refl _) 3 _)⟩

set_option maxRecDepth 100000 in
set_option maxHeartbeats 2000000 in
theorem entry_any (R pb B : Nat) (s : St) (w : World) (h : RdS w R pb B s) :
    Calls Tryd.prog 73 #[.pointer (some ⟨R, 0, none⟩)] w (EntryP (entryS s) R pb B w) := by
  have HR0 := Lib.hid (h.alloc (.cells #[.int .i64 0, .int .u8 0, .int .i64 0, .int .i64 0, .int .u8 0, .string ⟨#[]⟩, .slice none 0 0, .int .i64 0, .slice none 0 0] 68))
  have HF0 := Lib.hid (Fr.refl pb (w.alloc (.cells #[.int .i64 0, .int .u8 0, .int .i64 0, .int .i64 0, .int .u8 0, .string ⟨#[]⟩, .slice none 0 0, .int .i64 0, .slice none 0 0] 68)))
  have hne : w.heap.size ≠ pb := by have := h.lp; have := h.lb; omega
  have hlt : pb < w.heap.size := Nat.lt_of_lt_of_le h.lp h.lb
  have hB := h.lb
  clear h
  unfold entryS
  have HC1 := Lib.hid (fun W h => integer_any R pb B s W h)
  generalize numS s = r1 at HC1 ⊢
  obtain ⟨t, s1⟩ := r1
  simp only at HC1 ⊢
  have HC2 := Lib.hid (fun W h => octet_any R pb B s1 W h)
  generalize octS s1 = r2 at HC2 ⊢
  obtain ⟨k, s2⟩ := r2
  simp only at HC2 ⊢
  have HC3 := Lib.hid (fun W h => integer_any R pb B s2 W h)
  generalize numS s2 = r3 at HC3 ⊢
  obtain ⟨n, s3⟩ := r3
  simp only at HC3 ⊢
  have HC4 := Lib.hid (fun W h => integer_any R pb B s3 W h)
  generalize numS s3 = r4 at HC4 ⊢
  obtain ⟨q, s4⟩ := r4
  simp only at HC4 ⊢
  have HC5 := Lib.hid (fun W h => command_any R pb B s4 W h)
  generalize commandS s4 = r5 at HC5 ⊢
  obtain ⟨c, s5⟩ := r5
  simp only at HC5 ⊢
  have HC6 := Lib.hid (fun W h => takeI_any R pb B s5 W h)
  generalize manyS numS s5 = r6 at HC6 ⊢
  obtain ⟨v, s6⟩ := r6
  simp only at HC6 ⊢
  go_enter Tryd.func73, Tryd.ntmps73
  go_wp2_with (go_at_call 104; refine (HC1.out _ HR0.out).mono ?_; rintro e w1 ⟨rfl, hr, hf⟩; refine Hid.out ?_)
  have HR1 := Lib.hid hr
  have HF1 := Lib.hid (HF0.out.trans hf)
  clear hr hf HC1 HR0 HF0
  refine Lib.hid ?_
  go_wp2_with (go_at_call 101; refine (HC2.out _ HR1.out).mono ?_; rintro e w2 ⟨rfl, hr, hf⟩; refine Hid.out ?_)
  have HR2 := Lib.hid hr
  have HF2 := Lib.hid (HF1.out.trans hf)
  clear hr hf HC2 HR1 HF1
  refine Lib.hid ?_
  go_wp2_with (go_at_call 104; refine (HC3.out _ HR2.out).mono ?_; rintro e w3 ⟨rfl, hr, hf⟩; refine Hid.out ?_)
  have HR3 := Lib.hid hr
  have HF3 := Lib.hid (HF2.out.trans hf)
  clear hr hf HC3 HR2 HF2
  refine Lib.hid ?_
  go_wp2_with (go_at_call 104; refine (HC4.out _ HR3.out).mono ?_; rintro e w4 ⟨rfl, hr, hf⟩; refine Hid.out ?_)
  have HR4 := Lib.hid hr
  have HF4 := Lib.hid (HF3.out.trans hf)
  clear hr hf HC4 HR3 HF3
  refine Lib.hid ?_
  go_wp2_with (go_at_call 67; refine (HC5.out _ HR4.out).mono ?_; rintro e w5 ⟨v5, rfl, hrow, hr, hf⟩; obtain ⟨ao5, c5, rfl⟩ := hrow.slice; refine Hid.out ?_)
  have hsz5 : w.heap.size + 1 ≤ w4.heap.size := by have := HF4.out.size; simpa using this
  have HW5 := Lib.hid (hrow.mono hsz5)
  clear hrow
  have HR5 := Lib.hid hr
  have HF5 := Lib.hid (HF4.out.trans hf)
  clear hr hf HC5 HR4 HF4
  refine Lib.hid ?_
  unfold aggC
  go_wp2_with (go_at_call 106; refine (HC6.out _ HR5.out).mono ?_; rintro e w6 ⟨v6, rfl, hrow, hr, hf⟩; obtain ⟨ao6, c6, rfl⟩ := hrow.slice; refine Hid.out ?_)
  have HW5n := Lib.hid (HW5.out.fr hf (by omega))
  clear HW5
  have HW5 := Lib.hid HW5n.out
  clear HW5n
  have hsz6 : w.heap.size + 1 ≤ w5.heap.size := by have := HF5.out.size; simpa using this
  have HW6 := Lib.hid (hrow.mono hsz6)
  clear hrow
  have HR6 := Lib.hid hr
  have HF6 := Lib.hid (HF5.out.trans hf)
  obtain ⟨hc, hz⟩ := fret HF6.out hne
  clear hr hf HC6 HR5 HF5
  refine Lib.hid ?_
  go_wp2_with fail
  refine bodyPost_ret (R := EntryP _ R pb B w) (v := .agg #[.int .i64 t, .int .u8 k, .int .i64 n, .int .i64 q, .int .u8 c.1, .string c.2.1, .slice ao5 c.2.2.1.length c5, .int .i64 c.2.2.2, .slice ao6 v.length c6]) (by simp [results, Tryd.results73, go_sem, hc]) rfl ?_
  exact ⟨_, _, rfl, ((((((((((HW5.out.set (Nat.lt_succ_self _) 0 _).set (Nat.lt_succ_self _) 1 _).set (Nat.lt_succ_self _) 2 _).set (Nat.lt_succ_self _) 3 _).set (Nat.lt_succ_self _) 4 _).set (Nat.lt_succ_self _) 5 _).set (Nat.lt_succ_self _) 6 _).set (Nat.lt_succ_self _) 7 _).set (Nat.lt_succ_self _) 8 _).mono (Nat.le_succ _)), ((((((((((HW6.out.set (Nat.lt_succ_self _) 0 _).set (Nat.lt_succ_self _) 1 _).set (Nat.lt_succ_self _) 2 _).set (Nat.lt_succ_self _) 3 _).set (Nat.lt_succ_self _) 4 _).set (Nat.lt_succ_self _) 5 _).set (Nat.lt_succ_self _) 6 _).set (Nat.lt_succ_self _) 7 _).set (Nat.lt_succ_self _) 8 _).mono (Nat.le_succ _)), (((((((((HR6.out.set hB 0 _).set hB 1 _).set hB 2 _).set hB 3 _).set hB 4 _).set hB 5 _).set hB 6 _).set hB 7 _).set hB 8 _), ((((((((((((Fr.refl pb w).alloc (.cells #[.int .i64 0, .int .u8 0, .int .i64 0, .int .i64 0, .int .u8 0, .string ⟨#[]⟩, .slice none 0 0, .int .i64 0, .slice none 0 0] 68)).trans HF6.out).setNew (Nat.le_refl _) 0 _).setNew (Nat.le_refl _) 1 _).setNew (Nat.le_refl _) 2 _).setNew (Nat.le_refl _) 3 _).setNew (Nat.le_refl _) 4 _).setNew (Nat.le_refl _) 5 _).setNew (Nat.le_refl _) 6 _).setNew (Nat.le_refl _) 7 _).setNew (Nat.le_refl _) 8 _)⟩
end Go.Proofs.YtmocfielcllfmaaDoor
