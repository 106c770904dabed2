/- Rows, facts, commands, replies, entries are put. -/
import Derived.Test.YtmocfielcllfmaaDoorWrite
namespace Go.Proofs.YtmocfielcllfmaaDoor
open Go.RowKit

/-- Cells in memory that was there at B. -/
def SlG (B : Nat) (w : World) (ao : Option Addr) (cs : List Value) : Prop := cs ≠ [] → ∃ sb off, ao = some ⟨sb, off, none⟩ ∧ sb < B ∧ ∀ (j : Nat) (u : Value), cs[j]? = some u → w.cell? ⟨sb, off + j, none⟩ = some u
theorem SlG.below {B : Nat} {w w' : World} {ao : Option Addr} {cs : List Value} (h : SlG B w ao cs) (b : Below B w w') : SlG B w' ao cs := fun hn => by
  obtain ⟨sb, off, e, lt, hc⟩ := h hn
  exact ⟨sb, off, e, lt, fun j u hu => (b.cell (p := ⟨sb, off + j, none⟩) lt).trans (hc j u hu)⟩
theorem cellsV_at (l : List V3) : ∀ (i : Nat) (h : i < l.length), (cellsV l)[i * 3]? = some (.int .u8 (l[i]).1) ∧ (cellsV l)[i * 3 + 1]? = some (.int .i64 (l[i]).2.1) ∧ (cellsV l)[i * 3 + 2]? = some (.string (l[i]).2.2) := by
  induction l with
  | nil => intro i h; cases h
  | cons x l ih =>
    intro i h
    match i, h with
    | 0, _ => exact ⟨rfl, rfl, rfl⟩
    | i + 1, h =>
      have := ih i (by simpa using h)
      rw [show (i + 1) * 3 = i * 3 + 3 by omega]
      simpa [cellsV] using this
theorem cellsF_at (l : List (F3 × Value)) : ∀ (i : Nat) (h : i < l.length), (cellsF l)[i * 3]? = some (.int .i64 (l[i]).1.1) ∧ (cellsF l)[i * 3 + 1]? = some (.int .i64 (l[i]).1.2.1) ∧ (cellsF l)[i * 3 + 2]? = some (l[i]).2 := by
  induction l with
  | nil => intro i h; cases h
  | cons x l ih =>
    intro i h
    match i, h with
    | 0, _ => exact ⟨rfl, rfl, rfl⟩
    | i + 1, h =>
      have := ih i (by simpa using h)
      rw [show (i + 1) * 3 = i * 3 + 3 by omega]
      simpa [cellsF] using this

def SlV (B : Nat) (w : World) (ao : Option Addr) (l : List V3) : Prop := SlG B w ao (cellsV l)
theorem SlV.below {B : Nat} {w w' : World} {ao : Option Addr} {l : List V3} (h : SlV B w ao l) (b : Below B w w') : SlV B w' ao l := SlG.below h b
theorem SlV.at {B : Nat} {w : World} {ao : Option Addr} {l : List V3} (h : SlV B w ao l) (hl : 0 < l.length) : ∃ sb off, ao = some ⟨sb, off, none⟩ ∧ sb < B ∧ ∀ i, (hi : i < l.length) → w.cell? ⟨sb, off + i * 3, none⟩ = some (.int .u8 (l[i]).1) ∧ w.cell? ⟨sb, off + i * 3 + 1, none⟩ = some (.int .i64 (l[i]).2.1) ∧ w.cell? ⟨sb, off + i * 3 + 2, none⟩ = some (.string (l[i]).2.2) := by
  obtain ⟨sb, off, e, lt, hc⟩ := h (by cases l with
    | nil => simp at hl
    | cons x l => simp [cellsV])
  refine ⟨sb, off, e, lt, fun i hi => ?_⟩
  obtain ⟨h1, h2, h3⟩ := cellsV_at l i hi
  exact ⟨hc _ _ h1, by rw [Nat.add_assoc]; exact hc _ _ h2, by rw [Nat.add_assoc]; exact hc _ _ h3⟩

/-- A row of facts, each with its values. -/
def SlF (B : Nat) (w : World) (ao : Option Addr) (l : List F3) : Prop :=
  ∃ ps : List (F3 × Value), ps.map Prod.fst = l ∧ SlG B w ao (cellsF ps) ∧ ∀ p, p ∈ ps → ∃ ao' c', p.2 = .slice ao' p.1.2.2.length c' ∧ SlV B w ao' p.1.2.2
theorem SlF.below {B : Nat} {w w' : World} {ao : Option Addr} {l : List F3} (h : SlF B w ao l) (b : Below B w w') : SlF B w' ao l := by
  obtain ⟨ps, h1, h2, h3⟩ := h
  refine ⟨ps, h1, h2.below b, fun p hp => ?_⟩
  obtain ⟨ao', c', e, hv⟩ := h3 p hp
  exact ⟨ao', c', e, hv.below b⟩
theorem SlF.at {B : Nat} {w : World} {ao : Option Addr} {l : List F3} (h : SlF B w ao l) (hl : 0 < l.length) : ∃ sb off, ao = some ⟨sb, off, none⟩ ∧ sb < B ∧ ∀ i, (hi : i < l.length) → ∃ ao' c', w.cell? ⟨sb, off + i * 3, none⟩ = some (.int .i64 (l[i]).1) ∧ w.cell? ⟨sb, off + i * 3 + 1, none⟩ = some (.int .i64 (l[i]).2.1) ∧ w.cell? ⟨sb, off + i * 3 + 2, none⟩ = some (.slice ao' (l[i]).2.2.length c') ∧ SlV B w ao' (l[i]).2.2 := by
  obtain ⟨ps, rfl, h2, h3⟩ := h
  have hpl : 0 < ps.length := by simpa using hl
  obtain ⟨sb, off, e, lt, hc⟩ := h2 (by cases ps with
    | nil => simp at hpl
    | cons x l => simp [cellsF])
  refine ⟨sb, off, e, lt, fun i hi => ?_⟩
  have hi' : i < ps.length := by simpa using hi
  obtain ⟨h1, h2, h4⟩ := cellsF_at ps i hi'
  obtain ⟨ao', c', e1, hv⟩ := h3 ps[i] (List.getElem_mem hi')
  rw [e1] at h4
  refine ⟨ao', c', ?_⟩
  rw [List.getElem_map]
  exact ⟨hc _ _ h1, by rw [Nat.add_assoc]; exact hc _ _ h2, by rw [Nat.add_assoc]; exact hc _ _ h4, hv⟩

/-- Numbers in memory that stays while a writer writes. -/
def SlN (B b : Nat) (w : World) (ao : Option Addr) (l : List Int) : Prop :=
  0 < l.length → ∃ sb off, ao = some ⟨sb, off, none⟩ ∧ (sb < B ∨ (sb ≠ b ∧ ∃ cs t fz, w.heap[sb]? = some (.cells cs t fz) ∧ t ≠ 5)) ∧ ∀ j, (h : j < l.length) → w.cell? ⟨sb, off + j, none⟩ = some (.int .i64 l[j])
theorem SlN.wfr {B b : Nat} {w w' : World} {ao : Option Addr} {l : List Int} (h : SlN B b w ao l) (f : WFr B b w w') : SlN B b w' ao l := fun hl => by
  obtain ⟨sb, off, e, ho, hc⟩ := h hl
  have hb : w'.heap[sb]? = w.heap[sb]? := by
    rcases ho with lt | ⟨ne, cs, t, fz, hh, ht⟩
    · exact f.bel.block sb lt
    · rw [hh]; exact f.keep hh ne ht
  refine ⟨sb, off, e, ?_, fun j hj => (World.cell?_of_block (a := ⟨sb, off + j, none⟩) hb).trans (hc j hj)⟩
  rcases ho with lt | ⟨ne, cs, t, fz, hh, ht⟩
  · exact Or.inl lt
  · exact Or.inr ⟨ne, cs, t, fz, hb.trans hh, ht⟩

theorem flat_take {α : Type} (f : α → List UInt8) (l : List α) (j : Nat) (h : j < l.length) : (l.take (j + 1)).flatMap f = (l.take j).flatMap f ++ f l[j] := by
  rw [List.take_add_one, List.getElem?_eq_getElem h, List.flatMap_append]
  simp
theorem flat_take_le {α : Type} (f : α → List UInt8) (l : List α) (j : Nat) (h : j < l.length) : ((l.take j).flatMap f).length + (f l[j]).length ≤ (l.flatMap f).length := by
  have e : l.flatMap f = (l.take (j + 1)).flatMap f ++ (l.drop (j + 1)).flatMap f := by rw [← List.flatMap_append, List.take_append_drop]
  rw [e, flat_take f l j h, List.length_append, List.length_append]
  omega

set_option maxRecDepth 100000 in
set_option maxHeartbeats 1000000 in
theorem putNumbers (B b : Nat) (bs : List UInt8) (ao : Option Addr) (l : List Int) (c : Nat) (hm : l.length ≤ 9223372036854775807) (w : World) (h : Wr w B b bs) (hs : SlN B b w ao l) (hl : bs.length + (l.flatMap numB).length ≤ 140737488355328) :
    Calls Tryd.prog 107 #[.pointer (some ⟨b, 0, none⟩), .slice ao l.length c] w (PutP (bs ++ l.flatMap numB) B b w) := by
  have HW := Lib.hid h
  have HS := Lib.hid hs
  have HL := Lib.hid hl
  clear h hs hl
  go_enter Tryd.func107, Tryd.ntmps107
  go_wp2_with fail
  go_loopw [5, 8] (fun x i wr => ∃ j : Nat, j ≤ l.length ∧ i = .int .i64 j ∧ Wr wr B b (bs ++ (l.take j).flatMap numB) ∧ WFr B b w wr) (fun _ i _ => l.length - (intOf i).toNat)
  case atStart => exact ⟨0, by omega, rfl, by simpa using HW.out, WFr.refl _ _ _⟩
  case round =>
    obtain ⟨j, hj, rfl, hwr, hfr⟩ := hrel
    have HWr := Lib.hid hwr
    have HFr := Lib.hid hfr
    clear hwr hfr HW
    by_cases hlt : j < l.length
    · obtain ⟨sb, off, rfl, -, hc⟩ := (HS.out.wfr HFr.out) (by omega)
      have c1 := hc j hlt
      have HT := Lib.hid (flat_take numB l j hlt)
      have HLe := Lib.hid (flat_take_le numB l j hlt)
      have hn8 : (numB l[j]).length = 8 := by unfold numB; rw [beB_length]
      have HC := Lib.hid (putNumber B b (bs ++ (l.take j).flatMap numB) l[j] wr HWr.out (by have := HL.out; have := HLe.out; rw [List.length_append]; omega))
      clear hc hn8 HLe
      generalize l[j] = z at c1 HT HC
      go_wp2_with (go_at_call 79; refine (HC.out).mono ?_; rintro e w1 ⟨rfl, h1, h2⟩; refine Hid.out ?_)
      have H1 := Lib.hid h1
      have H2 := Lib.hid h2
      clear h1 h2 c1 HC
      refine Lib.hid ?_
      go_wp2_with fail
      go_roundw
      case rel => exact ⟨j + 1, by omega, by go_num, by rw [HT.out, ← List.append_assoc]; exact H1.out, HFr.out.trans H2.out⟩
      case measure => simp [intOf]; omega
    · obtain rfl : j = l.length := by omega
      rw [List.take_length] at HWr
      go_wp2
      first | go_end0 | go_ret
      exact ⟨rfl, HWr.out, HFr.out⟩

def OkV (x : V3) : Prop := In8 x.1
def OkVs (l : List V3) : Prop := l.length ≤ 9223372036854775807 ∧ ∀ x, x ∈ l → OkV x
def OkF (f : F3) : Prop := OkVs f.2.2

set_option maxRecDepth 100000 in
set_option maxHeartbeats 1000000 in
theorem putRowV (B b : Nat) (bs : List UInt8) (ao : Option Addr) (l : List V3) (c : Nat) (hm : l.length ≤ 9223372036854775807) (hok : ∀ x, x ∈ l → OkV x) (w : World) (h : Wr w B b bs) (hs : SlV B w ao l) (hl : bs.length + (manyB valB l).length ≤ 140737488355328) :
    Calls Tryd.prog 113 #[.pointer (some ⟨b, 0, none⟩), .func (.func 85) #[.pointer (some ⟨b, 0, none⟩)] #[], .slice ao l.length c] w (PutP (bs ++ manyB valB l) B b w) := by
  have HM : Hid (bs ++ manyB valB l = bs ++ countB l.length ++ l.flatMap valB) := by unfold Hid manyB; rw [List.append_assoc]
  have h4 : (countB l.length).length = 4 := by unfold countB; rw [beB_length]
  have HL : Hid ((bs ++ countB l.length).length + (l.flatMap valB).length ≤ 140737488355328) := by
    unfold Hid
    unfold manyB at hl
    rw [List.length_append] at hl ⊢
    omega
  have HK := Lib.hid (putCount B b bs l.length hm w h (by have := HL.out; rw [List.length_append] at this; omega))
  have HS := Lib.hid hs
  have HOK := Lib.hid hok
  have HB := Lib.hid h.le
  rw [HM.out]
  generalize countB l.length = cb at HL HK
  clear h hs hl h4 HM hok
  have e0 : ∀ args w, (callFunc 85 args).run Tryd.prog w = .ok (.enter 85 args) w := enters_of Tryd.func85 (by kernel_rfl) rfl
  go_enter Tryd.func113, Tryd.ntmps113
  go_wp2_with (go_at_call 109; refine (HK.out).mono ?_; rintro e w0 ⟨rfl, h1, h2⟩; refine Hid.out ?_)
  have H1 := Lib.hid h1
  have H2 := Lib.hid h2
  clear h1 h2 HK
  refine Lib.hid ?_
  go_wp2_with fail
  go_loopw [7, 14] (fun x i wr => ∃ j : Nat, j ≤ l.length ∧ i = .int .i64 j ∧ Wr wr B b (bs ++ cb ++ (l.take j).flatMap valB) ∧ WFr B b w wr) (fun _ i _ => l.length - (intOf i).toNat)
  case atStart => exact ⟨0, by omega, rfl, by simpa using H1.out, H2.out⟩
  case round =>
    obtain ⟨j, hj, rfl, hwr, hfr⟩ := hrel
    have HWr := Lib.hid hwr
    have HFr := Lib.hid hfr
    clear hwr hfr H1 H2
    by_cases hlt : j < l.length
    · obtain ⟨sb, off, rfl, hsb, hc⟩ := (HS.out.below HFr.out.bel).at (by omega)
      obtain ⟨c1, c2, c3⟩ := hc j hlt
      have HT := Lib.hid (flat_take valB l j hlt)
      have HLe := Lib.hid (flat_take_le valB l j hlt)
      have hB1 := HWr.out.le
      have HC := Lib.hid (putValue B b (bs ++ cb ++ (l.take j).flatMap valB) l[j] (HOK.out l[j] (List.getElem_mem hlt)) (wr.alloc (.cells #[.int .u8 (l[j]).1, .int .i64 (l[j]).2.1, .string (l[j]).2.2] 46)) (HWr.out.alloc _) (by have q1 := HL.out; have q2 := HLe.out; simp only [List.length_append] at q1 ⊢; omega))
      have hne : wr.heap.size ≠ b := by have := HWr.out.lt; omega
      clear hc HLe
      generalize l[j] = z at c1 c2 c3 HT HC
      go_wp2_with (go_at_call 85; refine (HC.out).mono ?_; rintro e w1 ⟨rfl, h1, h2⟩; refine Hid.out ?_)
      have H1 := Lib.hid h1
      have H2 := Lib.hid h2
      clear h1 h2 c1 c2 c3 HC hne
      refine Lib.hid ?_
      go_wp2_with fail
      go_roundw
      case rel => exact ⟨j + 1, by omega, by go_num, by rw [HT.out, ← List.append_assoc]; exact H1.out, (HFr.out.alloc hB1 _).trans H2.out⟩
      case measure => simp [intOf]; omega
    · obtain rfl : j = l.length := by omega
      rw [List.take_length] at HWr
      go_wp2
      first | go_end0 | go_ret
      exact ⟨rfl, HWr.out, HFr.out⟩

theorem putValues (B b : Nat) (bs : List UInt8) (ao : Option Addr) (l : List V3) (c : Nat) (hok : OkVs l) (w : World) (h : Wr w B b bs) (hs : SlV B w ao l) (hl : bs.length + (valsB l).length ≤ 140737488355328) :
    Calls Tryd.prog 87 #[.pointer (some ⟨b, 0, none⟩), .slice ao l.length c] w (PutP (bs ++ valsB l) B b w) := by
  have HC := Lib.hid (putRowV B b bs ao l c hok.1 hok.2 w h hs hl)
  unfold valsB
  clear h hs hl hok
  go_enter Tryd.func87, Tryd.ntmps87
  go_wp2_with (go_at_call 113; refine (HC.out).mono ?_; rintro e w1 ⟨rfl, h1, h2⟩)
  first | go_end0 | go_ret
  exact ⟨rfl, h1, h2⟩

set_option maxRecDepth 100000 in
set_option maxHeartbeats 1000000 in
theorem putFact (B b : Nat) (bs : List UInt8) (f : F3) (ao : Option Addr) (c : Nat) (hok : OkF f) (w : World) (h : Wr w B b bs) (hs : SlV B w ao f.2.2) (hl : bs.length + (factB f).length ≤ 140737488355328) :
    Calls Tryd.prog 89 #[.pointer (some ⟨b, 0, none⟩), .agg #[.int .i64 f.1, .int .i64 f.2.1, .slice ao f.2.2.length c]] w (PutP (bs ++ factB f) B b w) := by
  obtain ⟨i, t, a⟩ := f
  have HE : Hid (bs ++ factB (i, t, a) = bs ++ [i, t].flatMap numB ++ valsB a) := by
    unfold Hid factB
    simp only [List.flatMap_cons, List.flatMap_nil, List.append_nil, List.append_assoc]
  have HL : Hid ((bs ++ [i, t].flatMap numB ++ valsB a).length ≤ 140737488355328) := by rw [← HE.out, List.length_append]; exact hl
  rw [HE.out]
  have hne : w.heap.size ≠ b := by have := h.lt; omega
  have hne1 : w.heap.size + 1 ≠ b := by have := h.lt; omega
  have hB := h.le
  have HN := Lib.hid (putNumbers B b bs (some ⟨w.heap.size + 1, 0, none⟩) [i, t] 2 (by simp) ((w.alloc (.cells #[.int .i64 i, .int .i64 t, .slice ao a.length c] 52)).alloc (.cells #[.int .i64 i, .int .i64 t] 3)) ((h.alloc _).alloc _) (fun _ => by
    have hh : ((w.alloc (.cells #[.int .i64 i, .int .i64 t, .slice ao a.length c] 52)).alloc (.cells #[.int .i64 i, .int .i64 t] 3)).heap[w.heap.size + 1]? = some (.cells #[.int .i64 i, .int .i64 t] 3 (0, 0)) := by
      have := heap_alloc_new (w.alloc (.cells #[.int .i64 i, .int .i64 t, .slice ao a.length c] 52)) (.cells #[.int .i64 i, .int .i64 t] 3)
      simpa using this
    refine ⟨_, 0, rfl, Or.inr ⟨hne1, _, _, _, hh, by decide⟩, fun j hj => ?_⟩
    rw [Nat.zero_add, Lib.cell_of_heap hh]
    match j, hj with
    | 0, _ => rfl
    | 1, _ => rfl) (by have := HL.out; rw [List.length_append, List.length_append] at this; omega))
  have HV := Lib.hid (fun W h hs => putValues B b (bs ++ [i, t].flatMap numB) ao a c hok W h hs (by have := HL.out; rw [List.length_append] at this; exact this))
  have HS := Lib.hid (hs.below (((Below.refl B w).alloc hB (.cells #[.int .i64 i, .int .i64 t, .slice ao a.length c] 52)).alloc (by simp; omega) (.cells #[.int .i64 i, .int .i64 t] 3)))
  simp only at HS HV ⊢
  generalize [i, t].flatMap numB = nb at HN HV
  clear h hs hl hok HE HL
  go_enter Tryd.func89, Tryd.ntmps89
  go_wp2_with (go_at_call 107; refine (HN.out).mono ?_; rintro e w1 ⟨rfl, h1, h2⟩; refine Hid.out ?_)
  have H1 := Lib.hid h1
  have H2 := Lib.hid h2
  obtain ⟨hc, hz⟩ := wret (((WFr.refl B b (w.alloc (.cells #[.int .i64 i, .int .i64 t, .slice ao a.length c] 52))).alloc (by simp; omega) _).trans h2) hne (by decide)
  clear h1 h2 HN
  refine Lib.hid ?_
  go_wp2_with (go_at_call 87; refine (HV.out _ H1.out (HS.out.below H2.out.bel)).mono ?_; rintro e w2 ⟨rfl, h1, h2⟩)
  first | go_end0 | go_ret
  exact ⟨rfl, h1, (((WFr.refl B b w).alloc hB _).alloc (by simp; omega) _ |>.trans H2.out).trans h2⟩

set_option maxRecDepth 100000 in
set_option maxHeartbeats 1000000 in
theorem putRowF (B b : Nat) (bs : List UInt8) (ao : Option Addr) (l : List F3) (c : Nat) (hm : l.length ≤ 9223372036854775807) (hok : ∀ x, x ∈ l → OkF x) (w : World) (h : Wr w B b bs) (hs : SlF B w ao l) (hl : bs.length + (manyB factB l).length ≤ 140737488355328) :
    Calls Tryd.prog 112 #[.pointer (some ⟨b, 0, none⟩), .func (.func 89) #[.pointer (some ⟨b, 0, none⟩)] #[], .slice ao l.length c] w (PutP (bs ++ manyB factB l) B b w) := by
  have HM : Hid (bs ++ manyB factB l = bs ++ countB l.length ++ l.flatMap factB) := by unfold Hid manyB; rw [List.append_assoc]
  have h4 : (countB l.length).length = 4 := by unfold countB; rw [beB_length]
  have HL : Hid ((bs ++ countB l.length).length + (l.flatMap factB).length ≤ 140737488355328) := by
    unfold Hid
    unfold manyB at hl
    rw [List.length_append] at hl ⊢
    omega
  have HK := Lib.hid (putCount B b bs l.length hm w h (by have := HL.out; rw [List.length_append] at this; omega))
  have HS := Lib.hid hs
  have HOK := Lib.hid hok
  have HB := Lib.hid h.le
  rw [HM.out]
  generalize countB l.length = cb at HL HK
  clear h hs hl h4 HM hok
  have e0 : ∀ args w, (callFunc 89 args).run Tryd.prog w = .ok (.enter 89 args) w := enters_of Tryd.func89 (by kernel_rfl) rfl
  go_enter Tryd.func112, Tryd.ntmps112
  go_wp2_with (go_at_call 109; refine (HK.out).mono ?_; rintro e w0 ⟨rfl, h1, h2⟩; refine Hid.out ?_)
  have H1 := Lib.hid h1
  have H2 := Lib.hid h2
  clear h1 h2 HK
  refine Lib.hid ?_
  go_wp2_with fail
  go_loopw [7, 14] (fun x i wr => ∃ j : Nat, j ≤ l.length ∧ i = .int .i64 j ∧ Wr wr B b (bs ++ cb ++ (l.take j).flatMap factB) ∧ WFr B b w wr) (fun _ i _ => l.length - (intOf i).toNat)
  case atStart => exact ⟨0, by omega, rfl, by simpa using H1.out, H2.out⟩
  case round =>
    obtain ⟨j, hj, rfl, hwr, hfr⟩ := hrel
    have HWr := Lib.hid hwr
    have HFr := Lib.hid hfr
    clear hwr hfr H1 H2
    by_cases hlt : j < l.length
    · obtain ⟨sb, off, rfl, hsb, hc⟩ := (HS.out.below HFr.out.bel).at (by omega)
      obtain ⟨ao1, k1, c1, c2, c3, hsv⟩ := hc j hlt
      have HT := Lib.hid (flat_take factB l j hlt)
      have HLe := Lib.hid (flat_take_le factB l j hlt)
      have hB1 := HWr.out.le
      have HC := Lib.hid (putFact B b (bs ++ cb ++ (l.take j).flatMap factB) l[j] ao1 k1 (HOK.out l[j] (List.getElem_mem hlt)) (wr.alloc (.cells #[.int .i64 (l[j]).1, .int .i64 (l[j]).2.1, .slice ao1 (l[j]).2.2.length k1] 52)) (HWr.out.alloc _) (hsv.below ((Below.refl B wr).alloc hB1 _)) (by have q1 := HL.out; have q2 := HLe.out; simp only [List.length_append] at q1 ⊢; omega))
      have hne : wr.heap.size ≠ b := by have := HWr.out.lt; omega
      clear hc HLe
      generalize l[j] = z at c1 c2 c3 HT HC
      go_wp2_with (go_at_call 89; refine (HC.out).mono ?_; rintro e w1 ⟨rfl, h1, h2⟩; refine Hid.out ?_)
      have H1 := Lib.hid h1
      have H2 := Lib.hid h2
      clear h1 h2 c1 c2 c3 HC hne
      refine Lib.hid ?_
      go_wp2_with fail
      go_roundw
      case rel => exact ⟨j + 1, by omega, by go_num, by rw [HT.out, ← List.append_assoc]; exact H1.out, (HFr.out.alloc hB1 _).trans H2.out⟩
      case measure => simp [intOf]; omega
    · obtain rfl : j = l.length := by omega
      rw [List.take_length] at HWr
      go_wp2
      first | go_end0 | go_ret
      exact ⟨rfl, HWr.out, HFr.out⟩
end Go.Proofs.YtmocfielcllfmaaDoor
