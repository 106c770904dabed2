/- Commands, replies, entries are put. -/
import Derived.Test.YtmocfielcllfmaaDoorPut
namespace Go.Proofs.YtmocfielcllfmaaDoor
open Go.RowKit

theorem putOne (B b : Nat) (bs : List UInt8) (n : Int) (w : World) (h : Wr w B b bs) (hl : bs.length + 8 ≤ 140737488355328) :
    Calls Tryd.prog 107 #[.pointer (some ⟨b, 0, none⟩), .slice (some ⟨w.heap.size, 0, none⟩) 1 1] (w.alloc (.cells #[.int .i64 n] 3)) (PutP (bs ++ numB n) B b (w.alloc (.cells #[.int .i64 n] 3))) := by
  have hh := heap_alloc_new w (.cells #[.int .i64 n] 3)
  have hne : w.heap.size ≠ b := by have := h.lt; omega
  have := putNumbers B b bs (some ⟨w.heap.size, 0, none⟩) [n] 1 (by simp) _ (h.alloc (.cells #[.int .i64 n] 3)) (fun _ => ⟨_, 0, rfl, Or.inr ⟨hne, _, _, _, hh, by decide⟩, fun j hj => by
    rw [Nat.zero_add, Lib.cell_of_heap hh]
    match j, hj with
    | 0, _ => rfl⟩) (by simpa [numB, beB_length] using hl)
  simpa using this

theorem putTwo (B b : Nat) (bs : List UInt8) (n m : Int) (w : World) (h : Wr w B b bs) (hl : bs.length + 16 ≤ 140737488355328) :
    Calls Tryd.prog 107 #[.pointer (some ⟨b, 0, none⟩), .slice (some ⟨w.heap.size, 0, none⟩) 2 2] (w.alloc (.cells #[.int .i64 n, .int .i64 m] 3)) (PutP (bs ++ numB n ++ numB m) B b (w.alloc (.cells #[.int .i64 n, .int .i64 m] 3))) := by
  have hh := heap_alloc_new w (.cells #[.int .i64 n, .int .i64 m] 3)
  have hne : w.heap.size ≠ b := by have := h.lt; omega
  have := putNumbers B b bs (some ⟨w.heap.size, 0, none⟩) [n, m] 2 (by simp) _ (h.alloc (.cells #[.int .i64 n, .int .i64 m] 3)) (fun _ => ⟨_, 0, rfl, Or.inr ⟨hne, _, _, _, hh, by decide⟩, fun j hj => by
    rw [Nat.zero_add, Lib.cell_of_heap hh]
    match j, hj with
    | 0, _ => rfl
    | 1, _ => rfl⟩) (by simpa [numB, beB_length] using hl)
  simpa using this

theorem putOne' (B b : Nat) (bs : List UInt8) (n : Int) (w : World) (g : Nat) (hg : g = w.heap.size) (h : Wr w B b bs) (hl : bs.length + 8 ≤ 140737488355328) :
    Calls Tryd.prog 107 #[.pointer (some ⟨b, 0, none⟩), .slice (some ⟨g, 0, none⟩) 1 1] (w.alloc (.cells #[.int .i64 n] 3)) (PutP (bs ++ numB n) B b (w.alloc (.cells #[.int .i64 n] 3))) := by
  subst hg
  exact putOne B b bs n w h hl
theorem putTwo' (B b : Nat) (bs : List UInt8) (n m : Int) (w : World) (g : Nat) (hg : g = w.heap.size) (h : Wr w B b bs) (hl : bs.length + 16 ≤ 140737488355328) :
    Calls Tryd.prog 107 #[.pointer (some ⟨b, 0, none⟩), .slice (some ⟨g, 0, none⟩) 2 2] (w.alloc (.cells #[.int .i64 n, .int .i64 m] 3)) (PutP (bs ++ numB n ++ numB m) B b (w.alloc (.cells #[.int .i64 n, .int .i64 m] 3))) := by
  subst hg
  exact putTwo B b bs n m w h hl

theorem wkeep {B b : Nat} {w1 w2 : World} {cs : Array Value} {t : TypeId} {g : Nat} (h : w1.heap[g]? = some (.cells cs t (0, 0))) (f : WFr B b w1 w2) (ne : g ≠ b) (ht : t ≠ 5) : (∀ j, w2.cell? ⟨g, j, none⟩ = cs[j]?) ∧ w2.heap[g]? = some (.cells cs t (0, 0)) := by
  have hb := f.keep h ne ht
  exact ⟨fun j => Lib.cell_of_heap hb j, hb⟩

theorem oct8 {k : Int} (h : In8 k) : k = ((UInt8.ofNat k.toNat).toNat : Int) := by
  obtain ⟨h1, h2⟩ := h
  rw [UInt8.toNat_ofNat']
  omega

def OkC (c : C4) : Prop := In8 c.1 ∧ OkVs c.2.2.1

set_option maxRecDepth 100000 in
set_option maxHeartbeats 2000000 in
theorem putCommand (B b : Nat) (bs : List UInt8) (q : C4) (ao : Option Addr) (c : Nat) (hok : OkC q) (w : World) (h : Wr w B b bs) (hs : SlV B w ao q.2.2.1) (hl : bs.length + (commandB q).length ≤ 140737488355328) :
    Calls Tryd.prog 91 #[.pointer (some ⟨b, 0, none⟩), .agg #[.int .u8 q.1, .string q.2.1, .slice ao q.2.2.1.length c, .int .i64 q.2.2.2]] w (PutP (bs ++ commandB q) B b w) := by
  obtain ⟨k, x, a, n⟩ := q
  obtain ⟨hk, ha⟩ := hok
  simp only at hk ha hs ⊢
  have HE : Hid (bs ++ commandB (k, x, a, n) = bs ++ [UInt8.ofNat k.toNat] ++ textB x ++ numB n ++ valsB a) := by
    unfold Hid commandB octB
    simp only [List.append_assoc]
  have HL : Hid ((bs ++ [UInt8.ofNat k.toNat] ++ textB x ++ numB n ++ valsB a).length ≤ 140737488355328) := by rw [← HE.out, List.length_append]; exact hl
  rw [HE.out]
  have h8 : (numB n).length = 8 := by unfold numB; rw [beB_length]
  have hne : w.heap.size ≠ b := by have := h.lt; omega
  have hB := h.le
  have HO := Lib.hid (fun W h => putByte B b bs (UInt8.ofNat k.toNat) k (oct8 hk) W h (by have q1 := HL.out; simp only [List.length_append, List.length_cons, List.length_nil] at q1; omega))
  have HT := Lib.hid (fun W h => putText B b (bs ++ [UInt8.ofNat k.toNat]) x W h (by have q1 := HL.out; simp only [List.length_append] at q1 ⊢; omega))
  have HN := Lib.hid (fun W h => putOne B b (bs ++ [UInt8.ofNat k.toNat] ++ textB x) n W h (by have q1 := HL.out; simp only [List.length_append] at q1 ⊢; omega))
  have HV := Lib.hid (fun W h hs => putValues B b (bs ++ [UInt8.ofNat k.toNat] ++ textB x ++ numB n) ao a c ha W h hs (by have q1 := HL.out; simp only [List.length_append] at q1 ⊢; omega))
  have H0 := Lib.hid (h.alloc (.cells #[.int .u8 k, .string x, .slice ao a.length c, .int .i64 n] 57))
  have HS := Lib.hid (hs.below ((Below.refl B w).alloc hB (.cells #[.int .u8 k, .string x, .slice ao a.length c, .int .i64 n] 57)))
  have HA := Lib.hid (heap_alloc_new w (.cells #[.int .u8 k, .string x, .slice ao a.length c, .int .i64 n] 57))
  clear h hs hl hk ha h8 HE HL
  generalize UInt8.ofNat k.toNat = k8 at HO HT HN HV
  generalize textB x = tb at HT HN HV
  generalize numB n = nb at HN HV
  generalize valsB a = vb at HV
  go_enter Tryd.func91, Tryd.ntmps91
  go_wp2_with fail
  go_region_with (go_at_call 108; refine (HO.out _ ?_).mono ?_; (first | exact H0.out | exact H0.out.drew); rintro e w1 ⟨rfl, h1, h2⟩; have H1 := Lib.hid h1; have H2 := Lib.hid ((WFr.refl B b (w.alloc (.cells #[.int .u8 k, .string x, .slice ao a.length c, .int .i64 n] 57))).drew.trans h2); clear h1 h2)
  all_goals
    obtain ⟨hc, hh⟩ := wkeep HA.out H2.out hne (by decide)
    have HH := Lib.hid hh
    clear hh HO HA
    refine Hid.out ?_
    refine Lib.hid ?_
    go_wp2_with (go_at_call 81; refine (HT.out _ H1.out).mono ?_; rintro e w2 ⟨rfl, h1, h2⟩; refine Hid.out ?_)
    obtain ⟨hc2, hh⟩ := wkeep HH.out h2 hne (by decide)
    have HH2 := Lib.hid hh
    have H3 := Lib.hid h1
    have H4 := Lib.hid (H2.out.trans h2)
    have hB2 := h1.le
    clear h1 h2 hc HT H1 H2 HH hh
    refine Lib.hid ?_
    go_wp2_with (go_at_call 107; refine (HN.out _ H3.out).mono ?_; rintro e w3 ⟨rfl, h1, h2⟩; refine Hid.out ?_)
    obtain ⟨hc3, hh⟩ := wkeep HH2.out (((WFr.refl B b w2).alloc hB2 _).trans h2) hne (by decide)
    have H5 := Lib.hid h1
    have H6 := Lib.hid ((H4.out.alloc hB2 _).trans h2)
    clear h1 h2 hc2 HN H3 H4 HH2 hh
    refine Lib.hid ?_
    go_wp2_with (go_at_call 87; refine (HV.out _ H5.out (HS.out.below H6.out.bel)).mono ?_; rintro e w4 ⟨rfl, h1, h2⟩)
    first | go_end0 | go_ret
    exact ⟨rfl, h1, (((WFr.refl B b w).alloc hB _).trans H6.out).trans h2⟩

def OkR (r : R4) : Prop := (r.2.2.1.length ≤ 9223372036854775807 ∧ ∀ x, x ∈ r.2.2.1 → OkF x) ∧ OkVs r.2.2.2

set_option maxRecDepth 100000 in
set_option maxHeartbeats 2000000 in
theorem putReply (B b : Nat) (bs : List UInt8) (q : R4) (aof : Option Addr) (cf : Nat) (ao : Option Addr) (c : Nat) (hok : OkR q) (w : World) (h : Wr w B b bs) (hf : SlF B w aof q.2.2.1) (hs : SlV B w ao q.2.2.2) (hl : bs.length + (replyB q).length ≤ 140737488355328) :
    Calls Tryd.prog 83 #[.pointer (some ⟨b, 0, none⟩), .agg #[.int .i64 q.1, .int .i64 q.2.1, .slice aof q.2.2.1.length cf, .slice ao q.2.2.2.length c]] w (PutP (bs ++ replyB q) B b w) := by
  obtain ⟨k, n, f, a⟩ := q
  obtain ⟨hfo, ha⟩ := hok
  simp only at hfo ha hs hf ⊢
  have HE : Hid (bs ++ replyB (k, n, f, a) = bs ++ numB k ++ numB n ++ manyB factB f ++ valsB a) := by
    unfold Hid replyB
    simp only [List.append_assoc]
  have HL : Hid ((bs ++ numB k ++ numB n ++ manyB factB f ++ valsB a).length ≤ 140737488355328) := by rw [← HE.out, List.length_append]; exact hl
  rw [HE.out]
  have h8 : (numB n).length = 8 := by unfold numB; rw [beB_length]
  have h8' : (numB k).length = 8 := by unfold numB; rw [beB_length]
  have hne : w.heap.size ≠ b := by have := h.lt; omega
  have hB := h.le
  have HN := Lib.hid (fun W g hg h => putTwo' B b bs k n W g hg h (by have q1 := HL.out; simp only [List.length_append] at q1; omega))
  have HF := Lib.hid (fun W h hs => putRowF B b (bs ++ numB k ++ numB n) aof f cf hfo.1 hfo.2 W h hs (by have q1 := HL.out; simp only [List.length_append] at q1 ⊢; omega))
  have HV := Lib.hid (fun W h hs => putValues B b (bs ++ numB k ++ numB n ++ manyB factB f) ao a c ha W h hs (by have q1 := HL.out; simp only [List.length_append] at q1 ⊢; omega))
  have H0 := Lib.hid (h.alloc (.cells #[.int .i64 k, .int .i64 n, .slice aof f.length cf, .slice ao a.length c] 63))
  have HS := Lib.hid (hs.below ((Below.refl B w).alloc hB (.cells #[.int .i64 k, .int .i64 n, .slice aof f.length cf, .slice ao a.length c] 63)))
  have HSF := Lib.hid (hf.below ((Below.refl B w).alloc hB (.cells #[.int .i64 k, .int .i64 n, .slice aof f.length cf, .slice ao a.length c] 63)))
  have HA := Lib.hid (heap_alloc_new w (.cells #[.int .i64 k, .int .i64 n, .slice aof f.length cf, .slice ao a.length c] 63))
  have hB1 := H0.out.le
  clear h hs hl hf hfo ha h8 h8' HE HL
  generalize numB k = kb at HN HF HV
  generalize numB n = nb at HN HF HV
  generalize manyB factB f = fb at HF HV
  generalize valsB a = vb at HV
  have e0 : ∀ args w, (callFunc 89 args).run Tryd.prog w = .ok (.enter 89 args) w := enters_of Tryd.func89 (by kernel_rfl) rfl
  go_enter Tryd.func83, Tryd.ntmps83
  go_wp2_with (go_at_call 107; refine (HN.out _ (w.heap.size + 1) (by simp) H0.out).mono ?_; rintro e w1 ⟨rfl, h1, h2⟩; refine Hid.out ?_)
  have H2 := Lib.hid (((WFr.refl B b (w.alloc (.cells #[.int .i64 k, .int .i64 n, .slice aof f.length cf, .slice ao a.length c] 63))).alloc hB1 _).trans h2)
  obtain ⟨hc, hh⟩ := wkeep HA.out H2.out hne (by decide)
  have HH := Lib.hid hh
  have H1 := Lib.hid h1
  clear h1 h2 hh HN H0 HA
  refine Lib.hid ?_
  go_wp2_with (go_at_call 112; refine (HF.out _ H1.out (HSF.out.below H2.out.bel)).mono ?_; rintro e w2 ⟨rfl, h1, h2⟩; refine Hid.out ?_)
  obtain ⟨hc2, hh⟩ := wkeep HH.out h2 hne (by decide)
  have H3 := Lib.hid h1
  have H4 := Lib.hid (H2.out.trans h2)
  clear h1 h2 hc HF H1 H2 HH hh
  refine Lib.hid ?_
  go_wp2_with (go_at_call 87; refine (HV.out _ H3.out (HS.out.below H4.out.bel)).mono ?_; rintro e w4 ⟨rfl, h1, h2⟩)
  first | go_end0 | go_ret
  exact ⟨rfl, h1, (((WFr.refl B b w).alloc hB _).trans H4.out).trans h2⟩

/-- Numbers in memory that was there at B. -/
def SlI (B : Nat) (w : World) (ao : Option Addr) (l : List Int) : Prop :=
  0 < l.length → ∃ sb off, ao = some ⟨sb, off, none⟩ ∧ sb < B ∧ ∀ j, (h : j < l.length) → w.cell? ⟨sb, off + j, none⟩ = some (.int .i64 l[j])
theorem SlI.below {B : Nat} {w w' : World} {ao : Option Addr} {l : List Int} (h : SlI B w ao l) (b : Below B w w') : SlI B w' ao l := fun hl => by
  obtain ⟨sb, off, e, lt, hc⟩ := h hl
  exact ⟨sb, off, e, lt, fun j hj => (b.cell (p := ⟨sb, off + j, none⟩) lt).trans (hc j hj)⟩
theorem SlI.n {B b : Nat} {w : World} {ao : Option Addr} {l : List Int} (h : SlI B w ao l) : SlN B b w ao l := fun hl => by
  obtain ⟨sb, off, e, lt, hc⟩ := h hl
  exact ⟨sb, off, e, Or.inl lt, hc⟩

def OkE (e : E6) : Prop := In8 e.2.1 ∧ OkC e.2.2.2.2.1 ∧ e.2.2.2.2.2.length ≤ 9223372036854775807

set_option maxRecDepth 100000 in
set_option maxHeartbeats 2000000 in
theorem putEntry (B b : Nat) (bs : List UInt8) (q : E6) (ao : Option Addr) (c : Nat) (aoi : Option Addr) (ci : Nat) (hok : OkE q) (w : World) (h : Wr w B b bs) (hs : SlV B w ao q.2.2.2.2.1.2.2.1) (hi : SlI B w aoi q.2.2.2.2.2) (hl : bs.length + (entryB q).length ≤ 140737488355328) :
    Calls Tryd.prog 77 #[.pointer (some ⟨b, 0, none⟩), .agg #[.int .i64 q.1, .int .u8 q.2.1, .int .i64 q.2.2.1, .int .i64 q.2.2.2.1, .int .u8 q.2.2.2.2.1.1, .string q.2.2.2.2.1.2.1, .slice ao q.2.2.2.2.1.2.2.1.length c, .int .i64 q.2.2.2.2.1.2.2.2, .slice aoi q.2.2.2.2.2.length ci]] w (PutP (bs ++ entryB q) B b w) := by
  obtain ⟨t, k, s, n, m, v⟩ := q
  obtain ⟨hk, hm, hv⟩ := hok
  simp only at hk hm hv hs hi ⊢
  have HE : Hid (bs ++ entryB (t, k, s, n, m, v) = bs ++ numB t ++ [UInt8.ofNat k.toNat] ++ numB s ++ numB n ++ commandB m ++ countB v.length ++ v.flatMap numB) := by
    unfold Hid entryB octB manyB
    simp only [List.append_assoc]
  have HL : Hid ((bs ++ numB t ++ [UInt8.ofNat k.toNat] ++ numB s ++ numB n ++ commandB m ++ countB v.length ++ v.flatMap numB).length ≤ 140737488355328) := by rw [← HE.out, List.length_append]; exact hl
  rw [HE.out]
  have h8 : (numB n).length = 8 := by unfold numB; rw [beB_length]
  have h8' : (numB t).length = 8 := by unfold numB; rw [beB_length]
  have h8'' : (numB s).length = 8 := by unfold numB; rw [beB_length]
  have h4 : (countB v.length).length = 4 := by unfold countB; rw [beB_length]
  have hne : w.heap.size ≠ b := by have := h.lt; omega
  have hB := h.le
  have HT := Lib.hid (fun W g hg h => putOne' B b bs t W g hg h (by have q1 := HL.out; simp only [List.length_append] at q1; omega))
  have HO := Lib.hid (fun W h => putByte B b (bs ++ numB t) (UInt8.ofNat k.toNat) k (oct8 hk) W h (by have q1 := HL.out; simp only [List.length_append, List.length_cons, List.length_nil] at q1 ⊢; omega))
  have HN := Lib.hid (fun W h => putTwo B b (bs ++ numB t ++ [UInt8.ofNat k.toNat]) s n W h (by have q1 := HL.out; simp only [List.length_append] at q1 ⊢; omega))
  have HC := Lib.hid (fun W h hs => putCommand B b (bs ++ numB t ++ [UInt8.ofNat k.toNat] ++ numB s ++ numB n) m ao c hm W h hs (by have q1 := HL.out; simp only [List.length_append] at q1 ⊢; omega))
  have HK := Lib.hid (fun W h => putCount B b (bs ++ numB t ++ [UInt8.ofNat k.toNat] ++ numB s ++ numB n ++ commandB m) v.length hv W h (by have q1 := HL.out; simp only [List.length_append] at q1 ⊢; omega))
  have HV := Lib.hid (fun W h hs => putNumbers B b (bs ++ numB t ++ [UInt8.ofNat k.toNat] ++ numB s ++ numB n ++ commandB m ++ countB v.length) aoi v ci hv W h hs (by have q1 := HL.out; simp only [List.length_append] at q1 ⊢; omega))
  have H0 := Lib.hid (h.alloc (.cells #[.int .i64 t, .int .u8 k, .int .i64 s, .int .i64 n, .int .u8 m.1, .string m.2.1, .slice ao m.2.2.1.length c, .int .i64 m.2.2.2, .slice aoi v.length ci] 68))
  have HS := Lib.hid (hs.below ((Below.refl B w).alloc hB (.cells #[.int .i64 t, .int .u8 k, .int .i64 s, .int .i64 n, .int .u8 m.1, .string m.2.1, .slice ao m.2.2.1.length c, .int .i64 m.2.2.2, .slice aoi v.length ci] 68)))
  have HSI := Lib.hid (hi.below ((Below.refl B w).alloc hB (.cells #[.int .i64 t, .int .u8 k, .int .i64 s, .int .i64 n, .int .u8 m.1, .string m.2.1, .slice ao m.2.2.1.length c, .int .i64 m.2.2.2, .slice aoi v.length ci] 68)))
  have HA := Lib.hid (heap_alloc_new w (.cells #[.int .i64 t, .int .u8 k, .int .i64 s, .int .i64 n, .int .u8 m.1, .string m.2.1, .slice ao m.2.2.1.length c, .int .i64 m.2.2.2, .slice aoi v.length ci] 68))
  have hB1 := H0.out.le
  clear h hs hi hl hk hm hv h8 h8' h8'' h4 HE HL
  generalize UInt8.ofNat k.toNat = k8 at HO HN HC HK HV
  generalize numB t = tb at HT HO HN HC HK HV
  generalize numB s = sb at HN HC HK HV
  generalize numB n = nb at HN HC HK HV
  generalize commandB m = mb at HC HK HV
  generalize countB v.length = cb at HK HV
  generalize v.flatMap numB = vb at HV
  go_enter Tryd.func77, Tryd.ntmps77
  go_wp2_with (go_at_call 107; refine (HT.out _ (w.heap.size + 1) (by simp) H0.out).mono ?_; rintro e w1 ⟨rfl, h1, h2⟩; refine Hid.out ?_)
  have H2 := Lib.hid (((WFr.refl B b (w.alloc (.cells #[.int .i64 t, .int .u8 k, .int .i64 s, .int .i64 n, .int .u8 m.1, .string m.2.1, .slice ao m.2.2.1.length c, .int .i64 m.2.2.2, .slice aoi v.length ci] 68))).alloc hB1 _).trans h2)
  obtain ⟨hc, hh⟩ := wkeep HA.out H2.out hne (by decide)
  have hcd : ∀ j, w1.drew.cell? ⟨w.heap.size, j, none⟩ = w1.cell? ⟨w.heap.size, j, none⟩ := fun _ => rfl
  have HH := Lib.hid hh
  have H1 := Lib.hid h1
  clear h1 h2 hh HT H0 HA hcd
  refine Lib.hid ?_
  go_wp2_with fail
  go_region_with (go_at_call 108; refine (HO.out _ ?_).mono ?_; (first | exact H1.out | exact H1.out.drew); rintro e w2 ⟨rfl, h1, h2⟩; have H3 := Lib.hid h1; have H4 := Lib.hid (H2.out.drew.trans h2); have HD := Lib.hid ((WFr.refl B b w1).drew.trans h2); clear h1 h2)
  all_goals
    obtain ⟨hc2, hh⟩ := wkeep HH.out HD.out hne (by decide)
    have hB3 := H3.out.le
    have HH2 := Lib.hid hh
    clear hh HO HH HD H1 H2 hc
    refine Hid.out ?_
    refine Lib.hid ?_
    go_wp2_with (go_at_call 107; refine (HN.out _ H3.out).mono ?_; rintro e w3 ⟨rfl, h1, h2⟩; refine Hid.out ?_)
    obtain ⟨hc3, hh⟩ := wkeep HH2.out (((WFr.refl B b w2).alloc hB3 _).trans h2) hne (by decide)
    have H5 := Lib.hid h1
    have H6 := Lib.hid ((H4.out.alloc hB3 _).trans h2)
    have HH3 := Lib.hid hh
    clear h1 h2 hc2 HN H3 H4 HH2 hh
    refine Lib.hid ?_
    go_wp2_with (go_at_call 91; refine (HC.out _ H5.out (HS.out.below H6.out.bel)).mono ?_; rintro e w4 ⟨rfl, h1, h2⟩; refine Hid.out ?_)
    obtain ⟨hc4, hh⟩ := wkeep HH3.out h2 hne (by decide)
    have H7 := Lib.hid h1
    have H8 := Lib.hid (H6.out.trans h2)
    have HH4 := Lib.hid hh
    clear h1 h2 hc3 HC H5 H6 HH3 hh
    refine Lib.hid ?_
    go_wp2_with (go_at_call 109; refine (HK.out _ H7.out).mono ?_; rintro e w5 ⟨rfl, h1, h2⟩; refine Hid.out ?_)
    obtain ⟨hc5, hh⟩ := wkeep HH4.out h2 hne (by decide)
    have H9 := Lib.hid h1
    have H10 := Lib.hid (H8.out.trans h2)
    clear h1 h2 hc4 HK H7 H8 HH4 hh
    refine Lib.hid ?_
    go_wp2_with (go_at_call 107; refine (HV.out _ H9.out (HSI.out.below H10.out.bel).n).mono ?_; rintro e w6 ⟨rfl, h1, h2⟩)
    first | go_end0 | go_ret
    exact ⟨rfl, h1, (((WFr.refl B b w).alloc hB _).trans H10.out).trans h2⟩
end Go.Proofs.YtmocfielcllfmaaDoor
