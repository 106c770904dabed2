/- What a node is called, and its kids in brackets; conditions and actions, as the writer writes them. -/
import Derived.Test.YtfmjhbaenpbfoaaGreatDoorShow1
import Derived.Test.YtfmjhbaenpbfoaaGreatDoorShelf
import Derived.Test.YtfmjhbaenpbfoaaGreatDoorWalk
import Derived.Test.YtfmjhbaenpbfoaaGreatDoorRightR
import Derived.Test.YtfmjhbaenpbfoaaGreatDoorRefRight
import Derived.RegionTactic
namespace Go.Proofs.YtfmjhbaenpbfoaaGreatDoor
open Go.RowKit

def namedX (f : T → L8) (t : T) : L8 := t.tx ++ [40] ++ commaL f t.kids ++ [41]

set_option maxRecDepth 100000 in
set_option maxHeartbeats 1000000 in
theorem named_field (t : T) (hx : ∀ k, k ∈ t.kids → True) (B b : Nat) (bs : L8) (w : World) (v : Value) (hl : Lies B w t v) (hw : Wrt B b bs w) (hlen : bs.length + (namedX T.tx t).length ≤ 140737488355328) :
    Calls Tryz.prog 37 #[.pointer (some ⟨b, 0, none⟩), agg t v, .func (.func 38) #[.pointer (some ⟨b, 0, none⟩)] #[]] w (Wd B b bs (namedX T.tx t) w) := by
  obtain ⟨ao, c, ps, rfl, k1⟩ := hl.out
  have hlm := k1.len64
  have HLi := Lib.hid hl
  have HA := Lib.hid k1
  have hb0 := below_own (w := w) (.cells #[.int .u8 t.kind, .string t.text, .int .i64 t.num, .int .i64 t.pos, .slice ao t.kids.length c] 25)
  have HW0 : Hid (Wrt B b bs (w.alloc (.cells #[.int .u8 t.kind, .string t.text, .int .i64 t.num, .int .i64 t.pos, .slice ao t.kids.length c] 25))) := hw.below hb0
  have HK0 : Hid (Kp B b w (w.alloc (.cells #[.int .u8 t.kind, .string t.text, .int .i64 t.num, .int .i64 t.pos, .slice ao t.kids.length c] 25))) := (Kp.refl B b w).below hw.base hb0
  have HG0 : Hid ((w.alloc (.cells #[.int .u8 t.kind, .string t.text, .int .i64 t.num, .int .i64 t.pos, .slice ao t.kids.length c] 25)).heap[w.heap.size]? = some (.cells #[.int .u8 t.kind, .string t.text, .int .i64 t.num, .int .i64 t.pos, .slice ao t.kids.length c] 25 (0, 0))) := heap_alloc_new w _
  have hgb : w.heap.size ≠ b := by have := hw.lt; omega
  have HR0 : Hid (Kp B b (w.alloc (.cells #[.int .u8 t.kind, .string t.text, .int .i64 t.num, .int .i64 t.pos, .slice ao t.kids.length c] 25)) (w.alloc (.cells #[.int .u8 t.kind, .string t.text, .int .i64 t.num, .int .i64 t.pos, .slice ao t.kids.length c] 25))) := Kp.refl _ _ _
  have hbw : B ≤ w.heap.size := hw.base
  clear hl hw k1 hb0
  have KX : Hid (∀ W bs', Kp B b (w.alloc (.cells #[.int .u8 t.kind, .string t.text, .int .i64 t.num, .int .i64 t.pos, .slice ao t.kids.length c] 25)) W → Wrt B b bs' W → bs'.length + (commaL T.tx t.kids).length ≤ 140737488355328 → Calls Tryz.prog 68 #[.pointer (some ⟨b, 0, none⟩), .slice ao t.kids.length c, .func (.func 38) #[.pointer (some ⟨b, 0, none⟩)] #[]] W (Wd B b bs' (commaL T.tx t.kids) W)) := fun W bs' hk hw hlen => row_field t hx B b bs' W ao c (HLi.out.keep (HK0.out.trans hk).bel) hw hlen
  unfold namedX at *
  simp only [List.length_append, List.length_cons, List.length_nil] at hlen
  clear hx HLi HA
  generalize commaL T.tx t.kids = x at *
  have HL1 : Hid (bs.length + (t.tx.length + 1) ≤ 140737488355328) := by unfold Hid; omega
  have HL2 : Hid ((bs ++ (t.tx ++ [40])).length + x.length ≤ 140737488355328) := by unfold Hid; simp only [List.length_append, List.length_cons, List.length_nil]; omega
  have HL3 : Hid (((bs ++ (t.tx ++ [40])) ++ x).length + 1 ≤ 140737488355328) := by unfold Hid; simp only [List.length_append, List.length_cons, List.length_nil]; omega
  clear hlen
  unfold agg at *
  go_enter Tryz.func37, Tryz.ntmps37
  go_wp2_with (go_at_call 36; go_must (refine (lit2 B b _ (t.text) (⟨#[40]⟩) _ HW0.out (HL1.out) _ (by first | rfl | simp)).mono ?_; rintro e w1 ⟨rfl, hw, hk⟩; have HW1 : Hid (Wrt B b (bs ++ (t.tx ++ [40])) w1) := hw; have HR1 : Hid (Kp B b (w.alloc (.cells #[.int .u8 t.kind, .string t.text, .int .i64 t.num, .int .i64 t.pos, .slice ao t.kids.length c] 25)) w1) := HR0.out.trans hk; have c1 := box_at HG0.out HR1.out hgb; clear hw hk; refine Hid.out ?_))
  refine Lib.hid ?_
  go_wp2_with (go_at_call 68; go_must (refine (KX.out _ _ HR1.out HW1.out HL2.out).mono ?_; rintro e w2 ⟨rfl, hw, hk⟩; have HW2 : Hid (Wrt B b ((bs ++ (t.tx ++ [40])) ++ (x)) w2) := hw; have HR2 : Hid (Kp B b (w.alloc (.cells #[.int .u8 t.kind, .string t.text, .int .i64 t.num, .int .i64 t.pos, .slice ao t.kids.length c] 25)) w2) := HR1.out.trans hk; have c2 := box_at HG0.out HR2.out hgb; clear hw hk; refine Hid.out ?_))
  refine Lib.hid ?_
  clear c1
  go_wp2_with (go_at_call 36; go_must (refine (lit1 B b _ (⟨#[41]⟩) _ HW2.out (HL3.out) _ (by first | rfl | simp)).mono ?_; rintro e w3 ⟨rfl, hw, hk⟩; have HW3 : Hid (Wrt B b (((bs ++ (t.tx ++ [40])) ++ (x)) ++ ([41])) w3) := hw; have HR3 : Hid (Kp B b (w.alloc (.cells #[.int .u8 t.kind, .string t.text, .int .i64 t.num, .int .i64 t.pos, .slice ao t.kids.length c] 25)) w3) := HR2.out.trans hk; have c3 := box_at HG0.out HR3.out hgb; clear hw hk; refine Hid.out ?_))
  refine Lib.hid ?_
  clear c2 c3
  go_wp2_with fail
  go_end0
  refine ⟨rfl, ?_, HK0.out.trans HR3.out⟩
  have hfin := HW3.out
  simpa [List.append_assoc] using hfin

set_option maxRecDepth 100000 in
set_option maxHeartbeats 1000000 in
theorem named_single (t : T) (hx : ∀ k, k ∈ t.kids → k.kind = 12 ∨ k.kind = 13 ∨ k.kind = 14 ∨ k.kind = 15) (B b : Nat) (bs : L8) (w : World) (v : Value) (hl : Lies B w t v) (hw : Wrt B b bs w) (hlen : bs.length + (namedX T.expr t).length ≤ 140737488355328) :
    Calls Tryz.prog 37 #[.pointer (some ⟨b, 0, none⟩), agg t v, .func (.func 96) #[.pointer (some ⟨b, 0, none⟩)] #[]] w (Wd B b bs (namedX T.expr t) w) := by
  obtain ⟨ao, c, ps, rfl, k1⟩ := hl.out
  have hlm := k1.len64
  have HLi := Lib.hid hl
  have HA := Lib.hid k1
  have hb0 := below_own (w := w) (.cells #[.int .u8 t.kind, .string t.text, .int .i64 t.num, .int .i64 t.pos, .slice ao t.kids.length c] 25)
  have HW0 : Hid (Wrt B b bs (w.alloc (.cells #[.int .u8 t.kind, .string t.text, .int .i64 t.num, .int .i64 t.pos, .slice ao t.kids.length c] 25))) := hw.below hb0
  have HK0 : Hid (Kp B b w (w.alloc (.cells #[.int .u8 t.kind, .string t.text, .int .i64 t.num, .int .i64 t.pos, .slice ao t.kids.length c] 25))) := (Kp.refl B b w).below hw.base hb0
  have HG0 : Hid ((w.alloc (.cells #[.int .u8 t.kind, .string t.text, .int .i64 t.num, .int .i64 t.pos, .slice ao t.kids.length c] 25)).heap[w.heap.size]? = some (.cells #[.int .u8 t.kind, .string t.text, .int .i64 t.num, .int .i64 t.pos, .slice ao t.kids.length c] 25 (0, 0))) := heap_alloc_new w _
  have hgb : w.heap.size ≠ b := by have := hw.lt; omega
  have HR0 : Hid (Kp B b (w.alloc (.cells #[.int .u8 t.kind, .string t.text, .int .i64 t.num, .int .i64 t.pos, .slice ao t.kids.length c] 25)) (w.alloc (.cells #[.int .u8 t.kind, .string t.text, .int .i64 t.num, .int .i64 t.pos, .slice ao t.kids.length c] 25))) := Kp.refl _ _ _
  have hbw : B ≤ w.heap.size := hw.base
  clear hl hw k1 hb0
  have KX : Hid (∀ W bs', Kp B b (w.alloc (.cells #[.int .u8 t.kind, .string t.text, .int .i64 t.num, .int .i64 t.pos, .slice ao t.kids.length c] 25)) W → Wrt B b bs' W → bs'.length + (commaL T.expr t.kids).length ≤ 140737488355328 → Calls Tryz.prog 68 #[.pointer (some ⟨b, 0, none⟩), .slice ao t.kids.length c, .func (.func 96) #[.pointer (some ⟨b, 0, none⟩)] #[]] W (Wd B b bs' (commaL T.expr t.kids) W)) := fun W bs' hk hw hlen => row_single t hx B b bs' W ao c (HLi.out.keep (HK0.out.trans hk).bel) hw hlen
  unfold namedX at *
  simp only [List.length_append, List.length_cons, List.length_nil] at hlen
  clear hx HLi HA
  generalize commaL T.expr t.kids = x at *
  have HL1 : Hid (bs.length + (t.tx.length + 1) ≤ 140737488355328) := by unfold Hid; omega
  have HL2 : Hid ((bs ++ (t.tx ++ [40])).length + x.length ≤ 140737488355328) := by unfold Hid; simp only [List.length_append, List.length_cons, List.length_nil]; omega
  have HL3 : Hid (((bs ++ (t.tx ++ [40])) ++ x).length + 1 ≤ 140737488355328) := by unfold Hid; simp only [List.length_append, List.length_cons, List.length_nil]; omega
  clear hlen
  unfold agg at *
  go_enter Tryz.func37, Tryz.ntmps37
  go_wp2_with (go_at_call 36; go_must (refine (lit2 B b _ (t.text) (⟨#[40]⟩) _ HW0.out (HL1.out) _ (by first | rfl | simp)).mono ?_; rintro e w1 ⟨rfl, hw, hk⟩; have HW1 : Hid (Wrt B b (bs ++ (t.tx ++ [40])) w1) := hw; have HR1 : Hid (Kp B b (w.alloc (.cells #[.int .u8 t.kind, .string t.text, .int .i64 t.num, .int .i64 t.pos, .slice ao t.kids.length c] 25)) w1) := HR0.out.trans hk; have c1 := box_at HG0.out HR1.out hgb; clear hw hk; refine Hid.out ?_))
  refine Lib.hid ?_
  go_wp2_with (go_at_call 68; go_must (refine (KX.out _ _ HR1.out HW1.out HL2.out).mono ?_; rintro e w2 ⟨rfl, hw, hk⟩; have HW2 : Hid (Wrt B b ((bs ++ (t.tx ++ [40])) ++ (x)) w2) := hw; have HR2 : Hid (Kp B b (w.alloc (.cells #[.int .u8 t.kind, .string t.text, .int .i64 t.num, .int .i64 t.pos, .slice ao t.kids.length c] 25)) w2) := HR1.out.trans hk; have c2 := box_at HG0.out HR2.out hgb; clear hw hk; refine Hid.out ?_))
  refine Lib.hid ?_
  clear c1
  go_wp2_with (go_at_call 36; go_must (refine (lit1 B b _ (⟨#[41]⟩) _ HW2.out (HL3.out) _ (by first | rfl | simp)).mono ?_; rintro e w3 ⟨rfl, hw, hk⟩; have HW3 : Hid (Wrt B b (((bs ++ (t.tx ++ [40])) ++ (x)) ++ ([41])) w3) := hw; have HR3 : Hid (Kp B b (w.alloc (.cells #[.int .u8 t.kind, .string t.text, .int .i64 t.num, .int .i64 t.pos, .slice ao t.kids.length c] 25)) w3) := HR2.out.trans hk; have c3 := box_at HG0.out HR3.out hgb; clear hw hk; refine Hid.out ?_))
  refine Lib.hid ?_
  clear c2 c3
  go_wp2_with fail
  go_end0
  refine ⟨rfl, ?_, HK0.out.trans HR3.out⟩
  have hfin := HW3.out
  simpa [List.append_assoc] using hfin

set_option maxRecDepth 100000 in
set_option maxHeartbeats 1000000 in
theorem named_expression (t : T) (hx : ∀ k, k ∈ t.kids → IsX k) (B b : Nat) (bs : L8) (w : World) (v : Value) (hl : Lies B w t v) (hw : Wrt B b bs w) (hlen : bs.length + (namedX T.expr t).length ≤ 140737488355328) :
    Calls Tryz.prog 37 #[.pointer (some ⟨b, 0, none⟩), agg t v, .func (.func 97) #[.pointer (some ⟨b, 0, none⟩)] #[]] w (Wd B b bs (namedX T.expr t) w) := by
  obtain ⟨ao, c, ps, rfl, k1⟩ := hl.out
  have hlm := k1.len64
  have HLi := Lib.hid hl
  have HA := Lib.hid k1
  have hb0 := below_own (w := w) (.cells #[.int .u8 t.kind, .string t.text, .int .i64 t.num, .int .i64 t.pos, .slice ao t.kids.length c] 25)
  have HW0 : Hid (Wrt B b bs (w.alloc (.cells #[.int .u8 t.kind, .string t.text, .int .i64 t.num, .int .i64 t.pos, .slice ao t.kids.length c] 25))) := hw.below hb0
  have HK0 : Hid (Kp B b w (w.alloc (.cells #[.int .u8 t.kind, .string t.text, .int .i64 t.num, .int .i64 t.pos, .slice ao t.kids.length c] 25))) := (Kp.refl B b w).below hw.base hb0
  have HG0 : Hid ((w.alloc (.cells #[.int .u8 t.kind, .string t.text, .int .i64 t.num, .int .i64 t.pos, .slice ao t.kids.length c] 25)).heap[w.heap.size]? = some (.cells #[.int .u8 t.kind, .string t.text, .int .i64 t.num, .int .i64 t.pos, .slice ao t.kids.length c] 25 (0, 0))) := heap_alloc_new w _
  have hgb : w.heap.size ≠ b := by have := hw.lt; omega
  have HR0 : Hid (Kp B b (w.alloc (.cells #[.int .u8 t.kind, .string t.text, .int .i64 t.num, .int .i64 t.pos, .slice ao t.kids.length c] 25)) (w.alloc (.cells #[.int .u8 t.kind, .string t.text, .int .i64 t.num, .int .i64 t.pos, .slice ao t.kids.length c] 25))) := Kp.refl _ _ _
  have hbw : B ≤ w.heap.size := hw.base
  clear hl hw k1 hb0
  have KX : Hid (∀ W bs', Kp B b (w.alloc (.cells #[.int .u8 t.kind, .string t.text, .int .i64 t.num, .int .i64 t.pos, .slice ao t.kids.length c] 25)) W → Wrt B b bs' W → bs'.length + (commaL T.expr t.kids).length ≤ 140737488355328 → Calls Tryz.prog 68 #[.pointer (some ⟨b, 0, none⟩), .slice ao t.kids.length c, .func (.func 97) #[.pointer (some ⟨b, 0, none⟩)] #[]] W (Wd B b bs' (commaL T.expr t.kids) W)) := fun W bs' hk hw hlen => row_expression t hx B b bs' W ao c (HLi.out.keep (HK0.out.trans hk).bel) hw hlen
  unfold namedX at *
  simp only [List.length_append, List.length_cons, List.length_nil] at hlen
  clear hx HLi HA
  generalize commaL T.expr t.kids = x at *
  have HL1 : Hid (bs.length + (t.tx.length + 1) ≤ 140737488355328) := by unfold Hid; omega
  have HL2 : Hid ((bs ++ (t.tx ++ [40])).length + x.length ≤ 140737488355328) := by unfold Hid; simp only [List.length_append, List.length_cons, List.length_nil]; omega
  have HL3 : Hid (((bs ++ (t.tx ++ [40])) ++ x).length + 1 ≤ 140737488355328) := by unfold Hid; simp only [List.length_append, List.length_cons, List.length_nil]; omega
  clear hlen
  unfold agg at *
  go_enter Tryz.func37, Tryz.ntmps37
  go_wp2_with (go_at_call 36; go_must (refine (lit2 B b _ (t.text) (⟨#[40]⟩) _ HW0.out (HL1.out) _ (by first | rfl | simp)).mono ?_; rintro e w1 ⟨rfl, hw, hk⟩; have HW1 : Hid (Wrt B b (bs ++ (t.tx ++ [40])) w1) := hw; have HR1 : Hid (Kp B b (w.alloc (.cells #[.int .u8 t.kind, .string t.text, .int .i64 t.num, .int .i64 t.pos, .slice ao t.kids.length c] 25)) w1) := HR0.out.trans hk; have c1 := box_at HG0.out HR1.out hgb; clear hw hk; refine Hid.out ?_))
  refine Lib.hid ?_
  go_wp2_with (go_at_call 68; go_must (refine (KX.out _ _ HR1.out HW1.out HL2.out).mono ?_; rintro e w2 ⟨rfl, hw, hk⟩; have HW2 : Hid (Wrt B b ((bs ++ (t.tx ++ [40])) ++ (x)) w2) := hw; have HR2 : Hid (Kp B b (w.alloc (.cells #[.int .u8 t.kind, .string t.text, .int .i64 t.num, .int .i64 t.pos, .slice ao t.kids.length c] 25)) w2) := HR1.out.trans hk; have c2 := box_at HG0.out HR2.out hgb; clear hw hk; refine Hid.out ?_))
  refine Lib.hid ?_
  clear c1
  go_wp2_with (go_at_call 36; go_must (refine (lit1 B b _ (⟨#[41]⟩) _ HW2.out (HL3.out) _ (by first | rfl | simp)).mono ?_; rintro e w3 ⟨rfl, hw, hk⟩; have HW3 : Hid (Wrt B b (((bs ++ (t.tx ++ [40])) ++ (x)) ++ ([41])) w3) := hw; have HR3 : Hid (Kp B b (w.alloc (.cells #[.int .u8 t.kind, .string t.text, .int .i64 t.num, .int .i64 t.pos, .slice ao t.kids.length c] 25)) w3) := HR2.out.trans hk; have c3 := box_at HG0.out HR3.out hgb; clear hw hk; refine Hid.out ?_))
  refine Lib.hid ?_
  clear c2 c3
  go_wp2_with fail
  go_end0
  refine ⟨rfl, ?_, HK0.out.trans HR3.out⟩
  have hfin := HW3.out
  simpa [List.append_assoc] using hfin

/-- strconv.Itoa of a small number. -/
theorem itoa_any (z : Int) (w : World) (h1 : -2147483648 ≤ z) (h2 : z ≤ 2147483647) (ht : Lib.TabIs Tryz.prog w "internal/strconv.uint64pow10" .u64 Lib.pow10Tab) : Calls Tryz.prog 43 #[.int .i64 z] w fun e w' => e = .returned (.string (BA (Lib.itoa z))) ∧ Below w.heap.size w w' := by
  refine (Tryz.strconv_Itoa z (by omega) (by omega) w ht).mono ?_
  rintro e w' ⟨rfl, q, os, rfl⟩
  exact ⟨rfl, Lib.below_grow _ _ (Nat.le_refl _) _ _⟩
/-- The powers of ten lie below B, where they are laid. -/
abbrev Tab (B : Nat) (w : World) : Prop := Lib.TabBelow Tryz.prog B w "internal/strconv.uint64pow10" .u64 Lib.pow10Tab

set_option maxRecDepth 100000 in
set_option maxHeartbeats 1000000 in
theorem part_5 (t : T) (hk : t.kind = 5) (hp : IsPart t) (B b : Nat) (bs : L8) (w : World) (v : Value) (hl : Lies B w t v) (hw : Wrt B b bs w) (_ht : Tab B w) (hlen : bs.length + (partT t).length ≤ 140737488355328) :
    Calls Tryz.prog 70 #[.pointer (some ⟨b, 0, none⟩), agg t v] w (Wd B b bs (partT t) w) := by
  have hpt : partT t = namedX T.expr t ++ [59] := by
    unfold partT
    rw [hk]
    simp [namedX, rowX]
  rw [hpt] at hlen ⊢
  obtain ⟨ao, c, ps, rfl, k1⟩ := hl.out
  have hlm := k1.len64
  have HLi := Lib.hid hl
  have HA := Lib.hid k1
  have hb0 := below_own (w := w) (.cells #[.int .u8 t.kind, .string t.text, .int .i64 t.num, .int .i64 t.pos, .slice ao t.kids.length c] 25)
  have HW0 : Hid (Wrt B b bs (w.alloc (.cells #[.int .u8 t.kind, .string t.text, .int .i64 t.num, .int .i64 t.pos, .slice ao t.kids.length c] 25))) := hw.below hb0
  have HK0 : Hid (Kp B b w (w.alloc (.cells #[.int .u8 t.kind, .string t.text, .int .i64 t.num, .int .i64 t.pos, .slice ao t.kids.length c] 25))) := (Kp.refl B b w).below hw.base hb0
  have HG0 : Hid ((w.alloc (.cells #[.int .u8 t.kind, .string t.text, .int .i64 t.num, .int .i64 t.pos, .slice ao t.kids.length c] 25)).heap[w.heap.size]? = some (.cells #[.int .u8 t.kind, .string t.text, .int .i64 t.num, .int .i64 t.pos, .slice ao t.kids.length c] 25 (0, 0))) := heap_alloc_new w _
  have hgb : w.heap.size ≠ b := by have := hw.lt; omega
  have HR0 : Hid (Kp B b (w.alloc (.cells #[.int .u8 t.kind, .string t.text, .int .i64 t.num, .int .i64 t.pos, .slice ao t.kids.length c] 25)) (w.alloc (.cells #[.int .u8 t.kind, .string t.text, .int .i64 t.num, .int .i64 t.pos, .slice ao t.kids.length c] 25))) := Kp.refl _ _ _
  have hbw : B ≤ w.heap.size := hw.base
  clear hl hw k1 hb0
  have KX : Hid (∀ W bs', Kp B b (w.alloc (.cells #[.int .u8 t.kind, .string t.text, .int .i64 t.num, .int .i64 t.pos, .slice ao t.kids.length c] 25)) W → Wrt B b bs' W → bs'.length + (namedX T.expr t).length ≤ 140737488355328 → Calls Tryz.prog 37 #[.pointer (some ⟨b, 0, none⟩), agg t (.slice ao t.kids.length c), .func (.func 96) #[.pointer (some ⟨b, 0, none⟩)] #[]] W (Wd B b bs' (namedX T.expr t) W)) := fun W bs' hk hw hlen => named_single t (hp.args (by omega)) B b bs' W _ (HLi.out.keep (HK0.out.trans hk).bel) hw hlen
  clear hpt HLi HA hp
  unfold agg at *
  generalize t.kind = k at *
  subst hk
  generalize namedX T.expr t = x at *
  simp at hlen
  have HL1 : Hid (bs.length + x.length ≤ 140737488355328) := by unfold Hid; omega
  have HL2 : Hid ((bs ++ (x)).length + 1 ≤ 140737488355328) := by unfold Hid; simp; omega
  clear hlen
  go_enter Tryz.func70, Tryz.ntmps70
  go_wp2_with (go_at_call 37; go_must (refine (KX.out _ _ HR0.out HW0.out HL1.out).mono ?_; rintro e w1 ⟨rfl, hw, hk⟩; have HW1 : Hid (Wrt B b (bs ++ (x)) w1) := hw; have HR1 : Hid (Kp B b (w.alloc (.cells #[.int .u8 5, .string t.text, .int .i64 t.num, .int .i64 t.pos, .slice ao t.kids.length c] 25)) w1) := HR0.out.trans hk; have c1 := box_at HG0.out HR1.out hgb; clear hw hk; refine Hid.out ?_))
  refine Lib.hid ?_
  go_wp2_with (go_at_call 36; go_must (refine (lit1 B b _ (⟨#[59]⟩) _ HW1.out (HL2.out) _ (by first | rfl | simp)).mono ?_; rintro e w2 ⟨rfl, hw, hk⟩; have HW2 : Hid (Wrt B b ((bs ++ (x)) ++ ([59])) w2) := hw; have HR2 : Hid (Kp B b (w.alloc (.cells #[.int .u8 5, .string t.text, .int .i64 t.num, .int .i64 t.pos, .slice ao t.kids.length c] 25)) w2) := HR1.out.trans hk; have c2 := box_at HG0.out HR2.out hgb; clear hw hk; refine Hid.out ?_))
  refine Lib.hid ?_
  go_wp2_with fail
  go_end0
  refine ⟨rfl, ?_, HK0.out.trans HR2.out⟩
  have hfin := HW2.out
  simpa [List.append_assoc] using hfin

set_option maxRecDepth 100000 in
set_option maxHeartbeats 1000000 in
theorem part_6 (t : T) (hk : t.kind = 6) (hp : IsPart t) (B b : Nat) (bs : L8) (w : World) (v : Value) (hl : Lies B w t v) (hw : Wrt B b bs w) (_ht : Tab B w) (hlen : bs.length + (partT t).length ≤ 140737488355328) :
    Calls Tryz.prog 70 #[.pointer (some ⟨b, 0, none⟩), agg t v] w (Wd B b bs (partT t) w) := by
  have hpt : partT t = [110, 111, 116, 32] ++ namedX T.expr t ++ [59] := by
    unfold partT
    rw [hk]
    simp [namedX, rowX]
  rw [hpt] at hlen ⊢
  obtain ⟨ao, c, ps, rfl, k1⟩ := hl.out
  have hlm := k1.len64
  have HLi := Lib.hid hl
  have HA := Lib.hid k1
  have hb0 := below_own (w := w) (.cells #[.int .u8 t.kind, .string t.text, .int .i64 t.num, .int .i64 t.pos, .slice ao t.kids.length c] 25)
  have HW0 : Hid (Wrt B b bs (w.alloc (.cells #[.int .u8 t.kind, .string t.text, .int .i64 t.num, .int .i64 t.pos, .slice ao t.kids.length c] 25))) := hw.below hb0
  have HK0 : Hid (Kp B b w (w.alloc (.cells #[.int .u8 t.kind, .string t.text, .int .i64 t.num, .int .i64 t.pos, .slice ao t.kids.length c] 25))) := (Kp.refl B b w).below hw.base hb0
  have HG0 : Hid ((w.alloc (.cells #[.int .u8 t.kind, .string t.text, .int .i64 t.num, .int .i64 t.pos, .slice ao t.kids.length c] 25)).heap[w.heap.size]? = some (.cells #[.int .u8 t.kind, .string t.text, .int .i64 t.num, .int .i64 t.pos, .slice ao t.kids.length c] 25 (0, 0))) := heap_alloc_new w _
  have hgb : w.heap.size ≠ b := by have := hw.lt; omega
  have HR0 : Hid (Kp B b (w.alloc (.cells #[.int .u8 t.kind, .string t.text, .int .i64 t.num, .int .i64 t.pos, .slice ao t.kids.length c] 25)) (w.alloc (.cells #[.int .u8 t.kind, .string t.text, .int .i64 t.num, .int .i64 t.pos, .slice ao t.kids.length c] 25))) := Kp.refl _ _ _
  have hbw : B ≤ w.heap.size := hw.base
  clear hl hw k1 hb0
  have KX : Hid (∀ W bs', Kp B b (w.alloc (.cells #[.int .u8 t.kind, .string t.text, .int .i64 t.num, .int .i64 t.pos, .slice ao t.kids.length c] 25)) W → Wrt B b bs' W → bs'.length + (namedX T.expr t).length ≤ 140737488355328 → Calls Tryz.prog 37 #[.pointer (some ⟨b, 0, none⟩), agg t (.slice ao t.kids.length c), .func (.func 96) #[.pointer (some ⟨b, 0, none⟩)] #[]] W (Wd B b bs' (namedX T.expr t) W)) := fun W bs' hk hw hlen => named_single t (hp.args (by omega)) B b bs' W _ (HLi.out.keep (HK0.out.trans hk).bel) hw hlen
  clear hpt HLi HA hp
  unfold agg at *
  generalize t.kind = k at *
  subst hk
  generalize namedX T.expr t = x at *
  simp at hlen
  have HL1 : Hid (bs.length + 4 ≤ 140737488355328) := by unfold Hid; omega
  have HL2 : Hid ((bs ++ ([110, 111, 116, 32])).length + x.length ≤ 140737488355328) := by unfold Hid; simp; omega
  have HL3 : Hid (((bs ++ ([110, 111, 116, 32])) ++ (x)).length + 1 ≤ 140737488355328) := by unfold Hid; simp; omega
  clear hlen
  go_enter Tryz.func70, Tryz.ntmps70
  go_wp2_with (go_at_call 36; go_must (refine (lit1 B b _ (⟨#[110, 111, 116, 32]⟩) _ HW0.out (HL1.out) _ (by first | rfl | simp)).mono ?_; rintro e w1 ⟨rfl, hw, hk⟩; have HW1 : Hid (Wrt B b (bs ++ ([110, 111, 116, 32])) w1) := hw; have HR1 : Hid (Kp B b (w.alloc (.cells #[.int .u8 6, .string t.text, .int .i64 t.num, .int .i64 t.pos, .slice ao t.kids.length c] 25)) w1) := HR0.out.trans hk; have c1 := box_at HG0.out HR1.out hgb; clear hw hk; refine Hid.out ?_))
  refine Lib.hid ?_
  go_wp2_with (go_at_call 37; go_must (refine (KX.out _ _ HR1.out HW1.out HL2.out).mono ?_; rintro e w2 ⟨rfl, hw, hk⟩; have HW2 : Hid (Wrt B b ((bs ++ ([110, 111, 116, 32])) ++ (x)) w2) := hw; have HR2 : Hid (Kp B b (w.alloc (.cells #[.int .u8 6, .string t.text, .int .i64 t.num, .int .i64 t.pos, .slice ao t.kids.length c] 25)) w2) := HR1.out.trans hk; have c2 := box_at HG0.out HR2.out hgb; clear hw hk; refine Hid.out ?_))
  refine Lib.hid ?_
  go_wp2_with (go_at_call 36; go_must (refine (lit1 B b _ (⟨#[59]⟩) _ HW2.out (HL3.out) _ (by first | rfl | simp)).mono ?_; rintro e w3 ⟨rfl, hw, hk⟩; have HW3 : Hid (Wrt B b (((bs ++ ([110, 111, 116, 32])) ++ (x)) ++ ([59])) w3) := hw; have HR3 : Hid (Kp B b (w.alloc (.cells #[.int .u8 6, .string t.text, .int .i64 t.num, .int .i64 t.pos, .slice ao t.kids.length c] 25)) w3) := HR2.out.trans hk; have c3 := box_at HG0.out HR3.out hgb; clear hw hk; refine Hid.out ?_))
  refine Lib.hid ?_
  go_wp2_with fail
  go_end0
  refine ⟨rfl, ?_, HK0.out.trans HR3.out⟩
  have hfin := HW3.out
  simpa [List.append_assoc] using hfin

set_option maxRecDepth 100000 in
set_option maxHeartbeats 1000000 in
theorem part_7 (t : T) (hk : t.kind = 7) (hp : IsPart t) (B b : Nat) (bs : L8) (w : World) (v : Value) (hl : Lies B w t v) (hw : Wrt B b bs w) (_ht : Tab B w) (hlen : bs.length + (partT t).length ≤ 140737488355328) :
    Calls Tryz.prog 70 #[.pointer (some ⟨b, 0, none⟩), agg t v] w (Wd B b bs (partT t) w) := by
  have hpt : partT t = [116, 101, 115, 116, 32] ++ rowX t.kids ++ [59] := by
    unfold partT
    rw [hk]
    simp [rowX]
  rw [hpt] at hlen ⊢
  obtain ⟨ao, c, ps, rfl, k1⟩ := hl.out
  have hlm := k1.len64
  have HLi := Lib.hid hl
  have HA := Lib.hid k1
  have hb0 := below_own (w := w) (.cells #[.int .u8 t.kind, .string t.text, .int .i64 t.num, .int .i64 t.pos, .slice ao t.kids.length c] 25)
  have HW0 : Hid (Wrt B b bs (w.alloc (.cells #[.int .u8 t.kind, .string t.text, .int .i64 t.num, .int .i64 t.pos, .slice ao t.kids.length c] 25))) := hw.below hb0
  have HK0 : Hid (Kp B b w (w.alloc (.cells #[.int .u8 t.kind, .string t.text, .int .i64 t.num, .int .i64 t.pos, .slice ao t.kids.length c] 25))) := (Kp.refl B b w).below hw.base hb0
  have HG0 : Hid ((w.alloc (.cells #[.int .u8 t.kind, .string t.text, .int .i64 t.num, .int .i64 t.pos, .slice ao t.kids.length c] 25)).heap[w.heap.size]? = some (.cells #[.int .u8 t.kind, .string t.text, .int .i64 t.num, .int .i64 t.pos, .slice ao t.kids.length c] 25 (0, 0))) := heap_alloc_new w _
  have hgb : w.heap.size ≠ b := by have := hw.lt; omega
  have HR0 : Hid (Kp B b (w.alloc (.cells #[.int .u8 t.kind, .string t.text, .int .i64 t.num, .int .i64 t.pos, .slice ao t.kids.length c] 25)) (w.alloc (.cells #[.int .u8 t.kind, .string t.text, .int .i64 t.num, .int .i64 t.pos, .slice ao t.kids.length c] 25))) := Kp.refl _ _ _
  have hbw : B ≤ w.heap.size := hw.base
  clear hl hw k1 hb0
  have KX : Hid (∀ W bs', Kp B b (w.alloc (.cells #[.int .u8 t.kind, .string t.text, .int .i64 t.num, .int .i64 t.pos, .slice ao t.kids.length c] 25)) W → Wrt B b bs' W → bs'.length + (rowX t.kids).length ≤ 140737488355328 → Calls Tryz.prog 68 #[.pointer (some ⟨b, 0, none⟩), .slice ao t.kids.length c, .func (.func 97) #[.pointer (some ⟨b, 0, none⟩)] #[]] W (Wd B b bs' (rowX t.kids) W)) := fun W bs' hk hw hlen => row_expression t hp.kids B b bs' W ao c (HLi.out.keep (HK0.out.trans hk).bel) hw hlen
  clear hpt HLi HA hp
  unfold agg at *
  generalize t.kind = k at *
  subst hk
  generalize rowX t.kids = x at *
  simp at hlen
  have HL1 : Hid (bs.length + 5 ≤ 140737488355328) := by unfold Hid; omega
  have HL2 : Hid ((bs ++ ([116, 101, 115, 116, 32])).length + x.length ≤ 140737488355328) := by unfold Hid; simp; omega
  have HL3 : Hid (((bs ++ ([116, 101, 115, 116, 32])) ++ (x)).length + 1 ≤ 140737488355328) := by unfold Hid; simp; omega
  clear hlen
  go_enter Tryz.func70, Tryz.ntmps70
  go_wp2_with (go_at_call 36; go_must (refine (lit1 B b _ (⟨#[116, 101, 115, 116, 32]⟩) _ HW0.out (HL1.out) _ (by first | rfl | simp)).mono ?_; rintro e w1 ⟨rfl, hw, hk⟩; have HW1 : Hid (Wrt B b (bs ++ ([116, 101, 115, 116, 32])) w1) := hw; have HR1 : Hid (Kp B b (w.alloc (.cells #[.int .u8 7, .string t.text, .int .i64 t.num, .int .i64 t.pos, .slice ao t.kids.length c] 25)) w1) := HR0.out.trans hk; have c1 := box_at HG0.out HR1.out hgb; clear hw hk; refine Hid.out ?_))
  refine Lib.hid ?_
  go_wp2_with (go_at_call 68; go_must (refine (KX.out _ _ HR1.out HW1.out HL2.out).mono ?_; rintro e w2 ⟨rfl, hw, hk⟩; have HW2 : Hid (Wrt B b ((bs ++ ([116, 101, 115, 116, 32])) ++ (x)) w2) := hw; have HR2 : Hid (Kp B b (w.alloc (.cells #[.int .u8 7, .string t.text, .int .i64 t.num, .int .i64 t.pos, .slice ao t.kids.length c] 25)) w2) := HR1.out.trans hk; have c2 := box_at HG0.out HR2.out hgb; clear hw hk; refine Hid.out ?_))
  refine Lib.hid ?_
  go_wp2_with (go_at_call 36; go_must (refine (lit1 B b _ (⟨#[59]⟩) _ HW2.out (HL3.out) _ (by first | rfl | simp)).mono ?_; rintro e w3 ⟨rfl, hw, hk⟩; have HW3 : Hid (Wrt B b (((bs ++ ([116, 101, 115, 116, 32])) ++ (x)) ++ ([59])) w3) := hw; have HR3 : Hid (Kp B b (w.alloc (.cells #[.int .u8 7, .string t.text, .int .i64 t.num, .int .i64 t.pos, .slice ao t.kids.length c] 25)) w3) := HR2.out.trans hk; have c3 := box_at HG0.out HR3.out hgb; clear hw hk; refine Hid.out ?_))
  refine Lib.hid ?_
  go_wp2_with fail
  go_end0
  refine ⟨rfl, ?_, HK0.out.trans HR3.out⟩
  have hfin := HW3.out
  simpa [List.append_assoc] using hfin

set_option maxRecDepth 100000 in
set_option maxHeartbeats 1000000 in
theorem part_8 (t : T) (hk : t.kind = 8) (hp : IsPart t) (B b : Nat) (bs : L8) (w : World) (v : Value) (hl : Lies B w t v) (hw : Wrt B b bs w) (_ht : Tab B w) (hlen : bs.length + (partT t).length ≤ 140737488355328) :
    Calls Tryz.prog 70 #[.pointer (some ⟨b, 0, none⟩), agg t v] w (Wd B b bs (partT t) w) := by
  have hpt : partT t = [97, 115, 115, 101, 114, 116, 32] ++ namedX T.expr t ++ [59] := by
    unfold partT
    rw [hk]
    simp [namedX, rowX]
  rw [hpt] at hlen ⊢
  obtain ⟨ao, c, ps, rfl, k1⟩ := hl.out
  have hlm := k1.len64
  have HLi := Lib.hid hl
  have HA := Lib.hid k1
  have hb0 := below_own (w := w) (.cells #[.int .u8 t.kind, .string t.text, .int .i64 t.num, .int .i64 t.pos, .slice ao t.kids.length c] 25)
  have HW0 : Hid (Wrt B b bs (w.alloc (.cells #[.int .u8 t.kind, .string t.text, .int .i64 t.num, .int .i64 t.pos, .slice ao t.kids.length c] 25))) := hw.below hb0
  have HK0 : Hid (Kp B b w (w.alloc (.cells #[.int .u8 t.kind, .string t.text, .int .i64 t.num, .int .i64 t.pos, .slice ao t.kids.length c] 25))) := (Kp.refl B b w).below hw.base hb0
  have HG0 : Hid ((w.alloc (.cells #[.int .u8 t.kind, .string t.text, .int .i64 t.num, .int .i64 t.pos, .slice ao t.kids.length c] 25)).heap[w.heap.size]? = some (.cells #[.int .u8 t.kind, .string t.text, .int .i64 t.num, .int .i64 t.pos, .slice ao t.kids.length c] 25 (0, 0))) := heap_alloc_new w _
  have hgb : w.heap.size ≠ b := by have := hw.lt; omega
  have HR0 : Hid (Kp B b (w.alloc (.cells #[.int .u8 t.kind, .string t.text, .int .i64 t.num, .int .i64 t.pos, .slice ao t.kids.length c] 25)) (w.alloc (.cells #[.int .u8 t.kind, .string t.text, .int .i64 t.num, .int .i64 t.pos, .slice ao t.kids.length c] 25))) := Kp.refl _ _ _
  have hbw : B ≤ w.heap.size := hw.base
  clear hl hw k1 hb0
  have KX : Hid (∀ W bs', Kp B b (w.alloc (.cells #[.int .u8 t.kind, .string t.text, .int .i64 t.num, .int .i64 t.pos, .slice ao t.kids.length c] 25)) W → Wrt B b bs' W → bs'.length + (namedX T.expr t).length ≤ 140737488355328 → Calls Tryz.prog 37 #[.pointer (some ⟨b, 0, none⟩), agg t (.slice ao t.kids.length c), .func (.func 97) #[.pointer (some ⟨b, 0, none⟩)] #[]] W (Wd B b bs' (namedX T.expr t) W)) := fun W bs' hk hw hlen => named_expression t (hp.kids) B b bs' W _ (HLi.out.keep (HK0.out.trans hk).bel) hw hlen
  clear hpt HLi HA hp
  unfold agg at *
  generalize t.kind = k at *
  subst hk
  generalize namedX T.expr t = x at *
  simp at hlen
  have HL1 : Hid (bs.length + 7 ≤ 140737488355328) := by unfold Hid; omega
  have HL2 : Hid ((bs ++ ([97, 115, 115, 101, 114, 116, 32])).length + x.length ≤ 140737488355328) := by unfold Hid; simp; omega
  have HL3 : Hid (((bs ++ ([97, 115, 115, 101, 114, 116, 32])) ++ (x)).length + 1 ≤ 140737488355328) := by unfold Hid; simp; omega
  clear hlen
  go_enter Tryz.func70, Tryz.ntmps70
  go_wp2_with (go_at_call 36; go_must (refine (lit1 B b _ (⟨#[97, 115, 115, 101, 114, 116, 32]⟩) _ HW0.out (HL1.out) _ (by first | rfl | simp)).mono ?_; rintro e w1 ⟨rfl, hw, hk⟩; have HW1 : Hid (Wrt B b (bs ++ ([97, 115, 115, 101, 114, 116, 32])) w1) := hw; have HR1 : Hid (Kp B b (w.alloc (.cells #[.int .u8 8, .string t.text, .int .i64 t.num, .int .i64 t.pos, .slice ao t.kids.length c] 25)) w1) := HR0.out.trans hk; have c1 := box_at HG0.out HR1.out hgb; clear hw hk; refine Hid.out ?_))
  refine Lib.hid ?_
  go_wp2_with (go_at_call 37; go_must (refine (KX.out _ _ HR1.out HW1.out HL2.out).mono ?_; rintro e w2 ⟨rfl, hw, hk⟩; have HW2 : Hid (Wrt B b ((bs ++ ([97, 115, 115, 101, 114, 116, 32])) ++ (x)) w2) := hw; have HR2 : Hid (Kp B b (w.alloc (.cells #[.int .u8 8, .string t.text, .int .i64 t.num, .int .i64 t.pos, .slice ao t.kids.length c] 25)) w2) := HR1.out.trans hk; have c2 := box_at HG0.out HR2.out hgb; clear hw hk; refine Hid.out ?_))
  refine Lib.hid ?_
  go_wp2_with (go_at_call 36; go_must (refine (lit1 B b _ (⟨#[59]⟩) _ HW2.out (HL3.out) _ (by first | rfl | simp)).mono ?_; rintro e w3 ⟨rfl, hw, hk⟩; have HW3 : Hid (Wrt B b (((bs ++ ([97, 115, 115, 101, 114, 116, 32])) ++ (x)) ++ ([59])) w3) := hw; have HR3 : Hid (Kp B b (w.alloc (.cells #[.int .u8 8, .string t.text, .int .i64 t.num, .int .i64 t.pos, .slice ao t.kids.length c] 25)) w3) := HR2.out.trans hk; have c3 := box_at HG0.out HR3.out hgb; clear hw hk; refine Hid.out ?_))
  refine Lib.hid ?_
  go_wp2_with fail
  go_end0
  refine ⟨rfl, ?_, HK0.out.trans HR3.out⟩
  have hfin := HW3.out
  simpa [List.append_assoc] using hfin

set_option maxRecDepth 100000 in
set_option maxHeartbeats 1000000 in
theorem part_9 (t : T) (hk : t.kind = 9) (hp : IsPart t) (B b : Nat) (bs : L8) (w : World) (v : Value) (hl : Lies B w t v) (hw : Wrt B b bs w) (ht : Tab B w) (hlen : bs.length + (partT t).length ≤ 140737488355328) :
    Calls Tryz.prog 70 #[.pointer (some ⟨b, 0, none⟩), agg t v] w (Wd B b bs (partT t) w) := by
  have hpt : partT t = [114, 101, 116, 114, 97, 99, 116, 32] ++ Lib.itoa t.num ++ [59] := by
    unfold partT
    rw [hk]
    simp
  rw [hpt] at hlen ⊢
  obtain ⟨ao, c, ps, rfl, k1⟩ := hl.out
  have hlm := k1.len64
  have HLi := Lib.hid hl
  have HA := Lib.hid k1
  have hb0 := below_own (w := w) (.cells #[.int .u8 t.kind, .string t.text, .int .i64 t.num, .int .i64 t.pos, .slice ao t.kids.length c] 25)
  have HW0 : Hid (Wrt B b bs (w.alloc (.cells #[.int .u8 t.kind, .string t.text, .int .i64 t.num, .int .i64 t.pos, .slice ao t.kids.length c] 25))) := hw.below hb0
  have HK0 : Hid (Kp B b w (w.alloc (.cells #[.int .u8 t.kind, .string t.text, .int .i64 t.num, .int .i64 t.pos, .slice ao t.kids.length c] 25))) := (Kp.refl B b w).below hw.base hb0
  have HG0 : Hid ((w.alloc (.cells #[.int .u8 t.kind, .string t.text, .int .i64 t.num, .int .i64 t.pos, .slice ao t.kids.length c] 25)).heap[w.heap.size]? = some (.cells #[.int .u8 t.kind, .string t.text, .int .i64 t.num, .int .i64 t.pos, .slice ao t.kids.length c] 25 (0, 0))) := heap_alloc_new w _
  have hgb : w.heap.size ≠ b := by have := hw.lt; omega
  have HR0 : Hid (Kp B b (w.alloc (.cells #[.int .u8 t.kind, .string t.text, .int .i64 t.num, .int .i64 t.pos, .slice ao t.kids.length c] 25)) (w.alloc (.cells #[.int .u8 t.kind, .string t.text, .int .i64 t.num, .int .i64 t.pos, .slice ao t.kids.length c] 25))) := Kp.refl _ _ _
  have hbw : B ≤ w.heap.size := hw.base
  clear hl hw k1 hb0
  have KI : Hid (Calls Tryz.prog 43 #[.int .i64 t.num] (w.alloc (.cells #[.int .u8 t.kind, .string t.text, .int .i64 t.num, .int .i64 t.pos, .slice ao t.kids.length c] 25)) fun e w' => e = .returned (.string (BA (Lib.itoa t.num))) ∧ Below (w.alloc (.cells #[.int .u8 t.kind, .string t.text, .int .i64 t.num, .int .i64 t.pos, .slice ao t.kids.length c] 25)).heap.size (w.alloc (.cells #[.int .u8 t.kind, .string t.text, .int .i64 t.num, .int .i64 t.pos, .slice ao t.kids.length c] 25)) w') := itoa_any _ _ (by have := hp.num hk; omega) (by have := hp.num hk; omega) (ht.on HK0.out.bel).here
  clear hpt HLi HA hp ht
  unfold agg at *
  generalize t.kind = k at *
  subst hk
  generalize Lib.itoa t.num = x at *
  simp at hlen
  obtain ⟨z, hz⟩ : ∃ z, z = BA x := ⟨_, rfl⟩
  have hzs : z.data.toList = x := by rw [hz]
  rw [← hz] at KI
  clear hz
  have HZS := Lib.hid hzs
  rw [← hzs] at hlen
  have HL1 : Hid (bs.length + (8 + z.data.toList.length) ≤ 140737488355328) := by unfold Hid; omega
  have HL2 : Hid ((bs ++ ([114, 101, 116, 114, 97, 99, 116, 32] ++ z.data.toList)).length + 1 ≤ 140737488355328) := by unfold Hid; simp only [List.length_append, List.length_cons, List.length_nil]; omega
  rw [← hzs]
  clear hlen hzs
  go_enter Tryz.func70, Tryz.ntmps70
  go_wp2_with (first
    | (go_at_call 43; go_must (refine (KI.out).mono ?_; rintro e w1 ⟨rfl, hb⟩; have HR1 : Hid (Kp B b (w.alloc (.cells #[.int .u8 9, .string t.text, .int .i64 t.num, .int .i64 t.pos, .slice ao t.kids.length c] 25)) w1) := (Kp.refl _ _ _).below HW0.out.base hb; have HW1 : Hid (Wrt B b bs w1) := HW0.out.below hb; clear hb))
    | (go_at_call 36; go_must (refine (lit2 B b _ (⟨#[114, 101, 116, 114, 97, 99, 116, 32]⟩) (z) _ HW1.out (HL1.out) _ (by first | rfl | simp)).mono ?_; rintro e w2 ⟨rfl, hw, hk⟩; have HW2 : Hid (Wrt B b (bs ++ ([114, 101, 116, 114, 97, 99, 116, 32] ++ z.data.toList)) w2) := hw; have HR2 : Hid (Kp B b (w.alloc (.cells #[.int .u8 9, .string t.text, .int .i64 t.num, .int .i64 t.pos, .slice ao t.kids.length c] 25)) w2) := HR1.out.trans hk; clear hw hk; refine Hid.out ?_)))
  refine Lib.hid ?_
  go_wp2_with (go_at_call 36; go_must (refine (lit1 B b _ (⟨#[59]⟩) _ HW2.out (HL2.out) _ (by first | rfl | simp)).mono ?_; rintro e w3 ⟨rfl, hw, hk⟩; have HW3 : Hid (Wrt B b ((bs ++ ([114, 101, 116, 114, 97, 99, 116, 32] ++ z.data.toList)) ++ ([59])) w3) := hw; have HR3 : Hid (Kp B b (w.alloc (.cells #[.int .u8 9, .string t.text, .int .i64 t.num, .int .i64 t.pos, .slice ao t.kids.length c] 25)) w3) := HR2.out.trans hk; clear hw hk; refine Hid.out ?_))
  refine Lib.hid ?_
  go_wp2_with fail
  go_end0
  refine ⟨rfl, ?_, HK0.out.trans HR3.out⟩
  have hfin := HW3.out
  simpa [List.append_assoc] using hfin

set_option maxRecDepth 100000 in
set_option maxHeartbeats 1000000 in
theorem part_10 (t : T) (hk : t.kind = 10) (hp : IsPart t) (B b : Nat) (bs : L8) (w : World) (v : Value) (hl : Lies B w t v) (hw : Wrt B b bs w) (_ht : Tab B w) (hlen : bs.length + (partT t).length ≤ 140737488355328) :
    Calls Tryz.prog 70 #[.pointer (some ⟨b, 0, none⟩), agg t v] w (Wd B b bs (partT t) w) := by
  have hpt : partT t = [115, 97, 121, 32] ++ rowX t.kids ++ [59] := by
    unfold partT
    rw [hk]
    simp [rowX]
  rw [hpt] at hlen ⊢
  obtain ⟨ao, c, ps, rfl, k1⟩ := hl.out
  have hlm := k1.len64
  have HLi := Lib.hid hl
  have HA := Lib.hid k1
  have hb0 := below_own (w := w) (.cells #[.int .u8 t.kind, .string t.text, .int .i64 t.num, .int .i64 t.pos, .slice ao t.kids.length c] 25)
  have HW0 : Hid (Wrt B b bs (w.alloc (.cells #[.int .u8 t.kind, .string t.text, .int .i64 t.num, .int .i64 t.pos, .slice ao t.kids.length c] 25))) := hw.below hb0
  have HK0 : Hid (Kp B b w (w.alloc (.cells #[.int .u8 t.kind, .string t.text, .int .i64 t.num, .int .i64 t.pos, .slice ao t.kids.length c] 25))) := (Kp.refl B b w).below hw.base hb0
  have HG0 : Hid ((w.alloc (.cells #[.int .u8 t.kind, .string t.text, .int .i64 t.num, .int .i64 t.pos, .slice ao t.kids.length c] 25)).heap[w.heap.size]? = some (.cells #[.int .u8 t.kind, .string t.text, .int .i64 t.num, .int .i64 t.pos, .slice ao t.kids.length c] 25 (0, 0))) := heap_alloc_new w _
  have hgb : w.heap.size ≠ b := by have := hw.lt; omega
  have HR0 : Hid (Kp B b (w.alloc (.cells #[.int .u8 t.kind, .string t.text, .int .i64 t.num, .int .i64 t.pos, .slice ao t.kids.length c] 25)) (w.alloc (.cells #[.int .u8 t.kind, .string t.text, .int .i64 t.num, .int .i64 t.pos, .slice ao t.kids.length c] 25))) := Kp.refl _ _ _
  have hbw : B ≤ w.heap.size := hw.base
  clear hl hw k1 hb0
  have KX : Hid (∀ W bs', Kp B b (w.alloc (.cells #[.int .u8 t.kind, .string t.text, .int .i64 t.num, .int .i64 t.pos, .slice ao t.kids.length c] 25)) W → Wrt B b bs' W → bs'.length + (rowX t.kids).length ≤ 140737488355328 → Calls Tryz.prog 68 #[.pointer (some ⟨b, 0, none⟩), .slice ao t.kids.length c, .func (.func 97) #[.pointer (some ⟨b, 0, none⟩)] #[]] W (Wd B b bs' (rowX t.kids) W)) := fun W bs' hk hw hlen => row_expression t hp.kids B b bs' W ao c (HLi.out.keep (HK0.out.trans hk).bel) hw hlen
  clear hpt HLi HA hp
  unfold agg at *
  generalize t.kind = k at *
  subst hk
  generalize rowX t.kids = x at *
  simp at hlen
  have HL1 : Hid (bs.length + 4 ≤ 140737488355328) := by unfold Hid; omega
  have HL2 : Hid ((bs ++ ([115, 97, 121, 32])).length + x.length ≤ 140737488355328) := by unfold Hid; simp; omega
  have HL3 : Hid (((bs ++ ([115, 97, 121, 32])) ++ (x)).length + 1 ≤ 140737488355328) := by unfold Hid; simp; omega
  clear hlen
  go_enter Tryz.func70, Tryz.ntmps70
  go_wp2_with (go_at_call 36; go_must (refine (lit1 B b _ (⟨#[115, 97, 121, 32]⟩) _ HW0.out (HL1.out) _ (by first | rfl | simp)).mono ?_; rintro e w1 ⟨rfl, hw, hk⟩; have HW1 : Hid (Wrt B b (bs ++ ([115, 97, 121, 32])) w1) := hw; have HR1 : Hid (Kp B b (w.alloc (.cells #[.int .u8 10, .string t.text, .int .i64 t.num, .int .i64 t.pos, .slice ao t.kids.length c] 25)) w1) := HR0.out.trans hk; have c1 := box_at HG0.out HR1.out hgb; clear hw hk; refine Hid.out ?_))
  refine Lib.hid ?_
  go_wp2_with (go_at_call 68; go_must (refine (KX.out _ _ HR1.out HW1.out HL2.out).mono ?_; rintro e w2 ⟨rfl, hw, hk⟩; have HW2 : Hid (Wrt B b ((bs ++ ([115, 97, 121, 32])) ++ (x)) w2) := hw; have HR2 : Hid (Kp B b (w.alloc (.cells #[.int .u8 10, .string t.text, .int .i64 t.num, .int .i64 t.pos, .slice ao t.kids.length c] 25)) w2) := HR1.out.trans hk; have c2 := box_at HG0.out HR2.out hgb; clear hw hk; refine Hid.out ?_))
  refine Lib.hid ?_
  go_wp2_with (go_at_call 36; go_must (refine (lit1 B b _ (⟨#[59]⟩) _ HW2.out (HL3.out) _ (by first | rfl | simp)).mono ?_; rintro e w3 ⟨rfl, hw, hk⟩; have HW3 : Hid (Wrt B b (((bs ++ ([115, 97, 121, 32])) ++ (x)) ++ ([59])) w3) := hw; have HR3 : Hid (Kp B b (w.alloc (.cells #[.int .u8 10, .string t.text, .int .i64 t.num, .int .i64 t.pos, .slice ao t.kids.length c] 25)) w3) := HR2.out.trans hk; have c3 := box_at HG0.out HR3.out hgb; clear hw hk; refine Hid.out ?_))
  refine Lib.hid ?_
  go_wp2_with fail
  go_end0
  refine ⟨rfl, ?_, HK0.out.trans HR3.out⟩
  have hfin := HW3.out
  simpa [List.append_assoc] using hfin

set_option maxRecDepth 100000 in
set_option maxHeartbeats 1000000 in
theorem part_11 (t : T) (hk : t.kind = 11) (_hp : IsPart t) (B b : Nat) (bs : L8) (w : World) (v : Value) (hl : Lies B w t v) (hw : Wrt B b bs w) (_ht : Tab B w) (hlen : bs.length + (partT t).length ≤ 140737488355328) :
    Calls Tryz.prog 70 #[.pointer (some ⟨b, 0, none⟩), agg t v] w (Wd B b bs (partT t) w) := by
  have hpt : partT t = [104, 97, 108, 116] ++ [59] := by
    unfold partT
    rw [hk]
    simp
  rw [hpt] at hlen ⊢
  obtain ⟨ao, c, ps, rfl, k1⟩ := hl.out
  have hlm := k1.len64
  have HLi := Lib.hid hl
  have HA := Lib.hid k1
  have hb0 := below_own (w := w) (.cells #[.int .u8 t.kind, .string t.text, .int .i64 t.num, .int .i64 t.pos, .slice ao t.kids.length c] 25)
  have HW0 : Hid (Wrt B b bs (w.alloc (.cells #[.int .u8 t.kind, .string t.text, .int .i64 t.num, .int .i64 t.pos, .slice ao t.kids.length c] 25))) := hw.below hb0
  have HK0 : Hid (Kp B b w (w.alloc (.cells #[.int .u8 t.kind, .string t.text, .int .i64 t.num, .int .i64 t.pos, .slice ao t.kids.length c] 25))) := (Kp.refl B b w).below hw.base hb0
  have HG0 : Hid ((w.alloc (.cells #[.int .u8 t.kind, .string t.text, .int .i64 t.num, .int .i64 t.pos, .slice ao t.kids.length c] 25)).heap[w.heap.size]? = some (.cells #[.int .u8 t.kind, .string t.text, .int .i64 t.num, .int .i64 t.pos, .slice ao t.kids.length c] 25 (0, 0))) := heap_alloc_new w _
  have hgb : w.heap.size ≠ b := by have := hw.lt; omega
  have HR0 : Hid (Kp B b (w.alloc (.cells #[.int .u8 t.kind, .string t.text, .int .i64 t.num, .int .i64 t.pos, .slice ao t.kids.length c] 25)) (w.alloc (.cells #[.int .u8 t.kind, .string t.text, .int .i64 t.num, .int .i64 t.pos, .slice ao t.kids.length c] 25))) := Kp.refl _ _ _
  have hbw : B ≤ w.heap.size := hw.base
  clear hl hw k1 hb0
  clear hpt HLi HA
  unfold agg at *
  generalize t.kind = k at *
  subst hk
  simp at hlen
  have HL1 : Hid (bs.length + 4 ≤ 140737488355328) := by unfold Hid; omega
  have HL2 : Hid ((bs ++ ([104, 97, 108, 116])).length + 1 ≤ 140737488355328) := by unfold Hid; simp; omega
  clear hlen
  go_enter Tryz.func70, Tryz.ntmps70
  go_wp2_with (go_at_call 36; go_must (refine (lit1 B b _ (⟨#[104, 97, 108, 116]⟩) _ HW0.out (HL1.out) _ (by first | rfl | simp)).mono ?_; rintro e w1 ⟨rfl, hw, hk⟩; have HW1 : Hid (Wrt B b (bs ++ ([104, 97, 108, 116])) w1) := hw; have HR1 : Hid (Kp B b (w.alloc (.cells #[.int .u8 11, .string t.text, .int .i64 t.num, .int .i64 t.pos, .slice ao t.kids.length c] 25)) w1) := HR0.out.trans hk; have c1 := box_at HG0.out HR1.out hgb; clear hw hk; refine Hid.out ?_))
  refine Lib.hid ?_
  go_wp2_with (go_at_call 36; go_must (refine (lit1 B b _ (⟨#[59]⟩) _ HW1.out (HL2.out) _ (by first | rfl | simp)).mono ?_; rintro e w2 ⟨rfl, hw, hk⟩; have HW2 : Hid (Wrt B b ((bs ++ ([104, 97, 108, 116])) ++ ([59])) w2) := hw; have HR2 : Hid (Kp B b (w.alloc (.cells #[.int .u8 11, .string t.text, .int .i64 t.num, .int .i64 t.pos, .slice ao t.kids.length c] 25)) w2) := HR1.out.trans hk; have c2 := box_at HG0.out HR2.out hgb; clear hw hk; refine Hid.out ?_))
  refine Lib.hid ?_
  go_wp2_with fail
  go_end0
  refine ⟨rfl, ?_, HK0.out.trans HR2.out⟩
  have hfin := HW2.out
  simpa [List.append_assoc] using hfin

theorem part_any (t : T) (hp : IsPart t) (B b : Nat) (bs : L8) (w : World) (v : Value) (hl : Lies B w t v) (hw : Wrt B b bs w) (ht : Tab B w) (hlen : bs.length + (partT t).length ≤ 140737488355328) :
    Calls Tryz.prog 70 #[.pointer (some ⟨b, 0, none⟩), agg t v] w (Wd B b bs (partT t) w) := by
  rcases hp.kind with h | h | h | h | h | h | h
  · exact part_5 t h hp B b bs w v hl hw ht hlen
  · exact part_6 t h hp B b bs w v hl hw ht hlen
  · exact part_7 t h hp B b bs w v hl hw ht hlen
  · exact part_8 t h hp B b bs w v hl hw ht hlen
  · exact part_9 t h hp B b bs w v hl hw ht hlen
  · exact part_10 t h hp B b bs w v hl hw ht hlen
  · exact part_11 t h hp B b bs w v hl hw ht hlen
end Go.Proofs.YtfmjhbaenpbfoaaGreatDoor

namespace Go.Proofs.YtfmjhbaenpbfoaaGreatDoor
open Go.RowKit

set_option maxRecDepth 100000 in
set_option maxHeartbeats 600000 in
theorem isAction_no (t : T) (ao : Option Addr) (n c : Nat) (w : World) (hk : t.kind = 5 ∨ t.kind = 6 ∨ t.kind = 7) : Calls Tryz.prog 95 #[agg t (.slice ao n c)] w fun e w' => e = .returned (.bool false) ∧ Gr w w' := by
  have HG : Hid (Gr w (w.alloc (.cells #[.int .u8 t.kind, .string t.text, .int .i64 t.num, .int .i64 t.pos, .slice ao n c] 25))) := box_gr _ _
  unfold agg
  generalize t.kind = k at *
  rcases hk with rfl | rfl | rfl <;>
  · go_enter Tryz.func95, Tryz.ntmps95
    go_wp2_with fail
    go_ret
    exact ⟨rfl, HG.out⟩
set_option maxRecDepth 100000 in
set_option maxHeartbeats 600000 in
theorem isAction_yes (t : T) (ao : Option Addr) (n c : Nat) (w : World) (hk : t.kind = 8 ∨ t.kind = 9 ∨ t.kind = 10 ∨ t.kind = 11) : Calls Tryz.prog 95 #[agg t (.slice ao n c)] w fun e w' => e = .returned (.bool true) ∧ Gr w w' := by
  have HG : Hid (Gr w (w.alloc (.cells #[.int .u8 t.kind, .string t.text, .int .i64 t.num, .int .i64 t.pos, .slice ao n c] 25))) := box_gr _ _
  unfold agg
  generalize t.kind = k at *
  rcases hk with rfl | rfl | rfl | rfl <;>
  · go_enter Tryz.func95, Tryz.ntmps95
    go_wp2_with fail
    go_ret
    exact ⟨rfl, HG.out⟩

/-- Conditions ahead of actions: where these begin. -/
structure HalvesAt (l : List T) (m : Nat) : Prop where
  le : m ≤ l.length
  conds : ∀ j k, l[j]? = some k → j < m → k.kind = 5 ∨ k.kind = 6 ∨ k.kind = 7
  act : ∀ k, l[m]? = some k → k.kind = 8 ∨ k.kind = 9 ∨ k.kind = 10 ∨ k.kind = 11
set_option maxRecDepth 100000 in
set_option maxHeartbeats 1000000 in
theorem index_any (t : T) (m : Nat) (r : Int) (hm : HalvesAt t.kids m) (hr1 : m < t.kids.length → r = m) (hr2 : m = t.kids.length → r = -1) (B : Nat) (w : World) (ao : Option Addr) (c : Nat) (hl : Lies B w t (.slice ao t.kids.length c)) (hBw : B ≤ w.heap.size) :
    Calls Tryz.prog 94 #[.slice ao t.kids.length c, .func (.func 95) #[] #[]] w fun e w' => e = .returned (.int .i64 r) ∧ Gr w w' := by
  have HLi := Lib.hid hl
  have HM := Lib.hid hm
  have HR1 := Lib.hid hr1
  have HR2 := Lib.hid hr2
  obtain ⟨ao', c', ps, he, k1⟩ := hl.out
  have hlm := k1.len64
  have HBw := Lib.hid hBw
  have hml := hm.le
  clear he k1 hl hm hr1 hr2 hBw
  obtain ⟨n, hn⟩ : ∃ n, n = t.kids.length := ⟨_, rfl⟩
  have HN := Lib.hid hn
  rw [← hn] at hlm HLi hml ⊢
  clear hn
  go_enter Tryz.func94, Tryz.ntmps94
  go_wp2_with fail
  go_loopw [8] (fun i wr => ∃ j : Nat, j ≤ m ∧ i = .int .i64 j ∧ Hid (Gr w wr)) (fun i _ => n - (intOf i).toNat)
  case atStart => exact ⟨0, by omega, rfl, Gr.refl _⟩
  case round =>
    obtain ⟨j, hj, rfl, HG⟩ := hrel
    by_cases hlt : j < n
    · have hjn : (j : Int) < (n : Int) := by omega
      have hjl : j < t.kids.length := by rw [← HN.out]; exact hlt
      obtain ⟨ao', c', ps, he, k1⟩ := (HLi.out.keep (HG.out.below.mono HBw.out)).out
      obtain ⟨sb, off, e1, hsb, hc⟩ := k1.kid (by omega)
      obtain ⟨u, hkc, hkl⟩ := hc j t.kids[j] (List.getElem?_eq_getElem hjl)
      injection he with he1 he2 he3
      subst he1 e1 he3
      obtain ⟨ka, kc, kps, rfl, kk⟩ := hkl.out
      have HCo := Lib.hid (HM.out.conds j t.kids[j] (List.getElem?_eq_getElem hjl))
      have HAc : Hid (j = m → t.kids[j].kind = 8 ∨ t.kids[j].kind = 9 ∨ t.kids[j].kind = 10 ∨ t.kids[j].kind = 11) := fun e => HM.out.act t.kids[j] (by rw [← e]; exact List.getElem?_eq_getElem hjl)
      obtain ⟨d0, d1, d2, d3, d4⟩ := hkc
      clear hc he2 k1 kk hkl kps ps
      generalize t.kids[j] = q at *
      generalize q.kids.length = ql at *
      by_cases hjm : j < m
      · have KA := Lib.hid (isAction_no q ka ql kc wr (HCo.out hjm))
        unfold agg at *
        go_wp2_with (go_at_call 95; go_must (refine (KA.out).mono ?_; rintro e w1 ⟨rfl, hg⟩; have HGn : Hid (Gr w w1) := HG.out.trans hg; clear hg))
        clear KA d0 d1 d2 d3 d4 HG
        go_roundw
        case rel => exact ⟨j + 1, by omega, by go_num, HGn⟩
        case measure => simp [intOf]; omega
      · obtain hjm' : j = m := by omega
        have KA := Lib.hid (isAction_yes q ka ql kc wr (HAc.out hjm'))
        have HRr : Hid (r = j) := by
          have := HR1.out (by rw [← hjm']; exact hjl)
          unfold Hid
          rw [this, hjm']
        clear hjm'
        unfold agg at *
        go_wp2_with (go_at_call 95; go_must (refine (KA.out).mono ?_; rintro e w1 ⟨rfl, hg⟩; have HGn : Hid (Gr w w1) := HG.out.trans hg; clear hg))
        go_ret
        rw [HRr.out]
        exact ⟨rfl, HGn.out⟩
    · have HRr : Hid (r = -1) := HR2.out (by rw [← HN.out]; omega)
      have hjn : ¬ (j : Int) < (n : Int) := by omega
      go_wp2_with fail
      go_ret
      rw [HRr.out]
      exact ⟨rfl, HG.out⟩
/-- A tree's first kids, where they lie. -/
theorem Lies.take {B : Nat} {w : World} {t : T} {ao : Option Addr} {c : Nat} (h : Lies B w t (.slice ao t.kids.length c)) (m : Nat) (hm : m ≤ t.kids.length) : Lies B w (.mk 0 ⟨#[]⟩ 0 0 (t.kids.take m)) (.slice ao m c) := by
  obtain ⟨ao', c', ps, he, k⟩ := h.out
  injection he with e1 e2 e3
  subst e1 e3
  have hl : (T.mk 0 ⟨#[]⟩ 0 0 (t.kids.take m)).kids.length = m := by show (t.kids.take m).length = m; rw [List.length_take]; omega
  have := Lies.mk (B := B) (w := w) (.mk 0 ⟨#[]⟩ 0 0 (t.kids.take m)) ao c (ps.take m) (by rw [List.map_take, k.kids]; rfl) (fun hne => ?_) k.nil (by rw [hl]; exact Nat.le_trans hm k.cap) k.top (fun p hp => k.each p (List.mem_of_mem_take hp))
  · rwa [hl] at this
  · have he : cellsN ps = cellsN (ps.take m) ++ cellsN (ps.drop m) := by rw [← cellsN_append, List.take_append_drop]
    obtain ⟨sb, off, r1, r2, r3⟩ := k.sl (fun e => hne (by rw [e] at he; exact (List.append_eq_nil_iff.1 he.symm).1))
    refine ⟨sb, off, r1, r2, fun i u hu => r3 i u ?_⟩
    rw [he, List.getElem?_append_left (List.getElem?_eq_some_iff.1 hu).1]
    exact hu
/-- A tree's last kids. -/
theorem Lies.drop {B : Nat} {w : World} {t : T} {sb off c : Nat} (h : Lies B w t (.slice (some ⟨sb, off, none⟩) t.kids.length c)) (m : Nat) (hm : m < t.kids.length) : Lies B w (.mk 0 ⟨#[]⟩ 0 0 (t.kids.drop m)) (.slice (some ⟨sb, off + m * 5, none⟩) (t.kids.length - m) (c - m)) := by
  obtain ⟨ao', c', ps, he, k⟩ := h.out
  injection he with e1 e2 e3
  subst e1 e3
  have hl : (T.mk 0 ⟨#[]⟩ 0 0 (t.kids.drop m)).kids.length = t.kids.length - m := by show (t.kids.drop m).length = _; rw [List.length_drop]
  have := Lies.mk (B := B) (w := w) (.mk 0 ⟨#[]⟩ 0 0 (t.kids.drop m)) (some ⟨sb, off + m * 5, none⟩) (c - m) (ps.drop m) (by rw [List.map_drop, k.kids]; rfl) (fun hne => ?_) (fun e => by cases e) (by rw [hl]; have := k.cap; omega) (by have := k.top; omega) (fun p hp => k.each p (List.mem_of_mem_drop hp))
  · rwa [hl] at this
  · have he : cellsN ps = cellsN (ps.take m) ++ cellsN (ps.drop m) := by rw [← cellsN_append, List.take_append_drop]
    have hlt : (cellsN (ps.take m)).length = m * 5 := by rw [cellsN_length, List.length_take, k.len]; congr 1; omega
    obtain ⟨sb', off', r1, r2, r3⟩ := k.sl (fun e => hne (by rw [e] at he; exact (List.append_eq_nil_iff.1 he.symm).2))
    injection r1 with r1
    injection r1 with r1 r4
    subst r1 r4
    refine ⟨sb, off + m * 5, rfl, r2, fun i u hu => ?_⟩
    have := r3 (m * 5 + i) u (by rw [he, List.getElem?_append_right (by omega), hlt, Nat.add_sub_cancel_left]; exact hu)
    rwa [← Nat.add_assoc] at this
/-- A row of trees, wherever it is kept. -/
def RowIs (B : Nat) (w : World) (l : List T) (v : Value) : Prop := ∃ ao c, v = .slice ao l.length c ∧ Lies B w (.mk 0 ⟨#[]⟩ 0 0 l) v
theorem RowIs.keep {B : Nat} {w w' : World} {l : List T} {v : Value} (h : RowIs B w l v) (b : Below B w w') : RowIs B w' l v := by
  obtain ⟨ao, c, rfl, h⟩ := h
  exact ⟨ao, c, rfl, h.keep b⟩
def HalvesSay (B : Nat) (l : List T) (m : Nat) (w : World) (e : Ending) (w' : World) : Prop := ∃ v1 v2, e = .returned (.tuple #[v1, v2]) ∧ RowIs B w' (l.take m) v1 ∧ RowIs B w' (l.drop m) v2 ∧ Gr w w'
set_option maxRecDepth 100000 in
set_option maxHeartbeats 1000000 in
theorem halves_any (t : T) (m : Nat) (hm : HalvesAt t.kids m) (B : Nat) (w : World) (ao : Option Addr) (c : Nat) (hl : Lies B w t (.slice ao t.kids.length c)) (hBw : B ≤ w.heap.size) :
    Calls Tryz.prog 69 #[.slice ao t.kids.length c] w (HalvesSay B t.kids m w) := by
  have hml := hm.le
  have HLi := Lib.hid hl
  obtain ⟨ao', c', ps, he, k1⟩ := hl.out
  have hlm := k1.len64
  by_cases hlt : m < t.kids.length
  · have KI := Lib.hid (index_any t m m hm (fun _ => rfl) (fun e => by omega) B w ao c hl hBw)
    obtain ⟨sb, off, e1, hsb, -⟩ := k1.kid (by omega)
    injection he with he1 he2 he3
    subst he1 e1 he3
    have hcap := k1.cap
    have htop := k1.top
    unfold maxLen at htop
    have HP : Hid (∀ W, Gr w W → HalvesSay B t.kids m w (.returned (.tuple #[.slice (some ⟨sb, off, none⟩) m c, .slice (some ⟨sb, off + m * 5, none⟩) (t.kids.length - m) (c - m)])) W) := fun W hg => by
      have hb := hg.below.mono hBw
      refine ⟨_, _, rfl, ⟨some ⟨sb, off, none⟩, c, ?_, (HLi.out.keep hb).take m hml⟩, ⟨some ⟨sb, off + m * 5, none⟩, c - m, ?_, (HLi.out.keep hb).drop m hlt⟩, hg⟩
      · rw [List.length_take, Nat.min_eq_left hml]
      · rw [List.length_drop]
    clear HLi k1 hl hm he2 ps hBw hsb
    generalize t.kids = l at *
    generalize l.length = n at *
    have h0 : (0 : Int) ≤ (m : Int) := by omega
    have h1 : (m : Int) ≤ (n : Int) := by omega
    have h2 : (m : Int) ≤ (c : Int) := by omega
    have h3 : (n : Int) ≤ (c : Int) := by omega
    have h4 : ¬ c = m := by omega
    go_enter Tryz.func69, Tryz.ntmps69
    go_wp2_with (go_at_call 94; go_must (refine (KI.out).mono ?_; rintro e w1 ⟨rfl, hg⟩; have HG := Lib.hid hg; clear hg))
    go_region
    all_goals
      go_wp2_with fail
      go_ret2
      exact HP.out _ (HG.out.drewN _)
  · obtain hmn : m = t.kids.length := by omega
    have KI := Lib.hid (index_any t m (-1) hm (fun e => by omega) (fun _ => rfl) B w ao c hl hBw)
    have HP : Hid (∀ W, Gr w W → HalvesSay B t.kids m w (.returned (.tuple #[.slice ao t.kids.length c, .slice none 0 0])) W) := fun W hg => by
      have hb := hg.below.mono hBw
      refine ⟨_, _, rfl, ⟨ao, c, ?_, ?_⟩, ⟨none, 0, ?_, ?_⟩, hg⟩
      · rw [List.length_take, Nat.min_eq_left hml, hmn]
      · have := (HLi.out.keep hb).take m hml
        rwa [hmn] at this ⊢
      · rw [List.length_drop, hmn, Nat.sub_self]
      · rw [hmn, List.drop_length]
        exact Lies.mk (.mk 0 ⟨#[]⟩ 0 0 []) none 0 [] rfl (fun h => absurd rfl h) (fun _ => rfl) (Nat.le_refl _) (Nat.zero_le _) (fun p hp => by cases hp)
    clear HLi k1 hl hm he ps hBw hlt hml hmn
    generalize t.kids = l at *
    generalize l.length = n at *
    go_enter Tryz.func69, Tryz.ntmps69
    go_wp2_with (go_at_call 94; go_must (refine (KI.out).mono ?_; rintro e w1 ⟨rfl, hg⟩; have HG := Lib.hid hg; clear hg))
    go_ret2
    exact HP.out _ HG.out
end Go.Proofs.YtfmjhbaenpbfoaaGreatDoor

namespace Go.Proofs.YtfmjhbaenpbfoaaGreatDoor
open Go.RowKit

/-- What a call of the document's comes to: a text. -/
def Sd (s : L8) (w : World) (e : Ending) (w' : World) : Prop := e = .returned (.string (BA s)) ∧ Below w.heap.size w w'
theorem cat2 (a b : L8) : BA a ++ BA b = BA (a ++ b) := ba_cat a b
theorem ret_str {a b : ByteArray} (h : a = b) : Ending.returned (.string a) = .returned (.string b) := by rw [h]
theorem one_bel {w w1 : World} {cs : Array Value} {t : TypeId} (h : Below (w.alloc (.cells cs t)).heap.size (w.alloc (.cells cs t)) w1) : ∀ j, w1.cell? ⟨w.heap.size, j, none⟩ = cs[j]? := fun j =>
  ((bret h).1 j).trans (Lib.cell_of_heap (heap_alloc_new w (.cells cs t)) j)
def RxOK (t : T) : Prop := ∀ (w : World) (v : Value), Lies w.heap.size w t v → t.expr.length ≤ 140737488355328 → Calls Tryz.prog 105 #[agg t v] w (Sd t.expr w)
def RofOK (t : T) : Prop := ∀ (least : Nat) (w : World) (v : Value), Lies w.heap.size w t v → (inB (bindsT t) least t.expr).length ≤ 140737488355328 → Calls Tryz.prog 135 #[agg t v, .int .i64 least] w (Sd (inB (bindsT t) least t.expr) w)

set_option maxRecDepth 100000 in
set_option maxHeartbeats 1000000 in
theorem rof_of (t : T) (hX : RxOK t) : RofOK t := by
  intro least w v hl hlen
  obtain ⟨ao, c, ps, rfl, k1⟩ := hl.out
  have hlm := k1.len64
  have HLi := Lib.hid hl
  have HA := Lib.hid k1
  have HB0 : Hid (Below w.heap.size w (w.alloc (.cells #[.int .u8 t.kind, .string t.text, .int .i64 t.num, .int .i64 t.pos, .slice ao t.kids.length c] 25))) := below_own _
  have KB := Lib.hid (refBinds_any t ao c (w.alloc (.cells #[.int .u8 t.kind, .string t.text, .int .i64 t.num, .int .i64 t.pos, .slice ao t.kids.length c] 25)) hlm)
  clear hl k1
  have KX : Hid (t.expr.length ≤ 140737488355328 → ∀ W, Below w.heap.size w W → Calls Tryz.prog 105 #[agg t (.slice ao t.kids.length c)] W (Sd t.expr W)) := fun hlen W hb => hX W _ (HLi.out.up hb hb.size) hlen
  by_cases hlt : bindsT t < least
  · have hx : inB (bindsT t) least t.expr = [40] ++ t.expr ++ [41] := by
      unfold inB
      rw [if_pos hlt]
    rw [hx] at hlen ⊢
    simp only [List.length_append, List.length_cons, List.length_nil] at hlen
    have KX2 := Lib.hid (KX.out (by omega))
    clear hX hx KX
    unfold agg Sd at *
    generalize bindsT t = r at *
    generalize t.expr = x at *
    obtain ⟨z, hz⟩ : ∃ z, z = BA x := ⟨_, rfl⟩
    have hzs : z.size = x.length := by rw [hz, ba_size]
    have HZ := Lib.hid hz
    rw [← hz] at KX2
    have l1 : ¬ 9223372036854775807 < 1 + z.size := by omega
    have l2 : ¬ 9223372036854775807 < 1 + z.size + 1 := by omega
    clear hz hzs hlen
    have hlt' : (r : Int) < (least : Int) := by omega
    go_enter Tryz.func135, Tryz.ntmps135
    go_wp2_with (go_at_call 134; go_must (refine (KB.out).mono ?_; rintro e w1 ⟨rfl, hg⟩; have c1 := one_bel hg.below; have HB1 : Hid (Below w.heap.size w w1) := HB0.out.trans (hg.below.mono HB0.out.size); have HD1 : Hid (Below (w.alloc (.cells #[.int .u8 t.kind, .string t.text, .int .i64 t.num, .int .i64 t.pos, .slice ao t.kids.length c] 25)).heap.size (w.alloc (.cells #[.int .u8 t.kind, .string t.text, .int .i64 t.num, .int .i64 t.pos, .slice ao t.kids.length c] 25)) w1) := hg.below; clear hg; refine Hid.out ?_))
    refine Lib.hid ?_
    go_wp2_with (go_at_call 105; go_must (refine (KX2.out _ HB1.out).mono ?_; rintro e w2 ⟨rfl, hb⟩; have HB2 : Hid (Below w.heap.size w w2) := HB1.out.trans (hb.mono HB1.out.size); clear hb))
    go_ret
    refine ⟨ret_str ?_, HB2.out⟩
    rw [HZ.out]
    apply ByteArray.ext
    apply Array.ext'
    simp [ByteArray.data_append]
  · have hx : inB (bindsT t) least t.expr = t.expr := by
      unfold inB
      rw [if_neg hlt]
    rw [hx] at hlen ⊢
    have KX2 := Lib.hid (KX.out hlen)
    clear hX hx KX hlen
    unfold agg Sd at *
    generalize bindsT t = r at *
    generalize t.expr = x at *
    have hlt' : ¬ (r : Int) < (least : Int) := by omega
    go_enter Tryz.func135, Tryz.ntmps135
    go_wp2_with (go_at_call 134; go_must (refine (KB.out).mono ?_; rintro e w1 ⟨rfl, hg⟩; have c1 := one_bel hg.below; have HB1 : Hid (Below w.heap.size w w1) := HB0.out.trans (hg.below.mono HB0.out.size); have HD1 : Hid (Below (w.alloc (.cells #[.int .u8 t.kind, .string t.text, .int .i64 t.num, .int .i64 t.pos, .slice ao t.kids.length c] 25)).heap.size (w.alloc (.cells #[.int .u8 t.kind, .string t.text, .int .i64 t.num, .int .i64 t.pos, .slice ao t.kids.length c] 25)) w1) := hg.below; clear hg; refine Hid.out ?_))
    refine Lib.hid ?_
    go_wp2_with (go_at_call 105; go_must (refine (KX2.out _ HB1.out).mono ?_; rintro e w2 ⟨rfl, hb⟩; have HB2 : Hid (Below w.heap.size w w2) := HB1.out.trans (hb.mono HB1.out.size); clear hb))
    go_ret
    exact ⟨rfl, HB2.out⟩

set_option maxRecDepth 100000 in
set_option maxHeartbeats 1000000 in
theorem rx_leaf (t : T) (hk : t.kind = 12 ∨ t.kind = 13 ∨ t.kind = 14 ∨ t.kind = 15) : RxOK t := by
  intro w v hl hlen
  obtain ⟨ao, c, ps, rfl, k1⟩ := hl.out
  have hlm := k1.len64
  have HLi := Lib.hid hl
  have HA := Lib.hid k1
  have HB0 : Hid (Below w.heap.size w (w.alloc (.cells #[.int .u8 t.kind, .string t.text, .int .i64 t.num, .int .i64 t.pos, .slice ao t.kids.length c] 25))) := below_own _
  have KB := Lib.hid (refBinds_any t ao c (w.alloc (.cells #[.int .u8 t.kind, .string t.text, .int .i64 t.num, .int .i64 t.pos, .slice ao t.kids.length c] 25)) hlm)
  clear hl k1
  have hx := t.expr_eq
  have hts := tx_size t.text
  unfold T.tx at hx
  clear KB HLi HA
  unfold agg Sd at *
  generalize t.expr = x at hx hlen ⊢
  generalize t.kind = k at *
  generalize t.text = s at *
  rcases hk with rfl | rfl | rfl | rfl
  · have HX : Hid (x = [95]) := by
      unfold Hid
      rw [hx]
      simp
    clear hx hlen hts
    go_enter Tryz.func105, Tryz.ntmps105
    go_wp2_with fail
    go_ret
    refine ⟨ret_str ?_, HB0.out⟩
    rw [HX.out]
  · have HX : Hid (x = [63] ++ s.data.toList) := by
      unfold Hid
      rw [hx]
      simp
    have l1 : ¬ 9223372036854775807 < 1 + s.size := by
      have := HX.out
      rw [this] at hlen
      simp only [List.length_append, List.length_cons, List.length_nil] at hlen
      omega
    clear hx hlen hts
    go_enter Tryz.func105, Tryz.ntmps105
    go_wp2_with fail
    go_ret
    refine ⟨ret_str ?_, HB0.out⟩
    rw [HX.out]
    first | rfl | (apply ByteArray.ext; apply Array.ext'; simp [ByteArray.data_append])
  · have HX : Hid (x = s.data.toList) := by
      unfold Hid
      rw [hx]
      simp
    clear hx hlen hts
    go_enter Tryz.func105, Tryz.ntmps105
    go_wp2_with fail
    go_ret
    refine ⟨ret_str ?_, HB0.out⟩
    rw [HX.out]
  · have HX : Hid (x = [39] ++ s.data.toList) := by
      unfold Hid
      rw [hx]
      simp
    have l1 : ¬ 9223372036854775807 < 1 + s.size := by
      have := HX.out
      rw [this] at hlen
      simp only [List.length_append, List.length_cons, List.length_nil] at hlen
      omega
    clear hx hlen hts
    go_enter Tryz.func105, Tryz.ntmps105
    go_wp2_with fail
    go_ret
    refine ⟨ret_str ?_, HB0.out⟩
    rw [HX.out]
    first | rfl | (apply ByteArray.ext; apply Array.ext'; simp [ByteArray.data_append])

set_option maxRecDepth 100000 in
set_option maxHeartbeats 1000000 in
theorem rx_one (t x : T) (h16 : t.kind = 16) (hk : t.kids = [x]) (hX : RofOK x) : RxOK t := by
  intro w v hl hlen
  rw [expr_one h16 hk] at hlen ⊢
  obtain ⟨ao, c, ps, rfl, k1⟩ := hl.out
  have hlm := k1.len64
  have HLi := Lib.hid hl
  have HA := Lib.hid k1
  have HB0 : Hid (Below w.heap.size w (w.alloc (.cells #[.int .u8 t.kind, .string t.text, .int .i64 t.num, .int .i64 t.pos, .slice ao t.kids.length c] 25))) := below_own _
  have KB := Lib.hid (refBinds_any t ao c (w.alloc (.cells #[.int .u8 t.kind, .string t.text, .int .i64 t.num, .int .i64 t.pos, .slice ao t.kids.length c] 25)) hlm)
  clear hl k1
  have hbt : bindsT t = 6 := by
    unfold bindsT
    rw [if_pos h16, hk]
    rfl
  rw [hbt] at KB
  obtain ⟨sb, off, rfl, hsb, hc⟩ := HA.out.kid (by simp [hk])
  obtain ⟨u0, kc0, kl0⟩ := hc 0 x (by rw [hk]; rfl)
  simp only [Nat.zero_mul, Nat.add_zero] at kc0
  have HC := Lib.hid kc0
  have HI := Lib.hid kl0
  have KX : Hid ((inB (bindsT x) 6 x.expr).length ≤ 140737488355328 → ∀ W, Below w.heap.size w W → Calls Tryz.prog 135 #[agg x u0, .int .i64 6] W (Sd (inB (bindsT x) 6 x.expr) W)) := fun hlen W hb => hX 6 W _ (HI.out.up hb hb.size) hlen
  have hkl : t.kids.length = 1 := by rw [hk]; rfl
  have HT : Hid (t.text.toList = t.text.data.toList) := bt_toList _
  generalize inB (bindsT x) 6 x.expr = y at *
  clear HLi HA
  generalize t.kids.length = n at *
  subst hkl
  clear hc kc0 kl0 hX hk hbt
  unfold agg Sd at *
  obtain ⟨z, hz⟩ : ∃ z, z = BA y := ⟨_, rfl⟩
  have hzs : z.size = y.length := by rw [hz, ba_size]
  have HZ := Lib.hid hz
  rw [← hz] at KX
  generalize t.kind = k at *
  subst h16
  by_cases hn : t.tx = [110, 111, 116]
  · rw [if_pos hn] at hlen ⊢
    simp only [List.length_append, List.length_cons, List.length_nil] at hlen
    have l1 : ¬ 9223372036854775807 < 4 + z.size := by omega
    have KX2 := Lib.hid (KX.out (by omega))
    have hnb : (t.text.toList == [110, 111, 116]) = true := by
      rw [HT.out]
      rw [show t.text.data.toList = [110, 111, 116] from hn]; rfl
    clear hn hlen hz hzs KX
    go_enter Tryz.func105, Tryz.ntmps105
    go_wp2_with (go_at_call 134; go_must (refine (KB.out).mono ?_; rintro e w1 ⟨rfl, hg⟩; have c1 := one_bel hg.below; have HB1 : Hid (Below w.heap.size w w1) := HB0.out.trans (hg.below.mono HB0.out.size); have HD1 : Hid (Below (w.alloc (.cells #[.int .u8 16, .string t.text, .int .i64 t.num, .int .i64 t.pos, .slice (some ⟨sb, off, none⟩) 1 c] 25)).heap.size (w.alloc (.cells #[.int .u8 16, .string t.text, .int .i64 t.num, .int .i64 t.pos, .slice (some ⟨sb, off, none⟩) 1 c] 25)) w1) := hg.below; clear hg; obtain ⟨q0, q1, q2, q3, q4⟩ := HC.out.below hsb HB1.out; refine Hid.out ?_))
    refine Lib.hid ?_
    go_wp2_with (go_at_call 135; go_must (refine (KX2.out _ HB1.out).mono ?_; rintro e w2 ⟨rfl, hb⟩; have HB2 : Hid (Below w.heap.size w w2) := HB1.out.trans (hb.mono HB1.out.size); clear hb))
    go_ret
    refine ⟨ret_str ?_, HB2.out⟩
    rw [HZ.out]
    apply ByteArray.ext
    apply Array.ext'
    simp [ByteArray.data_append]
  · rw [if_neg hn] at hlen ⊢
    simp only [List.length_append, List.length_cons, List.length_nil] at hlen
    have l1 : ¬ 9223372036854775807 < 1 + z.size := by omega
    have KX2 := Lib.hid (KX.out (by omega))
    have hnb : (t.text.toList == [110, 111, 116]) = false := by
      rw [HT.out]
      simpa using hn
    clear hn hlen hz hzs KX
    go_enter Tryz.func105, Tryz.ntmps105
    go_wp2_with (go_at_call 134; go_must (refine (KB.out).mono ?_; rintro e w1 ⟨rfl, hg⟩; have c1 := one_bel hg.below; have HB1 : Hid (Below w.heap.size w w1) := HB0.out.trans (hg.below.mono HB0.out.size); have HD1 : Hid (Below (w.alloc (.cells #[.int .u8 16, .string t.text, .int .i64 t.num, .int .i64 t.pos, .slice (some ⟨sb, off, none⟩) 1 c] 25)).heap.size (w.alloc (.cells #[.int .u8 16, .string t.text, .int .i64 t.num, .int .i64 t.pos, .slice (some ⟨sb, off, none⟩) 1 c] 25)) w1) := hg.below; clear hg; obtain ⟨q0, q1, q2, q3, q4⟩ := HC.out.below hsb HB1.out; refine Hid.out ?_))
    refine Lib.hid ?_
    go_wp2_with (go_at_call 135; go_must (refine (KX2.out _ HB1.out).mono ?_; rintro e w2 ⟨rfl, hb⟩; have HB2 : Hid (Below w.heap.size w w2) := HB1.out.trans (hb.mono HB1.out.size); clear hb))
    go_ret
    refine ⟨ret_str ?_, HB2.out⟩
    rw [HZ.out]
    apply ByteArray.ext
    apply Array.ext'
    simp [ByteArray.data_append]

set_option maxRecDepth 100000 in
set_option maxHeartbeats 2000000 in
theorem rx_two (t x y : T) (h16 : t.kind = 16) (hk : t.kids = [x, y]) (hX : RofOK x) (hY : RofOK y) : RxOK t := by
  intro w v hl hlen
  rw [expr_two h16 hk] at hlen ⊢
  obtain ⟨ao, c, ps, rfl, k1⟩ := hl.out
  have hlm := k1.len64
  have HLi := Lib.hid hl
  have HA := Lib.hid k1
  have HB0 : Hid (Below w.heap.size w (w.alloc (.cells #[.int .u8 t.kind, .string t.text, .int .i64 t.num, .int .i64 t.pos, .slice ao t.kids.length c] 25))) := below_own _
  have KB := Lib.hid (refBinds_any t ao c (w.alloc (.cells #[.int .u8 t.kind, .string t.text, .int .i64 t.num, .int .i64 t.pos, .slice ao t.kids.length c] 25)) hlm)
  clear hl k1
  have hbt : bindsT t = opB t.text := by
    unfold bindsT
    rw [if_pos h16, hk]
    rfl
  rw [hbt] at KB
  obtain ⟨sb, off, rfl, hsb, hc⟩ := HA.out.kid (by simp [hk])
  obtain ⟨u0, kc0, kl0⟩ := hc 0 x (by rw [hk]; rfl)
  obtain ⟨u1, kc1, kl1⟩ := hc 1 y (by rw [hk]; rfl)
  simp only [Nat.zero_mul, Nat.add_zero] at kc0
  simp only [Nat.one_mul] at kc1
  have HC0 := Lib.hid kc0
  have HC1 := Lib.hid kc1
  have HI0 := Lib.hid kl0
  have HI1 := Lib.hid kl1
  have hor := opB_range t.text
  have hts := tx_size t.text
  have KX : Hid ((inB (bindsT x) (leftB (opB t.text)) x.expr).length ≤ 140737488355328 → ∀ W, Below w.heap.size w W → Calls Tryz.prog 135 #[agg x u0, .int .i64 (leftB (opB t.text))] W (Sd (inB (bindsT x) (leftB (opB t.text)) x.expr) W)) := fun hlen W hb => hX _ W _ (HI0.out.up hb hb.size) hlen
  have KY : Hid ((inB (bindsT y) (opB t.text + 1) y.expr).length ≤ 140737488355328 → ∀ W, Below w.heap.size w W → Calls Tryz.prog 135 #[agg y u1, .int .i64 ((opB t.text : Nat) + 1)] W (Sd (inB (bindsT y) (opB t.text + 1) y.expr) W)) := fun hlen W hb => hY (opB t.text + 1) W _ (HI1.out.up hb hb.size) hlen
  have hkl : t.kids.length = 2 := by rw [hk]; rfl
  clear HLi HA hc kc0 kc1 kl0 kl1 hX hY hk hbt
  have E4 : Hid (leftB (opB t.text) = if opB t.text = 3 then 4 else opB t.text) := Lib.hid rfl
  obtain ⟨zl, hzl⟩ : ∃ zl : Int, zl = (leftB (opB t.text) : Nat) := ⟨_, rfl⟩
  rw [← hzl] at KX
  have HZL := Lib.hid hzl
  clear hzl
  generalize opB t.text = r at *
  generalize leftB r = lf at *
  generalize inB (bindsT x) lf x.expr = ex at *
  generalize inB (bindsT y) (r + 1) y.expr = ey at *
  generalize t.kids.length = n at *
  subst hkl
  unfold agg Sd at *
  unfold T.tx at *
  generalize t.kind = k at *
  subst h16
  generalize t.text = s at *
  simp only [List.length_append, List.length_cons, List.length_nil] at hlen
  obtain ⟨zx, hzx⟩ : ∃ z, z = BA ex := ⟨_, rfl⟩
  obtain ⟨zy, hzy⟩ : ∃ z, z = BA ey := ⟨_, rfl⟩
  have hzs : zx.size = ex.length := by rw [hzx, ba_size]
  have hys : zy.size = ey.length := by rw [hzy, ba_size]
  have HZx := Lib.hid hzx
  have HZy := Lib.hid hzy
  have KX2 := Lib.hid (KX.out (by omega))
  have KY2 := Lib.hid (KY.out (by omega))
  rw [← hzx] at KX2
  rw [← hzy] at KY2
  have l1 : ¬ 9223372036854775807 < zx.size + 1 := by omega
  have l2 : ¬ 9223372036854775807 < zx.size + 1 + s.size := by omega
  have l3 : ¬ 9223372036854775807 < zx.size + 1 + s.size + 1 := by omega
  have l4 : ¬ 9223372036854775807 < zx.size + 1 + s.size + 1 + zy.size := by omega
  have n6 : ¬ (r : Int) = 6 := by omega
  have hr1 : wrap64 ((r : Int) + 1) = (r : Int) + 1 := by unfold wrap64; omega
  have HWR : Hid (IntKind.i64.wrap ((r : Int) + 1) = (r : Int) + 1) := (IntWalk.i64_left _).trans hr1
  clear hlen hzx hzy hzs hys hts KX KY hr1
  have mixed : Tryz.prog.follows .mixedOrders = true := by kernel_rfl
  by_cases h3 : r = 3
  · obtain rfl : zl = 4 := by rw [HZL.out, E4.out, if_pos h3]; rfl
    subst h3
    clear E4 HZL hor n6
    go_enter Tryz.func105, Tryz.ntmps105
    go_wp2_with (go_at_call 134; go_must (refine (KB.out).mono ?_; rintro e w1 ⟨rfl, hg⟩; have c1 := one_bel hg.below; have HB1 : Hid (Below w.heap.size w w1) := HB0.out.trans (hg.below.mono HB0.out.size); have HD1 : Hid (Below (w.alloc (.cells #[.int .u8 16, .string s, .int .i64 t.num, .int .i64 t.pos, .slice (some ⟨sb, off, none⟩) 2 c] 25)).heap.size (w.alloc (.cells #[.int .u8 16, .string s, .int .i64 t.num, .int .i64 t.pos, .slice (some ⟨sb, off, none⟩) 2 c] 25)) w1) := hg.below; clear hg; refine Hid.out ?_))
    refine Lib.hid ?_
    go_upto_region 18 with fail
    have C1 := Lib.hid c1
    clear c1
    have hgw : w.heap.size < w1.heap.size := by have := HD1.out.size; simp at this; omega
    have n1 : ∀ p : BelW w1, ∀ j, p.w.cell? ⟨w.heap.size, j, none⟩ = (#[.int .u8 16, .string s, .int .i64 t.num, .int .i64 t.pos, .slice (some ⟨sb, off, none⟩) 2 c] : Array Value)[j]? := fun p j => by
      rw [(bone p.h hgw).1 j]
      exact C1.out j
    have HPb : Hid (∀ p : BelW w1, Below w.heap.size w p.w) := fun p => HB1.out.trans (p.h.mono HB1.out.size)
    have HQ0 := Lib.hid (fun p : BelW w1 => HC0.out.below hsb (HPb.out p))
    have HQ1 := Lib.hid (fun p : BelW w1 => HC1.out.below hsb (HPb.out p))
    have a0 := fun p : BelW w1 => (HQ0.out p).c0
    have a1 := fun p : BelW w1 => (HQ0.out p).c1
    have a2 := fun p : BelW w1 => (HQ0.out p).c2
    have a3 := fun p : BelW w1 => (HQ0.out p).c3
    have a4 := fun p : BelW w1 => (HQ0.out p).c4
    have b0 := fun p : BelW w1 => (HQ1.out p).c0
    have b1 := fun p : BelW w1 => (HQ1.out p).c1
    have b2 := fun p : BelW w1 => (HQ1.out p).c2
    have b3 := fun p : BelW w1 => (HQ1.out p).c3
    have b4 := fun p : BelW w1 => (HQ1.out p).c4
    have hwr := HWR.out
    refine wp_region_quiet_bel (by assumption) (by kernel_rfl) ?_
    repeat (go_big_quiet_step (fail))
    go_big_quiet_step ((go_at_call 135; go_must (exact (KX2.out _ (HPb.out _)).mono fun _ w' h => ⟨h.1, ⟨w', (BelW.h _).trans (h.2.mono (BelW.h _).size)⟩, rfl⟩)))
    repeat (go_big_quiet_step (fail))
    go_big_quiet_step ((go_at_call 135; go_must (exact (KY2.out _ (HPb.out _)).mono fun _ w' h => ⟨h.1, ⟨w', (BelW.h _).trans (h.2.mono (BelW.h _).size)⟩, rfl⟩)))
    repeat (go_big_quiet_step (fail))
    refine wpQuiet_nil ?_
    rintro _ ⟨p, rfl⟩
    go_wp2_with fail
    go_ret
    refine ⟨ret_str ?_, HPb.out p⟩
    rw [HZx.out, HZy.out]
    apply ByteArray.ext
    apply Array.ext'
    simp [ByteArray.data_append]
  · obtain rfl : zl = (r : Int) := by rw [HZL.out, E4.out, if_neg h3]
    have n3 : ¬ (r : Int) = 3 := by omega
    clear E4 HZL hor h3
    go_enter Tryz.func105, Tryz.ntmps105
    go_wp2_with (go_at_call 134; go_must (refine (KB.out).mono ?_; rintro e w1 ⟨rfl, hg⟩; have c1 := one_bel hg.below; have HB1 : Hid (Below w.heap.size w w1) := HB0.out.trans (hg.below.mono HB0.out.size); have HD1 : Hid (Below (w.alloc (.cells #[.int .u8 16, .string s, .int .i64 t.num, .int .i64 t.pos, .slice (some ⟨sb, off, none⟩) 2 c] 25)).heap.size (w.alloc (.cells #[.int .u8 16, .string s, .int .i64 t.num, .int .i64 t.pos, .slice (some ⟨sb, off, none⟩) 2 c] 25)) w1) := hg.below; clear hg; refine Hid.out ?_))
    refine Lib.hid ?_
    go_upto_region 18 with fail
    have C1 := Lib.hid c1
    clear c1
    have hgw : w.heap.size < w1.heap.size := by have := HD1.out.size; simp at this; omega
    have n1 : ∀ p : BelW w1, ∀ j, p.w.cell? ⟨w.heap.size, j, none⟩ = (#[.int .u8 16, .string s, .int .i64 t.num, .int .i64 t.pos, .slice (some ⟨sb, off, none⟩) 2 c] : Array Value)[j]? := fun p j => by
      rw [(bone p.h hgw).1 j]
      exact C1.out j
    have HPb : Hid (∀ p : BelW w1, Below w.heap.size w p.w) := fun p => HB1.out.trans (p.h.mono HB1.out.size)
    have HQ0 := Lib.hid (fun p : BelW w1 => HC0.out.below hsb (HPb.out p))
    have HQ1 := Lib.hid (fun p : BelW w1 => HC1.out.below hsb (HPb.out p))
    have a0 := fun p : BelW w1 => (HQ0.out p).c0
    have a1 := fun p : BelW w1 => (HQ0.out p).c1
    have a2 := fun p : BelW w1 => (HQ0.out p).c2
    have a3 := fun p : BelW w1 => (HQ0.out p).c3
    have a4 := fun p : BelW w1 => (HQ0.out p).c4
    have b0 := fun p : BelW w1 => (HQ1.out p).c0
    have b1 := fun p : BelW w1 => (HQ1.out p).c1
    have b2 := fun p : BelW w1 => (HQ1.out p).c2
    have b3 := fun p : BelW w1 => (HQ1.out p).c3
    have b4 := fun p : BelW w1 => (HQ1.out p).c4
    have hwr := HWR.out
    refine wp_region_quiet_bel (by assumption) (by kernel_rfl) ?_
    repeat (go_big_quiet_step (fail))
    go_big_quiet_step ((go_at_call 135; go_must (exact (KX2.out _ (HPb.out _)).mono fun _ w' h => ⟨h.1, ⟨w', (BelW.h _).trans (h.2.mono (BelW.h _).size)⟩, rfl⟩)))
    repeat (go_big_quiet_step (fail))
    go_big_quiet_step ((go_at_call 135; go_must (exact (KY2.out _ (HPb.out _)).mono fun _ w' h => ⟨h.1, ⟨w', (BelW.h _).trans (h.2.mono (BelW.h _).size)⟩, rfl⟩)))
    repeat (go_big_quiet_step (fail))
    refine wpQuiet_nil ?_
    rintro _ ⟨p, rfl⟩
    go_wp2_with fail
    go_ret
    refine ⟨ret_str ?_, HPb.out p⟩
    rw [HZx.out, HZy.out]
    apply ByteArray.ext
    apply Array.ext'
    simp [ByteArray.data_append]
theorem rx_any (t : T) (h : IsX t) : RxOK t := by
  induction h with
  | leaf t h => exact rx_leaf t h
  | one t x h hk hs _ ih => exact rx_one t x h hk (rof_of x ih)
  | two t x y h hk _ _ ihx ihy => exact rx_two t x y h hk (rof_of x ihx) (rof_of y ihy)
end Go.Proofs.YtfmjhbaenpbfoaaGreatDoor

namespace Go.Proofs.YtfmjhbaenpbfoaaGreatDoor
open Go.RowKit

theorem lenOf {B : Nat} {w : World} {l : List T} {ao : Option Addr} {c : Nat} (h : Lies B w (.mk 0 ⟨#[]⟩ 0 0 l) (.slice ao l.length c)) : l.length ≤ 9223372036854775807 := by
  obtain ⟨ao', c', ps, he, k⟩ := h.out
  exact k.len64

set_option maxRecDepth 100000 in
set_option maxHeartbeats 1000000 in
theorem each_part (l : List T) (hx : ∀ k, k ∈ l → IsPart k) (B b : Nat) (bs : L8) (w : World) (v : Value) (hl : RowIs B w l v) (hw : Wrt B b bs w) (ht : Tab B w) (hlen : bs.length + (eachT partT [32] l).length ≤ 140737488355328) :
    Calls Tryz.prog 21 #[.pointer (some ⟨b, 0, none⟩), v, .func (.func 70) #[.pointer (some ⟨b, 0, none⟩)] #[], .string ⟨#[32]⟩] w (Wd B b bs (eachT partT [32] l) w) := by
  obtain ⟨ao, c, rfl, hl⟩ := hl
  have hlm := lenOf hl
  have HLi := Lib.hid hl
  have HX := Lib.hid hx
  have HL := Lib.hid hlen
  have HTb := Lib.hid ht
  have H0 : Hid (Wrt B b (bs ++ eachT partT [32] (l.take 0)) w) := by
    unfold Hid
    rw [List.take_zero, show eachT partT [32] [] = [] from rfl, List.append_nil]
    exact hw
  clear hl hx hlen hw ht
  obtain ⟨n, hn⟩ : ∃ n, n = l.length := ⟨_, rfl⟩
  have HN := Lib.hid hn
  rw [← hn] at hlm HLi ⊢
  clear hn
  go_enter Tryz.func21, Tryz.ntmps21
  go_wp2_with fail
  go_loopw [12] (fun i wr => ∃ j : Nat, j ≤ n ∧ i = .int .i64 j ∧ Hid (Wrt B b (bs ++ eachT partT [32] (l.take j)) wr) ∧ Hid (Kp B b w wr)) (fun i _ => n - (intOf i).toNat)
  case atStart => exact ⟨0, by omega, rfl, H0, Kp.refl _ _ _⟩
  case round =>
    clear H0
    obtain ⟨j, hj, rfl, HW, HK⟩ := hrel
    by_cases hlt : j < n
    · have hjn : (j : Int) < (n : Int) := by omega
      have hjl : j < l.length := by rw [← HN.out]; exact hlt
      obtain ⟨ao', c', ps, he, k1⟩ := (HLi.out.keep HK.out.bel).out
      obtain ⟨sb, off, e1, hsb, hc⟩ := k1.kid (show 0 < l.length by omega)
      obtain ⟨u, hkc, hkl⟩ := hc j l[j] (List.getElem?_eq_getElem hjl)
      injection he with he1 he2 he3
      subst he1 e1 he3
      obtain ⟨ka, kc, kps, rfl, kk⟩ := hkl.out
      have HXq := Lib.hid (HX.out _ (List.getElem_mem hjl))
      have HT : Hid (eachT partT [32] (l.take (j + 1)) = eachT partT [32] (l.take j) ++ (partT l[j] ++ [32])) := eachT_take _ _ _ _ hjl
      have hle := eachT_take_le partT [32] l (j + 1)
      have hb := HL.out
      rw [HT.out] at hle
      simp only [List.length_append, List.length_cons, List.length_nil] at hle
      have HKL := Lib.hid hkl
      obtain ⟨d0, d1, d2, d3, d4⟩ := hkc
      clear hc he2 k1 kk hkl kps ps
      generalize l[j] = q at *
      have KF : Hid (∀ W bs', Below B wr W → Wrt B b bs' W → bs'.length + (partT q).length ≤ 140737488355328 → Calls Tryz.prog 70 #[.pointer (some ⟨b, 0, none⟩), agg q (.slice ka q.kids.length kc)] W (Wd B b bs' (partT q) W)) := fun W bs' hbb hw hlen => part_any q HXq.out B b bs' W _ (HKL.out.keep hbb) hw (HTb.out.on (HK.out.bel.trans hbb)) hlen
      clear HXq HKL
      generalize q.kids.length = m at *
      have hv1 : (wr.alloc (.cells #[.int .u8 q.kind, .string q.text, .int .i64 q.num, .int .i64 q.pos, .slice ka m kc] 25)).heap[wr.heap.size]? = some (.cells #[.int .u8 q.kind, .string q.text, .int .i64 q.num, .int .i64 q.pos, .slice ka m kc] 25 (0, 0)) := heap_alloc_new wr _
      have hv2 : Below wr.heap.size wr (wr.alloc (.cells #[.int .u8 q.kind, .string q.text, .int .i64 q.num, .int .i64 q.pos, .slice ka m kc] 25)) := below_own _
      have hgb : wr.heap.size ≠ b := by have := HW.out.lt; omega
      have HG5 := Lib.hid hv1
      have HK5 : Hid (Kp B b w (wr.alloc (.cells #[.int .u8 q.kind, .string q.text, .int .i64 q.num, .int .i64 q.pos, .slice ka m kc] 25))) := HK.out.below HW.out.base hv2
      have HB5 : Hid (Below B wr (wr.alloc (.cells #[.int .u8 q.kind, .string q.text, .int .i64 q.num, .int .i64 q.pos, .slice ka m kc] 25))) := hv2.mono HW.out.base
      have HW0 : Hid (Wrt B b (bs ++ eachT partT [32] (l.take j)) (wr.alloc (.cells #[.int .u8 q.kind, .string q.text, .int .i64 q.num, .int .i64 q.pos, .slice ka m kc] 25))) := HW.out.below hv2
      have HR0 : Hid (Kp B b (wr.alloc (.cells #[.int .u8 q.kind, .string q.text, .int .i64 q.num, .int .i64 q.pos, .slice ka m kc] 25)) (wr.alloc (.cells #[.int .u8 q.kind, .string q.text, .int .i64 q.num, .int .i64 q.pos, .slice ka m kc] 25))) := Kp.refl _ _ _
      have hs1 : sb < wr.heap.size := by have := HW.out.base; omega
      have hs2 : sb ≠ wr.heap.size := by omega
      generalize eachT partT [32] (l.take j) = y at *
      generalize partT q = x at *
      clear hv1 hv2 HW HK
      unfold agg at *
      have HL1 : Hid ((bs ++ y).length + x.length ≤ 140737488355328) := by unfold Hid; simp only [List.length_append] at hle ⊢; omega
      have HL2 : Hid (((bs ++ y) ++ x).length + 1 ≤ 140737488355328) := by unfold Hid; simp only [List.length_append] at hle ⊢; omega
      clear hle hb
      go_wp2_with (go_at_call 70; go_must (refine (KF.out _ _ (HB5.out.trans HR0.out.bel) HW0.out HL1.out).mono ?_; rintro e w1 ⟨rfl, hw, hk⟩; have HW1 : Hid (Wrt B b ((bs ++ y) ++ x) w1) := hw; have HR1 : Hid (Kp B b (wr.alloc (.cells #[.int .u8 q.kind, .string q.text, .int .i64 q.num, .int .i64 q.pos, .slice ka m kc] 25)) w1) := HR0.out.trans hk; have c1 := box_at HG5.out HR1.out hgb; clear hw hk; refine Hid.out ?_))
      refine Lib.hid ?_
      go_wp2_with (go_at_call 36; go_must (refine (lit1 B b _ (⟨#[32]⟩) _ HW1.out (HL2.out) _ (by first | rfl | simp)).mono ?_; rintro e w2 ⟨rfl, hw, hk⟩; have HW2 : Hid (Wrt B b (((bs ++ y) ++ x) ++ [32]) w2) := hw; have HR2 : Hid (Kp B b (wr.alloc (.cells #[.int .u8 q.kind, .string q.text, .int .i64 q.num, .int .i64 q.pos, .slice ka m kc] 25)) w2) := HR1.out.trans hk; have c2 := box_at HG5.out HR2.out hgb; clear hw hk; refine Hid.out ?_))
      refine Lib.hid ?_
      have HWn : Hid (Wrt B b (bs ++ eachT partT [32] (l.take (j + 1))) w2) := by
        unfold Hid
        rw [HT.out, ← List.append_assoc, ← List.append_assoc]
        exact HW2.out
      have HKn : Hid (Kp B b w w2) := HK5.out.trans HR2.out
      clear d0 d1 d2 d3 d4 KF HW1 HW2 HW0 HL1 HL2 HG5 HR1 HR2 HR0 c1 c2 HB5 HK5
      go_wp2_with fail
      go_roundw
      case rel => exact ⟨j + 1, by omega, by go_num, HWn, HKn⟩
      case measure => simp [intOf]; omega
    · obtain rfl : j = n := by omega
      have HR : Hid (Wrt B b (bs ++ eachT partT [32] l) wr) := by
        have := HW.out
        rw [HN.out, List.take_length] at this
        exact this
      clear HW
      go_wp2_with fail
      go_end0
      exact ⟨rfl, HR.out, HK.out⟩

theorem halvesAt_of (t : T) (h4 : t.kind = 4) (hd : IsDecl t) : HalvesAt t.kids (condsN t.kids) := by
  refine ⟨condsN_le _, fun j k hj hjm => ?_, fun k hk => ?_⟩
  · have hm : k ∈ t.kids.take (condsN t.kids) := by
      refine List.mem_of_getElem? (i := j) ?_
      rw [List.getElem?_take, if_pos hjm]
      exact hj
    obtain ⟨-, h2⟩ := hd.conds h4 k hm
    unfold condK at h2
    simp at h2
    omega
  · have hm : k ∈ t.kids.drop (condsN t.kids) := by
      refine List.mem_of_getElem? (i := 0) ?_
      rw [List.getElem?_drop, Nat.add_zero]
      exact hk
    obtain ⟨h1, h2⟩ := hd.acts h4 k hm
    unfold condK at h2
    simp at h2
    have := h1.kind
    omega

set_option maxRecDepth 100000 in
set_option maxHeartbeats 1000000 in
theorem rule_zero (t : T) (h4 : t.kind = 4) (hz : t.num = 0) (hd : IsDecl t) (B b : Nat) (bs : L8) (w : World) (v : Value) (hl : Lies B w t v) (hw : Wrt B b bs w) (ht : Tab B w) (hlen : bs.length + (declT t).length ≤ 140737488355328) :
    Calls Tryz.prog 39 #[.pointer (some ⟨b, 0, none⟩), agg t v] w (Wd B b bs (declT t) w) := by
  have hpt : declT t = [114, 117, 108, 101, 32] ++ t.tx ++ [32, 123, 32] ++ eachT partT [32] (t.kids.take (condsN t.kids)) ++ [61, 62, 32] ++ eachT partT [32] (t.kids.drop (condsN t.kids)) ++ [125] := by
    unfold declT
    rw [if_neg (by omega), if_pos hz]
    simp
  rw [hpt] at hlen ⊢
  have HX1 := Lib.hid (fun k hk => (hd.conds h4 k hk).1)
  have HX2 := Lib.hid (fun k hk => (hd.acts h4 k hk).1)
  have hha := halvesAt_of t h4 hd
  have hnum := hd.num h4
  have HTb := Lib.hid ht
  obtain ⟨ao, c, ps, rfl, k1⟩ := hl.out
  have hlm := k1.len64
  have HLi := Lib.hid hl
  have HA := Lib.hid k1
  have hb0 := below_own (w := w) (.cells #[.int .u8 t.kind, .string t.text, .int .i64 t.num, .int .i64 t.pos, .slice ao t.kids.length c] 25)
  have HW0 : Hid (Wrt B b bs (w.alloc (.cells #[.int .u8 t.kind, .string t.text, .int .i64 t.num, .int .i64 t.pos, .slice ao t.kids.length c] 25))) := hw.below hb0
  have HK0 : Hid (Kp B b w (w.alloc (.cells #[.int .u8 t.kind, .string t.text, .int .i64 t.num, .int .i64 t.pos, .slice ao t.kids.length c] 25))) := (Kp.refl B b w).below hw.base hb0
  have HG0 : Hid ((w.alloc (.cells #[.int .u8 t.kind, .string t.text, .int .i64 t.num, .int .i64 t.pos, .slice ao t.kids.length c] 25)).heap[w.heap.size]? = some (.cells #[.int .u8 t.kind, .string t.text, .int .i64 t.num, .int .i64 t.pos, .slice ao t.kids.length c] 25 (0, 0))) := heap_alloc_new w _
  have hgb : w.heap.size ≠ b := by have := hw.lt; omega
  have HR0 : Hid (Kp B b (w.alloc (.cells #[.int .u8 t.kind, .string t.text, .int .i64 t.num, .int .i64 t.pos, .slice ao t.kids.length c] 25)) (w.alloc (.cells #[.int .u8 t.kind, .string t.text, .int .i64 t.num, .int .i64 t.pos, .slice ao t.kids.length c] 25))) := Kp.refl _ _ _
  have hbw : B ≤ w.heap.size := hw.base
  clear hl hw k1 hb0
  have KH : Hid (∀ W, Kp B b (w.alloc (.cells #[.int .u8 t.kind, .string t.text, .int .i64 t.num, .int .i64 t.pos, .slice ao t.kids.length c] 25)) W → B ≤ W.heap.size → Calls Tryz.prog 69 #[.slice ao t.kids.length c] W (HalvesSay B t.kids (condsN t.kids) W)) := fun W hk hBW => halves_any t _ hha B W ao c (HLi.out.keep (HK0.out.trans hk).bel) hBW
  clear hpt HLi HA hha hd ht h4
  unfold HalvesSay at KH
  generalize hT1 : t.kids.take (condsN t.kids) = l1 at *
  generalize hT2 : t.kids.drop (condsN t.kids) = l2 at *
  have KP1 := Lib.hid (each_part l1 HX1.out B b)
  have KP2 := Lib.hid (each_part l2 HX2.out B b)
  clear hT1 hT2 HX1 HX2
  generalize eachT partT [32] l1 = x1 at *
  generalize eachT partT [32] l2 = x2 at *
  unfold agg at *
  simp only [List.length_append, List.length_cons, List.length_nil] at hlen
  have HL1 : Hid (bs.length + (5 + t.tx.length) ≤ 140737488355328) := by unfold Hid; omega
  have HL3 : Hid ((bs ++ ([114, 117, 108, 101, 32] ++ t.tx)).length + 3 ≤ 140737488355328) := by unfold Hid; simp only [List.length_append, List.length_cons, List.length_nil]; omega
  have HL4 : Hid (((bs ++ ([114, 117, 108, 101, 32] ++ t.tx)) ++ ([32, 123, 32])).length + x1.length ≤ 140737488355328) := by unfold Hid; simp only [List.length_append, List.length_cons, List.length_nil]; omega
  have HL5 : Hid ((((bs ++ ([114, 117, 108, 101, 32] ++ t.tx)) ++ ([32, 123, 32])) ++ (x1)).length + 3 ≤ 140737488355328) := by unfold Hid; simp only [List.length_append, List.length_cons, List.length_nil]; omega
  have HL6 : Hid (((((bs ++ ([114, 117, 108, 101, 32] ++ t.tx)) ++ ([32, 123, 32])) ++ (x1)) ++ ([61, 62, 32])).length + x2.length ≤ 140737488355328) := by unfold Hid; simp only [List.length_append, List.length_cons, List.length_nil]; omega
  have HL7 : Hid ((((((bs ++ ([114, 117, 108, 101, 32] ++ t.tx)) ++ ([32, 123, 32])) ++ (x1)) ++ ([61, 62, 32])) ++ (x2)).length + 1 ≤ 140737488355328) := by unfold Hid; simp only [List.length_append, List.length_cons, List.length_nil]; omega
  clear hlen
  have hzi : (t.num == 0) = true := by simp [hz]
  have hzn : (t.num != 0) = false := by simp [hz]
  clear hz
  go_enter Tryz.func39, Tryz.ntmps39
  go_wp2_with (go_at_call 36; go_must (refine (lit2 B b _ (⟨#[114, 117, 108, 101, 32]⟩) (t.text) _ HW0.out (HL1.out) _ (by first | rfl | simp)).mono ?_; rintro e w1 ⟨rfl, hw, hk⟩; have HW1 : Hid (Wrt B b (bs ++ ([114, 117, 108, 101, 32] ++ t.tx)) w1) := hw; have HR1 : Hid (Kp B b (w.alloc (.cells #[.int .u8 t.kind, .string t.text, .int .i64 t.num, .int .i64 t.pos, .slice ao t.kids.length c] 25)) w1) := HR0.out.trans hk; have c1 := box_at HG0.out HR1.out hgb; clear hw hk; refine Hid.out ?_))
  refine Lib.hid ?_
  go_wp2_with (go_at_call 69; go_must (refine (KH.out _ HR1.out HW1.out.base).mono ?_; rintro e w2 ⟨v1, v2, rfl, r1, r2, hg⟩; have HW2 : Hid (Wrt B b (bs ++ ([114, 117, 108, 101, 32] ++ t.tx)) w2) := HW1.out.below hg.below; have HR2 : Hid (Kp B b (w.alloc (.cells #[.int .u8 t.kind, .string t.text, .int .i64 t.num, .int .i64 t.pos, .slice ao t.kids.length c] 25)) w2) := HR1.out.below HW1.out.base hg.below; have HV1 := Lib.hid r1; have HV2 := Lib.hid r2; have HS2 : Hid (Kp B b w2 w2) := Kp.refl _ _ _; clear hg r1 r2 c1; refine Hid.out ?_))
  refine Lib.hid ?_
  go_wp2_with (go_at_call 36; go_must (refine (lit1 B b _ (⟨#[32, 123, 32]⟩) _ HW2.out (HL3.out) _ (by first | rfl | simp)).mono ?_; rintro e w3 ⟨rfl, hw, hk⟩; have HW3 : Hid (Wrt B b ((bs ++ ([114, 117, 108, 101, 32] ++ t.tx)) ++ ([32, 123, 32])) w3) := hw; have HR3 : Hid (Kp B b (w.alloc (.cells #[.int .u8 t.kind, .string t.text, .int .i64 t.num, .int .i64 t.pos, .slice ao t.kids.length c] 25)) w3) := HR2.out.trans hk; have HS3 : Hid (Kp B b w2 w3) := HS2.out.trans hk; clear hw hk; refine Hid.out ?_))
  refine Lib.hid ?_
  go_wp2_with (go_at_call 21; go_must (refine (KP1.out _ _ _ (HV1.out.keep HS3.out.bel) HW3.out (HTb.out.on (HK0.out.trans HR3.out).bel) HL4.out).mono ?_; rintro e w4 ⟨rfl, hw, hk⟩; have HW4 : Hid (Wrt B b (((bs ++ ([114, 117, 108, 101, 32] ++ t.tx)) ++ ([32, 123, 32])) ++ (x1)) w4) := hw; have HR4 : Hid (Kp B b (w.alloc (.cells #[.int .u8 t.kind, .string t.text, .int .i64 t.num, .int .i64 t.pos, .slice ao t.kids.length c] 25)) w4) := HR3.out.trans hk; have HS4 : Hid (Kp B b w2 w4) := HS3.out.trans hk; clear hw hk; refine Hid.out ?_))
  refine Lib.hid ?_
  go_wp2_with (go_at_call 36; go_must (refine (lit1 B b _ (⟨#[61, 62, 32]⟩) _ HW4.out (HL5.out) _ (by first | rfl | simp)).mono ?_; rintro e w5 ⟨rfl, hw, hk⟩; have HW5 : Hid (Wrt B b ((((bs ++ ([114, 117, 108, 101, 32] ++ t.tx)) ++ ([32, 123, 32])) ++ (x1)) ++ ([61, 62, 32])) w5) := hw; have HR5 : Hid (Kp B b (w.alloc (.cells #[.int .u8 t.kind, .string t.text, .int .i64 t.num, .int .i64 t.pos, .slice ao t.kids.length c] 25)) w5) := HR4.out.trans hk; have HS5 : Hid (Kp B b w2 w5) := HS4.out.trans hk; clear hw hk; refine Hid.out ?_))
  refine Lib.hid ?_
  go_wp2_with (go_at_call 21; go_must (refine (KP2.out _ _ _ (HV2.out.keep HS5.out.bel) HW5.out (HTb.out.on (HK0.out.trans HR5.out).bel) HL6.out).mono ?_; rintro e w6 ⟨rfl, hw, hk⟩; have HW6 : Hid (Wrt B b (((((bs ++ ([114, 117, 108, 101, 32] ++ t.tx)) ++ ([32, 123, 32])) ++ (x1)) ++ ([61, 62, 32])) ++ (x2)) w6) := hw; have HR6 : Hid (Kp B b (w.alloc (.cells #[.int .u8 t.kind, .string t.text, .int .i64 t.num, .int .i64 t.pos, .slice ao t.kids.length c] 25)) w6) := HR5.out.trans hk; have HS6 : Hid (Kp B b w2 w6) := HS5.out.trans hk; clear hw hk; refine Hid.out ?_))
  refine Lib.hid ?_
  go_wp2_with (go_at_call 36; go_must (refine (lit1 B b _ (⟨#[125]⟩) _ HW6.out (HL7.out) _ (by first | rfl | simp)).mono ?_; rintro e w7 ⟨rfl, hw, hk⟩; have HW7 : Hid (Wrt B b ((((((bs ++ ([114, 117, 108, 101, 32] ++ t.tx)) ++ ([32, 123, 32])) ++ (x1)) ++ ([61, 62, 32])) ++ (x2)) ++ ([125])) w7) := hw; have HR7 : Hid (Kp B b (w.alloc (.cells #[.int .u8 t.kind, .string t.text, .int .i64 t.num, .int .i64 t.pos, .slice ao t.kids.length c] 25)) w7) := HR6.out.trans hk; have HS7 : Hid (Kp B b w2 w7) := HS6.out.trans hk; clear hw hk; refine Hid.out ?_))
  refine Lib.hid ?_
  go_wp2_with fail
  go_end0
  refine ⟨rfl, ?_, HK0.out.trans HR7.out⟩
  have hfin := HW7.out
  simpa [List.append_assoc] using hfin

set_option maxRecDepth 100000 in
set_option maxHeartbeats 1000000 in
theorem rule_num (t : T) (h4 : t.kind = 4) (hz : ¬ t.num = 0) (hd : IsDecl t) (B b : Nat) (bs : L8) (w : World) (v : Value) (hl : Lies B w t v) (hw : Wrt B b bs w) (ht : Tab B w) (hlen : bs.length + (declT t).length ≤ 140737488355328) :
    Calls Tryz.prog 39 #[.pointer (some ⟨b, 0, none⟩), agg t v] w (Wd B b bs (declT t) w) := by
  have hpt : declT t = [114, 117, 108, 101, 32] ++ t.tx ++ ([32, 115, 97, 108, 105, 101, 110, 99, 101, 32] ++ Lib.itoa t.num) ++ [32, 123, 32] ++ eachT partT [32] (t.kids.take (condsN t.kids)) ++ [61, 62, 32] ++ eachT partT [32] (t.kids.drop (condsN t.kids)) ++ [125] := by
    unfold declT
    rw [if_neg (by omega), if_neg hz]

  rw [hpt] at hlen ⊢
  have HX1 := Lib.hid (fun k hk => (hd.conds h4 k hk).1)
  have HX2 := Lib.hid (fun k hk => (hd.acts h4 k hk).1)
  have hha := halvesAt_of t h4 hd
  have hnum := hd.num h4
  have HTb := Lib.hid ht
  obtain ⟨ao, c, ps, rfl, k1⟩ := hl.out
  have hlm := k1.len64
  have HLi := Lib.hid hl
  have HA := Lib.hid k1
  have hb0 := below_own (w := w) (.cells #[.int .u8 t.kind, .string t.text, .int .i64 t.num, .int .i64 t.pos, .slice ao t.kids.length c] 25)
  have HW0 : Hid (Wrt B b bs (w.alloc (.cells #[.int .u8 t.kind, .string t.text, .int .i64 t.num, .int .i64 t.pos, .slice ao t.kids.length c] 25))) := hw.below hb0
  have HK0 : Hid (Kp B b w (w.alloc (.cells #[.int .u8 t.kind, .string t.text, .int .i64 t.num, .int .i64 t.pos, .slice ao t.kids.length c] 25))) := (Kp.refl B b w).below hw.base hb0
  have HG0 : Hid ((w.alloc (.cells #[.int .u8 t.kind, .string t.text, .int .i64 t.num, .int .i64 t.pos, .slice ao t.kids.length c] 25)).heap[w.heap.size]? = some (.cells #[.int .u8 t.kind, .string t.text, .int .i64 t.num, .int .i64 t.pos, .slice ao t.kids.length c] 25 (0, 0))) := heap_alloc_new w _
  have hgb : w.heap.size ≠ b := by have := hw.lt; omega
  have HR0 : Hid (Kp B b (w.alloc (.cells #[.int .u8 t.kind, .string t.text, .int .i64 t.num, .int .i64 t.pos, .slice ao t.kids.length c] 25)) (w.alloc (.cells #[.int .u8 t.kind, .string t.text, .int .i64 t.num, .int .i64 t.pos, .slice ao t.kids.length c] 25))) := Kp.refl _ _ _
  have hbw : B ≤ w.heap.size := hw.base
  clear hl hw k1 hb0
  have KH : Hid (∀ W, Kp B b (w.alloc (.cells #[.int .u8 t.kind, .string t.text, .int .i64 t.num, .int .i64 t.pos, .slice ao t.kids.length c] 25)) W → B ≤ W.heap.size → Calls Tryz.prog 69 #[.slice ao t.kids.length c] W (HalvesSay B t.kids (condsN t.kids) W)) := fun W hk hBW => halves_any t _ hha B W ao c (HLi.out.keep (HK0.out.trans hk).bel) hBW
  have KI : Hid (∀ W, Kp B b (w.alloc (.cells #[.int .u8 t.kind, .string t.text, .int .i64 t.num, .int .i64 t.pos, .slice ao t.kids.length c] 25)) W → Calls Tryz.prog 43 #[.int .i64 t.num] W fun e w' => e = .returned (.string (BA (Lib.itoa t.num))) ∧ Below W.heap.size W w') := fun W hk => itoa_any _ _ (by omega) (by omega) (HTb.out.on (HK0.out.trans hk).bel).here
  clear hpt HLi HA hha hd ht h4
  unfold HalvesSay at KH
  generalize hT1 : t.kids.take (condsN t.kids) = l1 at *
  generalize hT2 : t.kids.drop (condsN t.kids) = l2 at *
  have KP1 := Lib.hid (each_part l1 HX1.out B b)
  have KP2 := Lib.hid (each_part l2 HX2.out B b)
  clear hT1 hT2 HX1 HX2
  generalize eachT partT [32] l1 = x1 at *
  generalize eachT partT [32] l2 = x2 at *
  unfold agg at *
  obtain ⟨z, hzz⟩ : ∃ z, z = BA (Lib.itoa t.num) := ⟨_, rfl⟩
  have hzs : z.data.toList = Lib.itoa t.num := by rw [hzz]
  rw [← hzz] at KI
  rw [← hzs] at hlen ⊢
  clear hzz hzs
  simp only [List.length_append, List.length_cons, List.length_nil] at hlen
  have HL1 : Hid (bs.length + (5 + t.tx.length) ≤ 140737488355328) := by unfold Hid; omega
  have HL2 : Hid ((bs ++ ([114, 117, 108, 101, 32] ++ t.tx)).length + (10 + z.data.toList.length) ≤ 140737488355328) := by unfold Hid; simp only [List.length_append, List.length_cons, List.length_nil]; omega
  have HL3 : Hid (((bs ++ ([114, 117, 108, 101, 32] ++ t.tx)) ++ ([32, 115, 97, 108, 105, 101, 110, 99, 101, 32] ++ z.data.toList)).length + 3 ≤ 140737488355328) := by unfold Hid; simp only [List.length_append, List.length_cons, List.length_nil]; omega
  have HL4 : Hid ((((bs ++ ([114, 117, 108, 101, 32] ++ t.tx)) ++ ([32, 115, 97, 108, 105, 101, 110, 99, 101, 32] ++ z.data.toList)) ++ ([32, 123, 32])).length + x1.length ≤ 140737488355328) := by unfold Hid; simp only [List.length_append, List.length_cons, List.length_nil]; omega
  have HL5 : Hid (((((bs ++ ([114, 117, 108, 101, 32] ++ t.tx)) ++ ([32, 115, 97, 108, 105, 101, 110, 99, 101, 32] ++ z.data.toList)) ++ ([32, 123, 32])) ++ (x1)).length + 3 ≤ 140737488355328) := by unfold Hid; simp only [List.length_append, List.length_cons, List.length_nil]; omega
  have HL6 : Hid ((((((bs ++ ([114, 117, 108, 101, 32] ++ t.tx)) ++ ([32, 115, 97, 108, 105, 101, 110, 99, 101, 32] ++ z.data.toList)) ++ ([32, 123, 32])) ++ (x1)) ++ ([61, 62, 32])).length + x2.length ≤ 140737488355328) := by unfold Hid; simp only [List.length_append, List.length_cons, List.length_nil]; omega
  have HL7 : Hid (((((((bs ++ ([114, 117, 108, 101, 32] ++ t.tx)) ++ ([32, 115, 97, 108, 105, 101, 110, 99, 101, 32] ++ z.data.toList)) ++ ([32, 123, 32])) ++ (x1)) ++ ([61, 62, 32])) ++ (x2)).length + 1 ≤ 140737488355328) := by unfold Hid; simp only [List.length_append, List.length_cons, List.length_nil]; omega
  clear hlen
  have hzi : (t.num == 0) = false := by simp [hz]
  have hzn : (t.num != 0) = true := by simp [hz]
  clear hz
  go_enter Tryz.func39, Tryz.ntmps39
  go_wp2_with (go_at_call 36; go_must (refine (lit2 B b _ (⟨#[114, 117, 108, 101, 32]⟩) (t.text) _ HW0.out (HL1.out) _ (by first | rfl | simp)).mono ?_; rintro e w1 ⟨rfl, hw, hk⟩; have HW1 : Hid (Wrt B b (bs ++ ([114, 117, 108, 101, 32] ++ t.tx)) w1) := hw; have HR1 : Hid (Kp B b (w.alloc (.cells #[.int .u8 t.kind, .string t.text, .int .i64 t.num, .int .i64 t.pos, .slice ao t.kids.length c] 25)) w1) := HR0.out.trans hk; have c1 := box_at HG0.out HR1.out hgb; clear hw hk; refine Hid.out ?_))
  refine Lib.hid ?_
  go_wp2_with (go_at_call 43; go_must (refine (KI.out _ HR1.out).mono ?_; rintro e w2 ⟨rfl, hb⟩; have HW2 : Hid (Wrt B b (bs ++ ([114, 117, 108, 101, 32] ++ t.tx)) w2) := HW1.out.below hb; have HR2 : Hid (Kp B b (w.alloc (.cells #[.int .u8 t.kind, .string t.text, .int .i64 t.num, .int .i64 t.pos, .slice ao t.kids.length c] 25)) w2) := HR1.out.below HW1.out.base hb; have c2 := box_at HG0.out HR2.out hgb; clear hb; refine Hid.out ?_))
  refine Lib.hid ?_
  clear c1
  go_wp2_with (go_at_call 36; go_must (refine (lit2 B b _ (⟨#[32, 115, 97, 108, 105, 101, 110, 99, 101, 32]⟩) (z) _ HW2.out (HL2.out) _ (by first | rfl | simp)).mono ?_; rintro e w3 ⟨rfl, hw, hk⟩; have HW3 : Hid (Wrt B b ((bs ++ ([114, 117, 108, 101, 32] ++ t.tx)) ++ ([32, 115, 97, 108, 105, 101, 110, 99, 101, 32] ++ z.data.toList)) w3) := hw; have HR3 : Hid (Kp B b (w.alloc (.cells #[.int .u8 t.kind, .string t.text, .int .i64 t.num, .int .i64 t.pos, .slice ao t.kids.length c] 25)) w3) := HR2.out.trans hk; have c3 := box_at HG0.out HR3.out hgb; clear hw hk; refine Hid.out ?_))
  refine Lib.hid ?_
  clear c2
  go_wp2_with (go_at_call 69; go_must (refine (KH.out _ HR3.out HW3.out.base).mono ?_; rintro e w4 ⟨v1, v2, rfl, r1, r2, hg⟩; have HW4 : Hid (Wrt B b ((bs ++ ([114, 117, 108, 101, 32] ++ t.tx)) ++ ([32, 115, 97, 108, 105, 101, 110, 99, 101, 32] ++ z.data.toList)) w4) := HW3.out.below hg.below; have HR4 : Hid (Kp B b (w.alloc (.cells #[.int .u8 t.kind, .string t.text, .int .i64 t.num, .int .i64 t.pos, .slice ao t.kids.length c] 25)) w4) := HR3.out.below HW3.out.base hg.below; have HV1 := Lib.hid r1; have HV2 := Lib.hid r2; have HS4 : Hid (Kp B b w4 w4) := Kp.refl _ _ _; clear hg r1 r2 c3; refine Hid.out ?_))
  refine Lib.hid ?_
  go_wp2_with (go_at_call 36; go_must (refine (lit1 B b _ (⟨#[32, 123, 32]⟩) _ HW4.out (HL3.out) _ (by first | rfl | simp)).mono ?_; rintro e w5 ⟨rfl, hw, hk⟩; have HW5 : Hid (Wrt B b (((bs ++ ([114, 117, 108, 101, 32] ++ t.tx)) ++ ([32, 115, 97, 108, 105, 101, 110, 99, 101, 32] ++ z.data.toList)) ++ ([32, 123, 32])) w5) := hw; have HR5 : Hid (Kp B b (w.alloc (.cells #[.int .u8 t.kind, .string t.text, .int .i64 t.num, .int .i64 t.pos, .slice ao t.kids.length c] 25)) w5) := HR4.out.trans hk; have HS5 : Hid (Kp B b w4 w5) := HS4.out.trans hk; clear hw hk; refine Hid.out ?_))
  refine Lib.hid ?_
  go_wp2_with (go_at_call 21; go_must (refine (KP1.out _ _ _ (HV1.out.keep HS5.out.bel) HW5.out (HTb.out.on (HK0.out.trans HR5.out).bel) HL4.out).mono ?_; rintro e w6 ⟨rfl, hw, hk⟩; have HW6 : Hid (Wrt B b ((((bs ++ ([114, 117, 108, 101, 32] ++ t.tx)) ++ ([32, 115, 97, 108, 105, 101, 110, 99, 101, 32] ++ z.data.toList)) ++ ([32, 123, 32])) ++ (x1)) w6) := hw; have HR6 : Hid (Kp B b (w.alloc (.cells #[.int .u8 t.kind, .string t.text, .int .i64 t.num, .int .i64 t.pos, .slice ao t.kids.length c] 25)) w6) := HR5.out.trans hk; have HS6 : Hid (Kp B b w4 w6) := HS5.out.trans hk; clear hw hk; refine Hid.out ?_))
  refine Lib.hid ?_
  go_wp2_with (go_at_call 36; go_must (refine (lit1 B b _ (⟨#[61, 62, 32]⟩) _ HW6.out (HL5.out) _ (by first | rfl | simp)).mono ?_; rintro e w7 ⟨rfl, hw, hk⟩; have HW7 : Hid (Wrt B b (((((bs ++ ([114, 117, 108, 101, 32] ++ t.tx)) ++ ([32, 115, 97, 108, 105, 101, 110, 99, 101, 32] ++ z.data.toList)) ++ ([32, 123, 32])) ++ (x1)) ++ ([61, 62, 32])) w7) := hw; have HR7 : Hid (Kp B b (w.alloc (.cells #[.int .u8 t.kind, .string t.text, .int .i64 t.num, .int .i64 t.pos, .slice ao t.kids.length c] 25)) w7) := HR6.out.trans hk; have HS7 : Hid (Kp B b w4 w7) := HS6.out.trans hk; clear hw hk; refine Hid.out ?_))
  refine Lib.hid ?_
  go_wp2_with (go_at_call 21; go_must (refine (KP2.out _ _ _ (HV2.out.keep HS7.out.bel) HW7.out (HTb.out.on (HK0.out.trans HR7.out).bel) HL6.out).mono ?_; rintro e w8 ⟨rfl, hw, hk⟩; have HW8 : Hid (Wrt B b ((((((bs ++ ([114, 117, 108, 101, 32] ++ t.tx)) ++ ([32, 115, 97, 108, 105, 101, 110, 99, 101, 32] ++ z.data.toList)) ++ ([32, 123, 32])) ++ (x1)) ++ ([61, 62, 32])) ++ (x2)) w8) := hw; have HR8 : Hid (Kp B b (w.alloc (.cells #[.int .u8 t.kind, .string t.text, .int .i64 t.num, .int .i64 t.pos, .slice ao t.kids.length c] 25)) w8) := HR7.out.trans hk; have HS8 : Hid (Kp B b w4 w8) := HS7.out.trans hk; clear hw hk; refine Hid.out ?_))
  refine Lib.hid ?_
  go_wp2_with (go_at_call 36; go_must (refine (lit1 B b _ (⟨#[125]⟩) _ HW8.out (HL7.out) _ (by first | rfl | simp)).mono ?_; rintro e w9 ⟨rfl, hw, hk⟩; have HW9 : Hid (Wrt B b (((((((bs ++ ([114, 117, 108, 101, 32] ++ t.tx)) ++ ([32, 115, 97, 108, 105, 101, 110, 99, 101, 32] ++ z.data.toList)) ++ ([32, 123, 32])) ++ (x1)) ++ ([61, 62, 32])) ++ (x2)) ++ ([125])) w9) := hw; have HR9 : Hid (Kp B b (w.alloc (.cells #[.int .u8 t.kind, .string t.text, .int .i64 t.num, .int .i64 t.pos, .slice ao t.kids.length c] 25)) w9) := HR8.out.trans hk; have HS9 : Hid (Kp B b w4 w9) := HS8.out.trans hk; clear hw hk; refine Hid.out ?_))
  refine Lib.hid ?_
  go_wp2_with fail
  go_end0
  refine ⟨rfl, ?_, HK0.out.trans HR9.out⟩
  have hfin := HW9.out
  simpa [List.append_assoc] using hfin

set_option maxRecDepth 100000 in
set_option maxHeartbeats 1000000 in
theorem decl_type (t : T) (hk : t.kind = 2) (B b : Nat) (bs : L8) (w : World) (v : Value) (hl : Lies B w t v) (hw : Wrt B b bs w) (hlen : bs.length + (declT t).length ≤ 140737488355328) :
    Calls Tryz.prog 22 #[.pointer (some ⟨b, 0, none⟩), agg t v] w (Wd B b bs (declT t) w) := by
  have hpt : declT t = [102, 97, 99, 116, 32] ++ namedX T.tx t ++ [59] := by
    unfold declT
    rw [if_pos hk]
    simp [namedX]
  rw [hpt] at hlen ⊢
  obtain ⟨ao, c, ps, rfl, k1⟩ := hl.out
  have hlm := k1.len64
  have HLi := Lib.hid hl
  have HA := Lib.hid k1
  have hb0 := below_own (w := w) (.cells #[.int .u8 t.kind, .string t.text, .int .i64 t.num, .int .i64 t.pos, .slice ao t.kids.length c] 25)
  have HW0 : Hid (Wrt B b bs (w.alloc (.cells #[.int .u8 t.kind, .string t.text, .int .i64 t.num, .int .i64 t.pos, .slice ao t.kids.length c] 25))) := hw.below hb0
  have HK0 : Hid (Kp B b w (w.alloc (.cells #[.int .u8 t.kind, .string t.text, .int .i64 t.num, .int .i64 t.pos, .slice ao t.kids.length c] 25))) := (Kp.refl B b w).below hw.base hb0
  have HG0 : Hid ((w.alloc (.cells #[.int .u8 t.kind, .string t.text, .int .i64 t.num, .int .i64 t.pos, .slice ao t.kids.length c] 25)).heap[w.heap.size]? = some (.cells #[.int .u8 t.kind, .string t.text, .int .i64 t.num, .int .i64 t.pos, .slice ao t.kids.length c] 25 (0, 0))) := heap_alloc_new w _
  have hgb : w.heap.size ≠ b := by have := hw.lt; omega
  have HR0 : Hid (Kp B b (w.alloc (.cells #[.int .u8 t.kind, .string t.text, .int .i64 t.num, .int .i64 t.pos, .slice ao t.kids.length c] 25)) (w.alloc (.cells #[.int .u8 t.kind, .string t.text, .int .i64 t.num, .int .i64 t.pos, .slice ao t.kids.length c] 25))) := Kp.refl _ _ _
  have hbw : B ≤ w.heap.size := hw.base
  clear hl hw k1 hb0
  have KX : Hid (∀ W bs', Kp B b (w.alloc (.cells #[.int .u8 t.kind, .string t.text, .int .i64 t.num, .int .i64 t.pos, .slice ao t.kids.length c] 25)) W → Wrt B b bs' W → bs'.length + (namedX T.tx t).length ≤ 140737488355328 → Calls Tryz.prog 37 #[.pointer (some ⟨b, 0, none⟩), agg t (.slice ao t.kids.length c), .func (.func 38) #[.pointer (some ⟨b, 0, none⟩)] #[]] W (Wd B b bs' (namedX T.tx t) W)) := fun W bs' hk hw hlen => named_field t (fun _ _ => trivial) B b bs' W _ (HLi.out.keep (HK0.out.trans hk).bel) hw hlen
  clear hpt HLi HA
  unfold agg at *
  generalize t.kind = k at *
  subst hk
  generalize namedX T.tx t = x at *
  simp only [List.length_append, List.length_cons, List.length_nil] at hlen
  have HL1 : Hid (bs.length + 5 ≤ 140737488355328) := by unfold Hid; omega
  have HL2 : Hid ((bs ++ [102, 97, 99, 116, 32]).length + x.length ≤ 140737488355328) := by unfold Hid; simp only [List.length_append, List.length_cons, List.length_nil]; omega
  have HL3 : Hid (((bs ++ [102, 97, 99, 116, 32]) ++ x).length + 1 ≤ 140737488355328) := by unfold Hid; simp only [List.length_append, List.length_cons, List.length_nil]; omega
  clear hlen
  go_enter Tryz.func22, Tryz.ntmps22
  go_wp2_with (go_at_call 36; go_must (refine (lit1 B b _ (⟨#[102, 97, 99, 116, 32]⟩) _ HW0.out (HL1.out) _ (by first | rfl | simp)).mono ?_; rintro e w1 ⟨rfl, hw, hk⟩; have HW1 : Hid (Wrt B b (bs ++ ([102, 97, 99, 116, 32])) w1) := hw; have HR1 : Hid (Kp B b (w.alloc (.cells #[.int .u8 2, .string t.text, .int .i64 t.num, .int .i64 t.pos, .slice ao t.kids.length c] 25)) w1) := HR0.out.trans hk; have c1 := box_at HG0.out HR1.out hgb; clear hw hk; refine Hid.out ?_))
  refine Lib.hid ?_
  go_wp2_with (go_at_call 37; go_must (refine (KX.out _ _ HR1.out HW1.out HL2.out).mono ?_; rintro e w2 ⟨rfl, hw, hk⟩; have HW2 : Hid (Wrt B b ((bs ++ ([102, 97, 99, 116, 32])) ++ (x)) w2) := hw; have HR2 : Hid (Kp B b (w.alloc (.cells #[.int .u8 2, .string t.text, .int .i64 t.num, .int .i64 t.pos, .slice ao t.kids.length c] 25)) w2) := HR1.out.trans hk; have c2 := box_at HG0.out HR2.out hgb; clear hw hk; refine Hid.out ?_))
  refine Lib.hid ?_
  go_wp2_with (go_at_call 36; go_must (refine (lit1 B b _ (⟨#[59]⟩) _ HW2.out (HL3.out) _ (by first | rfl | simp)).mono ?_; rintro e w3 ⟨rfl, hw, hk⟩; have HW3 : Hid (Wrt B b (((bs ++ ([102, 97, 99, 116, 32])) ++ (x)) ++ ([59])) w3) := hw; have HR3 : Hid (Kp B b (w.alloc (.cells #[.int .u8 2, .string t.text, .int .i64 t.num, .int .i64 t.pos, .slice ao t.kids.length c] 25)) w3) := HR2.out.trans hk; have c3 := box_at HG0.out HR3.out hgb; clear hw hk; refine Hid.out ?_))
  refine Lib.hid ?_
  go_wp2_with fail
  go_end0
  refine ⟨rfl, ?_, HK0.out.trans HR3.out⟩
  have hfin := HW3.out
  simpa [List.append_assoc] using hfin

theorem rule_any (t : T) (h4 : t.kind = 4) (hd : IsDecl t) (B b : Nat) (bs : L8) (w : World) (v : Value) (hl : Lies B w t v) (hw : Wrt B b bs w) (ht : Tab B w) (hlen : bs.length + (declT t).length ≤ 140737488355328) :
    Calls Tryz.prog 39 #[.pointer (some ⟨b, 0, none⟩), agg t v] w (Wd B b bs (declT t) w) := by
  by_cases hz : t.num = 0
  · exact rule_zero t h4 hz hd B b bs w v hl hw ht hlen
  · exact rule_num t h4 hz hd B b bs w v hl hw ht hlen
set_option maxRecDepth 100000 in
set_option maxHeartbeats 1000000 in
theorem declaration_any (t : T) (hd : IsDecl t) (B b : Nat) (bs : L8) (w : World) (v : Value) (hl : Lies B w t v) (hw : Wrt B b bs w) (ht : Tab B w) (hlen : bs.length + (declT t).length ≤ 140737488355328) :
    Calls Tryz.prog 22 #[.pointer (some ⟨b, 0, none⟩), agg t v] w (Wd B b bs (declT t) w) := by
  rcases hd.kind with hk | hk
  · exact decl_type t hk B b bs w v hl hw hlen
  obtain ⟨ao, c, ps, rfl, k1⟩ := hl.out
  have hlm := k1.len64
  have HLi := Lib.hid hl
  have HA := Lib.hid k1
  have hb0 := below_own (w := w) (.cells #[.int .u8 t.kind, .string t.text, .int .i64 t.num, .int .i64 t.pos, .slice ao t.kids.length c] 25)
  have HW0 : Hid (Wrt B b bs (w.alloc (.cells #[.int .u8 t.kind, .string t.text, .int .i64 t.num, .int .i64 t.pos, .slice ao t.kids.length c] 25))) := hw.below hb0
  have HK0 : Hid (Kp B b w (w.alloc (.cells #[.int .u8 t.kind, .string t.text, .int .i64 t.num, .int .i64 t.pos, .slice ao t.kids.length c] 25))) := (Kp.refl B b w).below hw.base hb0
  have HG0 : Hid ((w.alloc (.cells #[.int .u8 t.kind, .string t.text, .int .i64 t.num, .int .i64 t.pos, .slice ao t.kids.length c] 25)).heap[w.heap.size]? = some (.cells #[.int .u8 t.kind, .string t.text, .int .i64 t.num, .int .i64 t.pos, .slice ao t.kids.length c] 25 (0, 0))) := heap_alloc_new w _
  have hgb : w.heap.size ≠ b := by have := hw.lt; omega
  have HR0 : Hid (Kp B b (w.alloc (.cells #[.int .u8 t.kind, .string t.text, .int .i64 t.num, .int .i64 t.pos, .slice ao t.kids.length c] 25)) (w.alloc (.cells #[.int .u8 t.kind, .string t.text, .int .i64 t.num, .int .i64 t.pos, .slice ao t.kids.length c] 25))) := Kp.refl _ _ _
  have hbw : B ≤ w.heap.size := hw.base
  clear hl hw k1 hb0
  have KX : Hid (Calls Tryz.prog 39 #[.pointer (some ⟨b, 0, none⟩), agg t (.slice ao t.kids.length c)] (w.alloc (.cells #[.int .u8 t.kind, .string t.text, .int .i64 t.num, .int .i64 t.pos, .slice ao t.kids.length c] 25)) (Wd B b bs (declT t) (w.alloc (.cells #[.int .u8 t.kind, .string t.text, .int .i64 t.num, .int .i64 t.pos, .slice ao t.kids.length c] 25)))) := rule_any t hk hd B b bs _ _ (HLi.out.keep HK0.out.bel) HW0.out (ht.on HK0.out.bel) hlen
  clear HLi HA hd ht hlen
  unfold agg at *
  generalize t.kind = k at *
  subst hk
  generalize declT t = x at *
  go_enter Tryz.func22, Tryz.ntmps22
  go_wp2_with (go_at_call 39; go_must (refine (KX.out).mono ?_; rintro e w1 ⟨rfl, hw, hk⟩; have HW1 : Hid (Wrt B b (bs ++ (x)) w1) := hw; have HR1 : Hid (Kp B b (w.alloc (.cells #[.int .u8 4, .string t.text, .int .i64 t.num, .int .i64 t.pos, .slice ao t.kids.length c] 25)) w1) := HR0.out.trans hk; have c1 := box_at HG0.out HR1.out hgb; clear hw hk; refine Hid.out ?_))
  refine Lib.hid ?_
  go_wp2_with fail
  go_end0
  refine ⟨rfl, ?_, HK0.out.trans HR1.out⟩
  have hfin := HW1.out
  first | exact hfin | simpa [List.append_assoc] using hfin

set_option maxRecDepth 100000 in
set_option maxHeartbeats 1000000 in
theorem each_declaration (l : List T) (hx : ∀ k, k ∈ l → IsDecl k) (B b : Nat) (bs : L8) (w : World) (v : Value) (hl : RowIs B w l v) (hw : Wrt B b bs w) (ht : Tab B w) (hlen : bs.length + (eachT declT [10] l).length ≤ 140737488355328) :
    Calls Tryz.prog 21 #[.pointer (some ⟨b, 0, none⟩), v, .func (.func 22) #[.pointer (some ⟨b, 0, none⟩)] #[], .string ⟨#[10]⟩] w (Wd B b bs (eachT declT [10] l) w) := by
  obtain ⟨ao, c, rfl, hl⟩ := hl
  have hlm := lenOf hl
  have HLi := Lib.hid hl
  have HX := Lib.hid hx
  have HL := Lib.hid hlen
  have HTb := Lib.hid ht
  have H0 : Hid (Wrt B b (bs ++ eachT declT [10] (l.take 0)) w) := by
    unfold Hid
    rw [List.take_zero, show eachT declT [10] [] = [] from rfl, List.append_nil]
    exact hw
  clear hl hx hlen hw ht
  obtain ⟨n, hn⟩ : ∃ n, n = l.length := ⟨_, rfl⟩
  have HN := Lib.hid hn
  rw [← hn] at hlm HLi ⊢
  clear hn
  go_enter Tryz.func21, Tryz.ntmps21
  go_wp2_with fail
  go_loopw [12] (fun i wr => ∃ j : Nat, j ≤ n ∧ i = .int .i64 j ∧ Hid (Wrt B b (bs ++ eachT declT [10] (l.take j)) wr) ∧ Hid (Kp B b w wr)) (fun i _ => n - (intOf i).toNat)
  case atStart => exact ⟨0, by omega, rfl, H0, Kp.refl _ _ _⟩
  case round =>
    clear H0
    obtain ⟨j, hj, rfl, HW, HK⟩ := hrel
    by_cases hlt : j < n
    · have hjn : (j : Int) < (n : Int) := by omega
      have hjl : j < l.length := by rw [← HN.out]; exact hlt
      obtain ⟨ao', c', ps, he, k1⟩ := (HLi.out.keep HK.out.bel).out
      obtain ⟨sb, off, e1, hsb, hc⟩ := k1.kid (show 0 < l.length by omega)
      obtain ⟨u, hkc, hkl⟩ := hc j l[j] (List.getElem?_eq_getElem hjl)
      injection he with he1 he2 he3
      subst he1 e1 he3
      obtain ⟨ka, kc, kps, rfl, kk⟩ := hkl.out
      have HXq := Lib.hid (HX.out _ (List.getElem_mem hjl))
      have HT : Hid (eachT declT [10] (l.take (j + 1)) = eachT declT [10] (l.take j) ++ (declT l[j] ++ [10])) := eachT_take _ _ _ _ hjl
      have hle := eachT_take_le declT [10] l (j + 1)
      have hb := HL.out
      rw [HT.out] at hle
      simp only [List.length_append, List.length_cons, List.length_nil] at hle
      have HKL := Lib.hid hkl
      obtain ⟨d0, d1, d2, d3, d4⟩ := hkc
      clear hc he2 k1 kk hkl kps ps
      generalize l[j] = q at *
      have KF : Hid (∀ W bs', Below B wr W → Wrt B b bs' W → bs'.length + (declT q).length ≤ 140737488355328 → Calls Tryz.prog 22 #[.pointer (some ⟨b, 0, none⟩), agg q (.slice ka q.kids.length kc)] W (Wd B b bs' (declT q) W)) := fun W bs' hbb hw hlen => declaration_any q HXq.out B b bs' W _ (HKL.out.keep hbb) hw (HTb.out.on (HK.out.bel.trans hbb)) hlen
      clear HXq HKL
      generalize q.kids.length = m at *
      have hv1 : (wr.alloc (.cells #[.int .u8 q.kind, .string q.text, .int .i64 q.num, .int .i64 q.pos, .slice ka m kc] 25)).heap[wr.heap.size]? = some (.cells #[.int .u8 q.kind, .string q.text, .int .i64 q.num, .int .i64 q.pos, .slice ka m kc] 25 (0, 0)) := heap_alloc_new wr _
      have hv2 : Below wr.heap.size wr (wr.alloc (.cells #[.int .u8 q.kind, .string q.text, .int .i64 q.num, .int .i64 q.pos, .slice ka m kc] 25)) := below_own _
      have hgb : wr.heap.size ≠ b := by have := HW.out.lt; omega
      have HG5 := Lib.hid hv1
      have HK5 : Hid (Kp B b w (wr.alloc (.cells #[.int .u8 q.kind, .string q.text, .int .i64 q.num, .int .i64 q.pos, .slice ka m kc] 25))) := HK.out.below HW.out.base hv2
      have HB5 : Hid (Below B wr (wr.alloc (.cells #[.int .u8 q.kind, .string q.text, .int .i64 q.num, .int .i64 q.pos, .slice ka m kc] 25))) := hv2.mono HW.out.base
      have HW0 : Hid (Wrt B b (bs ++ eachT declT [10] (l.take j)) (wr.alloc (.cells #[.int .u8 q.kind, .string q.text, .int .i64 q.num, .int .i64 q.pos, .slice ka m kc] 25))) := HW.out.below hv2
      have HR0 : Hid (Kp B b (wr.alloc (.cells #[.int .u8 q.kind, .string q.text, .int .i64 q.num, .int .i64 q.pos, .slice ka m kc] 25)) (wr.alloc (.cells #[.int .u8 q.kind, .string q.text, .int .i64 q.num, .int .i64 q.pos, .slice ka m kc] 25))) := Kp.refl _ _ _
      have hs1 : sb < wr.heap.size := by have := HW.out.base; omega
      have hs2 : sb ≠ wr.heap.size := by omega
      generalize eachT declT [10] (l.take j) = y at *
      generalize declT q = x at *
      clear hv1 hv2 HW HK
      unfold agg at *
      have HL1 : Hid ((bs ++ y).length + x.length ≤ 140737488355328) := by unfold Hid; simp only [List.length_append] at hle ⊢; omega
      have HL2 : Hid (((bs ++ y) ++ x).length + 1 ≤ 140737488355328) := by unfold Hid; simp only [List.length_append] at hle ⊢; omega
      clear hle hb
      go_wp2_with (go_at_call 22; go_must (refine (KF.out _ _ (HB5.out.trans HR0.out.bel) HW0.out HL1.out).mono ?_; rintro e w1 ⟨rfl, hw, hk⟩; have HW1 : Hid (Wrt B b ((bs ++ y) ++ x) w1) := hw; have HR1 : Hid (Kp B b (wr.alloc (.cells #[.int .u8 q.kind, .string q.text, .int .i64 q.num, .int .i64 q.pos, .slice ka m kc] 25)) w1) := HR0.out.trans hk; have c1 := box_at HG5.out HR1.out hgb; clear hw hk; refine Hid.out ?_))
      refine Lib.hid ?_
      go_wp2_with (go_at_call 36; go_must (refine (lit1 B b _ (⟨#[10]⟩) _ HW1.out (HL2.out) _ (by first | rfl | simp)).mono ?_; rintro e w2 ⟨rfl, hw, hk⟩; have HW2 : Hid (Wrt B b (((bs ++ y) ++ x) ++ [10]) w2) := hw; have HR2 : Hid (Kp B b (wr.alloc (.cells #[.int .u8 q.kind, .string q.text, .int .i64 q.num, .int .i64 q.pos, .slice ka m kc] 25)) w2) := HR1.out.trans hk; have c2 := box_at HG5.out HR2.out hgb; clear hw hk; refine Hid.out ?_))
      refine Lib.hid ?_
      have HWn : Hid (Wrt B b (bs ++ eachT declT [10] (l.take (j + 1))) w2) := by
        unfold Hid
        rw [HT.out, ← List.append_assoc, ← List.append_assoc]
        exact HW2.out
      have HKn : Hid (Kp B b w w2) := HK5.out.trans HR2.out
      clear d0 d1 d2 d3 d4 KF HW1 HW2 HW0 HL1 HL2 HG5 HR1 HR2 HR0 c1 c2 HB5 HK5
      go_wp2_with fail
      go_roundw
      case rel => exact ⟨j + 1, by omega, by go_num, HWn, HKn⟩
      case measure => simp [intOf]; omega
    · obtain rfl : j = n := by omega
      have HR : Hid (Wrt B b (bs ++ eachT declT [10] l) wr) := by
        have := HW.out
        rw [HN.out, List.take_length] at this
        exact this
      clear HW
      go_wp2_with fail
      go_end0
      exact ⟨rfl, HR.out, HK.out⟩
end Go.Proofs.YtfmjhbaenpbfoaaGreatDoor

namespace Go.Proofs.YtfmjhbaenpbfoaaGreatDoor
open Go.RowKit

theorem Small.short {M : Int} {t : T} (h : Small M t) (hM : M ≤ 9000) : Short t := by
  induction h with
  | mk t ht hl _ ih => exact .mk t (by omega) (by omega) ih
theorem cellsByte : Tryz.prog.cellsOf 5 = 1 := by kernel_rfl
set_option maxHeartbeats 1000000 in
set_option maxRecDepth 100000 in
theorem string_some (B b : Nat) (l : L8) (w : World) (p : Value) (h : Lib.BuilderAtF 50 5 B b p (Lib.byteCells l) w) (h0 : l ≠ []) :
    Calls Tryz.prog 23 #[.pointer (some ⟨b, 0, none⟩)] w fun e w' => e = .returned (.string (BA l)) ∧ Below B w w' := by
  obtain ⟨hB, v, hbk, hown, hne⟩ := h
  have hl0 : l.length ≠ 0 := by simpa using h0
  rw [Lib.byteCells_length] at hown
  obtain ⟨g, cap, cur, fz, rfl, hbg, hg, hfz, hnc, hcm, hcs, htake⟩ : ∃ g cap cur fz, v = .slice (some ⟨g, 0, none⟩) l.length cap ∧ B ≤ g ∧ w.heap[g]? = some (.cells cur 5 fz) ∧ fz.2 ≤ l.length * 1 ∧ l.length ≤ cap ∧ cap ≤ maxLen ∧ cur.size = cap * 1 ∧ cur.toList.take (l.length * 1) = Lib.byteCells l := by
    rcases hown.2 with ⟨_, hz⟩ | ⟨g, cap, cur, fz, hv, r⟩
    · exact absurd hz hl0
    · exact ⟨g, cap, cur, fz, hv, r⟩
  have c1 : w.drew.cell? ⟨b, 1, none⟩ = some (.slice (some ⟨g, 0, none⟩) l.length cap) := by
    have : w.drew.heap[b]? = some (.cells #[p, .slice (some ⟨g, 0, none⟩) l.length cap] 50 (0, 0)) := hbk
    rw [Lib.cell_of_heap this]; rfl
  have hSD : (Builtin.unsafeSliceData_ #[46] 81 #[.slice (some ⟨g, 0, none⟩) l.length cap]).run Tryz.prog w.drew = .ok (.pointer (some ⟨g, 0, none⟩)) w.drew :=
    Lib.run_unsafeSliceData_row _ _ _ _ _ _ (by omega)
  have hUS : (Builtin.unsafeString_ #[81, 3] 9 #[.pointer (some ⟨g, 0, none⟩), .int .i64 l.length]).run Tryz.prog w.drew = .ok (.string (BA l)) (w.drew.freeze ⟨g, 0, none⟩ l.length) := by
    refine Lib.run_unsafeString_row w.drew 81 3 9 5 Tryz.underlying81 cellsByte g cur.size (by have hg' : w.drew.heap[g]? = some (.cells cur 5 fz) := hg; simp [World.shape?, hg']) l h0 (by omega) (by unfold maxLen at hcm; omega) ?_
    intro j x hx
    exact hown.cells (g := g) rfl j (.int .u8 x.toNat) (by simp [Lib.byteCells, hx])
  clear htake hcs hfz hown hg hbk hne h0
  have mixed : Tryz.prog.follows .mixedOrders = true := by kernel_rfl
  go_enter Tryz.func23, Tryz.ntmps23
  go_wp2
  go_region
  all_goals (go_wp2; go_ret; exact ⟨rfl, Lib.below_freeze (Below.drew (Below.refl B w)) (p := ⟨g, 0, none⟩) hbg _⟩)
set_option maxHeartbeats 1000000 in
set_option maxRecDepth 100000 in
theorem string_nil (B b : Nat) (p : Value) (w : World) (hbk : w.heap[b]? = some (.cells #[p, .slice none 0 0] 50 (0, 0))) :
    Calls Tryz.prog 23 #[.pointer (some ⟨b, 0, none⟩)] w fun e w' => e = .returned (.string (BA [])) ∧ Below B w w' := by
  have hUS : ∀ (W : World) (q : Option Addr), (Builtin.unsafeString_ #[81, 3] 9 #[.pointer q, .int .i64 0]).run Tryz.prog W = .ok (.string .empty) W := fun W q => Lib.run_unsafeString_none W _ _ _ q
  have c1 : w.drew.cell? ⟨b, 1, none⟩ = some (.slice none 0 0) := by
    have : w.drew.heap[b]? = some (.cells #[p, .slice none 0 0] 50 (0, 0)) := hbk
    rw [Lib.cell_of_heap this]; rfl
  have hSD : (Builtin.unsafeSliceData_ #[46] 81 #[.slice none 0 0]).run Tryz.prog w.drew = .ok (.pointer none) w.drew := rfl
  clear hbk
  have mixed : Tryz.prog.follows .mixedOrders = true := by kernel_rfl
  go_enter Tryz.func23, Tryz.ntmps23
  go_wp2
  go_region
  all_goals (go_wp2; go_ret; exact ⟨rfl, Below.drew (Below.refl B w)⟩)
set_option maxHeartbeats 1000000 in
set_option maxRecDepth 100000 in
theorem string_noroom (B b g : Nat) (p : Value) (cur : Array Value) (fz : Nat × Nat) (w : World) (hBw : B ≤ w.heap.size) (hbk : w.heap[b]? = some (.cells #[p, .slice (some ⟨g, 0, none⟩) 0 0] 50 (0, 0))) (hg : w.heap[g]? = some (.cells cur 5 fz)) :
    Calls Tryz.prog 23 #[.pointer (some ⟨b, 0, none⟩)] w fun e w' => e = .returned (.string (BA [])) ∧ Below B w w' := by
  have hUS : ∀ (W : World) (q : Option Addr), (Builtin.unsafeString_ #[81, 3] 9 #[.pointer q, .int .i64 0]).run Tryz.prog W = .ok (.string .empty) W := fun W q => Lib.run_unsafeString_none W _ _ _ q
  have hlt : b < w.heap.size := lt_of_heap hbk
  have c1 : w.drew.cell? ⟨b, 1, none⟩ = some (.slice (some ⟨g, 0, none⟩) 0 0) := by
    have : w.drew.heap[b]? = some (.cells #[p, .slice (some ⟨g, 0, none⟩) 0 0] 50 (0, 0)) := hbk
    rw [Lib.cell_of_heap this]; rfl
  have hSD : (Builtin.unsafeSliceData_ #[46] 81 #[.slice (some ⟨g, 0, none⟩) 0 0]).run Tryz.prog w.drew = .ok (.pointer (some ⟨w.drew.heap.size, 0, none⟩)) (w.drew.alloc (.view ⟨g, 0, none⟩ 5)) :=
    Lib.run_unsafeSliceData_zero w.drew _ _ 5 Tryz.underlying81 ⟨g, 0, none⟩ 0 (5, cur.size) (by have hg' : w.drew.heap[g]? = some (.cells cur 5 fz) := hg; simp [World.shape?, hg'])
  have c2 : (w.drew.alloc (.view ⟨g, 0, none⟩ 5)).cell? ⟨b, 1, none⟩ = some (.slice (some ⟨g, 0, none⟩) 0 0) := by
    have : (w.drew.alloc (.view ⟨g, 0, none⟩ 5)).heap[b]? = _ := (Lib.alloc_old w.drew _ b hlt).trans hbk
    rw [Lib.cell_of_heap this]; rfl
  have c3 : (w.alloc (.view ⟨g, 0, none⟩ 5)).drew.cell? ⟨b, 1, none⟩ = some (.slice (some ⟨g, 0, none⟩) 0 0) := c2
  have c0 : w.cell? ⟨b, 1, none⟩ = some (.slice (some ⟨g, 0, none⟩) 0 0) := c1
  clear hbk hg
  have mixed : Tryz.prog.follows .mixedOrders = true := by kernel_rfl
  go_enter Tryz.func23, Tryz.ntmps23
  go_wp2
  go_region
  all_goals (go_wp2; go_ret; exact ⟨rfl, (Below.drew (Below.refl B w)).alloc hBw _⟩)
set_option maxHeartbeats 1000000 in
set_option maxRecDepth 100000 in
theorem string_room (B b g cap : Nat) (p : Value) (w : World) (hc0 : cap ≠ 0) (hbk : w.heap[b]? = some (.cells #[p, .slice (some ⟨g, 0, none⟩) 0 cap] 50 (0, 0))) :
    Calls Tryz.prog 23 #[.pointer (some ⟨b, 0, none⟩)] w fun e w' => e = .returned (.string (BA [])) ∧ Below B w w' := by
  have hUS : ∀ (W : World) (q : Option Addr), (Builtin.unsafeString_ #[81, 3] 9 #[.pointer q, .int .i64 0]).run Tryz.prog W = .ok (.string .empty) W := fun W q => Lib.run_unsafeString_none W _ _ _ q
  have c1 : w.drew.cell? ⟨b, 1, none⟩ = some (.slice (some ⟨g, 0, none⟩) 0 cap) := by
    have : w.drew.heap[b]? = some (.cells #[p, .slice (some ⟨g, 0, none⟩) 0 cap] 50 (0, 0)) := hbk
    rw [Lib.cell_of_heap this]; rfl
  have hSD : (Builtin.unsafeSliceData_ #[46] 81 #[.slice (some ⟨g, 0, none⟩) 0 cap]).run Tryz.prog w.drew = .ok (.pointer (some ⟨g, 0, none⟩)) w.drew :=
    Lib.run_unsafeSliceData_row _ _ _ _ _ _ hc0
  clear hc0 hbk
  have mixed : Tryz.prog.follows .mixedOrders = true := by kernel_rfl
  go_enter Tryz.func23, Tryz.ntmps23
  go_wp2
  go_region
  all_goals (go_wp2; go_ret; exact ⟨rfl, Below.drew (Below.refl B w)⟩)
theorem string_any (B b : Nat) (l : L8) (w : World) (h : Wrt B b l w) : Calls Tryz.prog 23 #[.pointer (some ⟨b, 0, none⟩)] w fun e w' => e = .returned (.string (BA l)) ∧ Below B w w' := by
  have hBw := h.base
  obtain ⟨p, hA⟩ : ∃ p, Lib.BuilderAtF 50 5 B b p (Lib.byteCells l) w := by
    rcases h with h | h
    · exact ⟨_, h⟩
    · exact ⟨_, h⟩
  by_cases h0 : l = []
  · subst h0
    obtain ⟨hB, v, hbk, hown, hne⟩ := hA
    rcases hown.2 with ⟨rfl, _⟩ | ⟨g, cap, cur, fz, rfl, hbg, hg, _, _, _, _, _⟩
    · exact string_nil B b p w hbk
    · by_cases hc0 : cap = 0
      · subst hc0
        exact string_noroom B b g p cur fz w hBw hbk hg
      · exact string_room B b g cap p w hc0 hbk
  · exact string_some B b l w p hA h0

/-- A writer that is new. -/
theorem wrt_new (B : Nat) (w : World) (hB : B ≤ w.heap.size) : Wrt B w.heap.size [] (w.alloc (.cells #[.pointer none, .slice none 0 0] 50)) := by
  refine Or.inl ⟨hB, .slice none 0 0, heap_alloc_new w _, ?_, by simp [Value.ownBlock]⟩
  exact World.ownsRowF_of (World.ownsRow_nil _ _ _ _)
def noText : L8 := []
/-- What Program says. -/
def ShowSay (t : T) (w : World) (e : Ending) (w' : World) : Prop := e = .returned (.tuple #[.string (BA (if rightT t then showT t else [])), .int .i64 (if rightT t then 0 else 4)]) ∧ Below w.heap.size w w'
set_option maxHeartbeats 1000000 in
set_option maxRecDepth 100000 in
theorem program7_any (t : T) (v : Value) (w : World) (hl : Lies w.heap.size w t v) (hL : Laid w) (hS : Small 9000 t) (ht : Tab w.heap.size w) : Calls Tryz.prog 10 #[agg t v] w (ShowSay t w) := by
  have hsm := hS.sml
  obtain ⟨ao, c, ps, rfl, k1⟩ := hl.out
  have hlm := k1.len64
  have HB0 : Hid (Below w.heap.size w (w.alloc (.cells #[.int .u8 t.kind, .string t.text, .int .i64 t.num, .int .i64 t.pos, .slice ao t.kids.length c] 25))) := below_own _
  have KR := Lib.hid (progRight_any t (.slice ao t.kids.length c) (w.alloc (.cells #[.int .u8 t.kind, .string t.text, .int .i64 t.num, .int .i64 t.pos, .slice ao t.kids.length c] 25)) (hl.up HB0.out HB0.out.size) (hL.below HB0.out) (hS.short (by omega)))
  have HLi := Lib.hid hl
  have HTb := Lib.hid ht
  unfold ShowSay
  cases hr : rightT t with
  | true =>
    rw [hr] at KR
    have hlen := show_len t hsm hr
    have hd := decls_of hr
    have KE : Hid (∀ b W, RowIs w.heap.size W t.kids (.slice ao t.kids.length c) → Wrt w.heap.size b [] W → Tab w.heap.size W → Calls Tryz.prog 21 #[.pointer (some ⟨b, 0, none⟩), .slice ao t.kids.length c, .func (.func 22) #[.pointer (some ⟨b, 0, none⟩)] #[], .string ⟨#[10]⟩] W (Wd w.heap.size b [] (showT t) W)) := fun b W h1 h2 h3 => each_declaration t.kids hd w.heap.size b [] W _ h1 h2 h3 (by have : (eachT declT [10] t.kids).length ≤ 400000000 := hlen; rw [List.length_nil]; omega)
    have HRw : Hid (∀ W, Below w.heap.size w W → RowIs w.heap.size W t.kids (.slice ao t.kids.length c)) := fun W hb => ⟨ao, c, rfl, by
      have := (HLi.out.keep hb).take t.kids.length (Nat.le_refl _)
      rwa [List.take_length] at this⟩
    simp only [if_true]
    clear hl hL hS hsm hd hr hlen k1 ht HLi
    generalize showT t = x at *
    unfold agg at *
    go_enter Tryz.func10, Tryz.ntmps10
    go_wp2_with (go_at_call 16; go_must (refine (KR.out).mono ?_; rintro e w1 ⟨rfl, hb⟩; have c1 := one_bel hb; have HB1 : Hid (Below w.heap.size w w1) := HB0.out.trans (hb.mono HB0.out.size); have HD1 : Hid (Below (w.alloc (.cells #[.int .u8 t.kind, .string t.text, .int .i64 t.num, .int .i64 t.pos, .slice ao t.kids.length c] 25)).heap.size (w.alloc (.cells #[.int .u8 t.kind, .string t.text, .int .i64 t.num, .int .i64 t.pos, .slice ao t.kids.length c] 25)) w1) := hb; clear hb; refine Hid.out ?_))
    refine Lib.hid ?_
    have hwn := Lib.hid (wrt_new w.heap.size w1 HB1.out.size)
    have hw0 : w.heap.size < w1.heap.size := by have := HD1.out.size; simp at this; omega
    have hw0n : w.heap.size ≠ w1.heap.size := by omega
    have HB2 : Hid (Below w.heap.size w (w1.alloc (.cells #[.pointer none, .slice none 0 0] 50))) := below_new HB1.out _
    go_wp2_with (go_at_call 21; go_must (refine (KE.out _ _ (HRw.out _ HB2.out) hwn.out (HTb.out.on HB2.out)).mono ?_; rintro e w2 ⟨rfl, hw, hk⟩; have HW2 : Hid (Wrt w.heap.size w1.heap.size x w2) := hw; have HB3 : Hid (Below w.heap.size w w2) := HB2.out.trans hk.bel; clear hw hk; refine Hid.out ?_))
    refine Lib.hid ?_
    have KS := Lib.hid (string_any w.heap.size w1.heap.size x w2 HW2.out)
    go_wp2_with (go_at_call 23; go_must (refine (KS.out).mono ?_; rintro e w3 ⟨rfl, hb⟩; have HB4 : Hid (Below w.heap.size w w3) := HB3.out.trans hb; clear hb))
    go_ret2
    exact ⟨rfl, HB4.out⟩
  | false =>
    rw [hr] at KR
    simp only [Bool.false_eq_true, if_false]
    clear hl hL hS hsm hr k1 ht HLi
    unfold agg at *
    go_enter Tryz.func10, Tryz.ntmps10
    go_wp2_with (go_at_call 16; go_must (refine (KR.out).mono ?_; rintro e w1 ⟨rfl, hb⟩; have HB1 : Hid (Below w.heap.size w w1) := HB0.out.trans (hb.mono HB0.out.size); clear hb))
    go_ret2
    exact ⟨rfl, HB1.out⟩
end Go.Proofs.YtfmjhbaenpbfoaaGreatDoor

namespace Go.Proofs.YtfmjhbaenpbfoaaGreatDoor
open Go.RowKit

theorem ba_size_of {z : ByteArray} {l : L8} (h : z = BA l) : z.size = l.length := by rw [h, ba_size]

set_option maxRecDepth 100000 in
set_option maxHeartbeats 1000000 in
theorem refRow_any (t : T) (hx : ∀ k, k ∈ t.kids → IsX k) (w : World) (ao : Option Addr) (c : Nat) (hl : Lies w.heap.size w t (.slice ao t.kids.length c)) (hlen : (rowX t.kids).length ≤ 140737488355328) :
    Calls Tryz.prog 73 #[.slice ao t.kids.length c] w (Sd (rowX t.kids) w) := by
  have HLi := Lib.hid hl
  have HX := Lib.hid hx
  have HL := Lib.hid hlen
  obtain ⟨ao', c', ps, he, k1⟩ := hl.out
  have hlm := k1.len64
  clear he k1 hl hx hlen
  obtain ⟨n, hn⟩ : ∃ n, n = t.kids.length := ⟨_, rfl⟩
  have HN := Lib.hid hn
  rw [← hn] at hlm HLi ⊢
  clear hn
  unfold Sd rowX
  unfold rowX at HL
  go_enter Tryz.func73, Tryz.ntmps73
  go_wp2_with fail
  go_loopw [3, 4] (fun sv i wr => ∃ (j : Nat) (b : ByteArray), j ≤ n ∧ i = .int .i64 j ∧ sv = .string b ∧ Hid (b = BA (commaL T.expr (t.kids.take j))) ∧ Hid (Below w.heap.size w wr)) (fun _ i _ => n - (intOf i).toNat)
  case atStart => exact ⟨0, _, Nat.zero_le _, rfl, rfl, by unfold Hid; rw [List.take_zero, commaL], Below.refl _ _⟩
  case round =>
    obtain ⟨j, b, hj, rfl, rfl, HBb, HB⟩ := hrel
    by_cases hlt : j < n
    · have hjn : (j : Int) < (n : Int) := by omega
      have hjl : j < t.kids.length := by rw [← HN.out]; exact hlt
      obtain ⟨ao', c', ps, he, k1⟩ := (HLi.out.up HB.out HB.out.size).out
      obtain ⟨sb, off, e1, hsb, hc⟩ := k1.kid (by omega)
      obtain ⟨u, hkc, hkl⟩ := hc j t.kids[j] (List.getElem?_eq_getElem hjl)
      injection he with he1 he2 he3
      subst he1 e1 he3
      have hle := commaL_take_le T.expr t.kids (j + 1)
      have HT : Hid (commaL T.expr (t.kids.take (j + 1)) = commaL T.expr (t.kids.take j) ++ (if j = 0 then [] else [44, 32]) ++ T.expr t.kids[j]) := commaL_take _ _ _ hjl
      rw [HT.out] at hle
      have hxq := HX.out _ (List.getElem_mem hjl)
      obtain ⟨d0, d1, d2, d3, d4⟩ := hkc
      have hbs := ba_size_of HBb.out
      have hb := HL.out
      have KF : Hid ((T.expr t.kids[j]).length ≤ 140737488355328 → Calls Tryz.prog 105 #[agg t.kids[j] u] wr (Sd t.kids[j].expr wr)) := fun hlen => rx_any _ hxq wr u hkl hlen
      clear hc he2 k1 hkl ps hxq
      generalize t.kids[j] = q at *
      generalize hyy : commaL T.expr (t.kids.take j) = y at *
      generalize q.expr = x at *
      obtain ⟨z, hz⟩ : ∃ z, z = BA x := ⟨_, rfl⟩
      have hzs := ba_size_of hz
      have HZ := Lib.hid hz
      unfold agg Sd at *
      clear hyy
      by_cases hj0 : j = 0
      · rw [if_pos hj0] at HT hle
        have hj1 : ¬ (0 : Int) < (j : Int) := by omega
        simp only [List.length_append, List.length_nil] at hle
        have KF2 := Lib.hid (KF.out (by omega))
        rw [← hz] at KF2
        have l1 : ¬ 9223372036854775807 < b.size + z.size := by omega
        clear hle hb hj0 hz hzs hbs KF
        go_wp2_with (go_at_call 105; go_must (refine (KF2.out).mono ?_; rintro e w1 ⟨rfl, hg⟩; have HBn := Lib.hid (HB.out.trans (hg.mono HB.out.size)); clear hg))
        clear KF2 d0 d1 d2 d3 d4 HB
        go_roundw
        case rel =>
          refine ⟨j + 1, _, by omega, by go_num, rfl, ?_, HBn⟩
          unfold Hid
          rw [HBb.out, HZ.out, HT.out]
          apply ByteArray.ext
          apply Array.ext'
          simp [ByteArray.data_append]
        case measure => simp [intOf]; omega
      · rw [if_neg hj0] at HT hle
        have hj1 : (0 : Int) < (j : Int) := by omega
        simp only [List.length_append, List.length_cons, List.length_nil] at hle
        have KF2 := Lib.hid (KF.out (by omega))
        rw [← hz] at KF2
        have l1 : ¬ 9223372036854775807 < b.size + 2 := by omega
        have l2 : ¬ 9223372036854775807 < b.size + 2 + z.size := by omega
        clear hle hb hj0 hz hzs hbs KF
        go_wp2_with (go_at_call 105; go_must (refine (KF2.out).mono ?_; rintro e w1 ⟨rfl, hg⟩; have HBn := Lib.hid (HB.out.trans (hg.mono HB.out.size)); clear hg))
        clear KF2 d0 d1 d2 d3 d4 HB
        go_roundw
        case rel =>
          refine ⟨j + 1, _, by omega, by go_num, rfl, ?_, HBn⟩
          unfold Hid
          rw [HBb.out, HZ.out, HT.out]
          apply ByteArray.ext
          apply Array.ext'
          simp [ByteArray.data_append]
        case measure => simp [intOf]; omega
    · obtain hjn : j = n := by omega
      have HR : Hid (b = BA (commaL T.expr t.kids)) := by
        have := HBb.out
        rw [hjn, HN.out, List.take_length] at this
        exact this
      have hjn' : ¬ (j : Int) < (n : Int) := by omega
      clear hjn
      go_wp2_with fail
      go_ret
      exact ⟨ret_str HR.out, HB.out⟩

set_option maxRecDepth 100000 in
set_option maxHeartbeats 1000000 in
theorem refPart_5 (t : T) (hk : t.kind = 5) (hp : IsPart t) (w : World) (v : Value) (hl : Lies w.heap.size w t v) (_ht : Tab w.heap.size w) (hlen : (partT t).length ≤ 140737488355328) :
    Calls Tryz.prog 44 #[agg t v] w (Sd (partT t) w) := by
  have hpt : partT t = t.tx ++ [40] ++ rowX t.kids ++ [41, 59] := by
    unfold partT
    rw [hk]
    rfl
  rw [hpt] at hlen ⊢
  obtain ⟨ao, c, ps, rfl, k1⟩ := hl.out
  have hlm := k1.len64
  have HB0 : Hid (Below w.heap.size w (w.alloc (.cells #[.int .u8 t.kind, .string t.text, .int .i64 t.num, .int .i64 t.pos, .slice ao t.kids.length c] 25))) := below_own _
  have KR : Hid ((rowX t.kids).length ≤ 140737488355328 → ∀ W, Below w.heap.size w W → Calls Tryz.prog 73 #[.slice ao t.kids.length c] W (Sd (rowX t.kids) W)) := fun hlen W hb => refRow_any t hp.kids W ao c (hl.up hb hb.size) hlen
  clear hl k1 hp hpt
  unfold agg Sd at *
  unfold T.tx at *
  have hts := tx_size t.text
  generalize rowX t.kids = x at *
  generalize t.kind = k at *
  subst hk
  generalize t.text = s at *
  simp only [List.length_append, List.length_cons, List.length_nil] at hlen
  obtain ⟨z, hz⟩ : ∃ z, z = BA x := ⟨_, rfl⟩
  have hzs := ba_size_of hz
  have HZ := Lib.hid hz
  have KR2 := Lib.hid (KR.out (by omega))
  rw [← hz] at KR2
  have l1 : ¬ 9223372036854775807 < s.size + 1 := by omega
  have l2 : ¬ 9223372036854775807 < s.size + 1 + z.size := by omega
  have l3 : ¬ 9223372036854775807 < s.size + 1 + z.size + 2 := by omega
  clear hlen hz hzs hts KR
  have mixed : Tryz.prog.follows .mixedOrders = true := by kernel_rfl
  go_enter Tryz.func44, Tryz.ntmps44
  go_upto_region 14 with fail
  have n1 : ∀ p : BelW (w.alloc (.cells #[.int .u8 5, .string s, .int .i64 t.num, .int .i64 t.pos, .slice ao t.kids.length c] 25)), ∀ j, p.w.cell? ⟨w.heap.size, j, none⟩ = (#[.int .u8 5, .string s, .int .i64 t.num, .int .i64 t.pos, .slice ao t.kids.length c] : Array Value)[j]? := fun p => one_bel p.h
  have HPb : Hid (∀ p : BelW (w.alloc (.cells #[.int .u8 5, .string s, .int .i64 t.num, .int .i64 t.pos, .slice ao t.kids.length c] 25)), Below w.heap.size w p.w) := fun p => HB0.out.trans (p.h.mono HB0.out.size)
  refine wp_region_quiet_bel (by assumption) (by kernel_rfl) ?_
  repeat (go_big_quiet_step ((go_at_call 73; go_must (exact (KR2.out _ (HPb.out _)).mono fun _ w' h => ⟨h.1, ⟨w', (BelW.h _).trans (h.2.mono (BelW.h _).size)⟩, rfl⟩))))
  refine wpQuiet_nil ?_
  rintro _ ⟨p, rfl⟩
  go_wp2_with fail
  go_ret
  refine ⟨ret_str ?_, HPb.out p⟩
  rw [HZ.out]
  apply ByteArray.ext
  apply Array.ext'
  simp [ByteArray.data_append]

set_option maxRecDepth 100000 in
set_option maxHeartbeats 1000000 in
theorem refPart_6 (t : T) (hk : t.kind = 6) (hp : IsPart t) (w : World) (v : Value) (hl : Lies w.heap.size w t v) (_ht : Tab w.heap.size w) (hlen : (partT t).length ≤ 140737488355328) :
    Calls Tryz.prog 44 #[agg t v] w (Sd (partT t) w) := by
  have hpt : partT t = [110, 111, 116, 32] ++ t.tx ++ [40] ++ rowX t.kids ++ [41, 59] := by
    unfold partT
    rw [hk]
    rfl
  rw [hpt] at hlen ⊢
  obtain ⟨ao, c, ps, rfl, k1⟩ := hl.out
  have hlm := k1.len64
  have HB0 : Hid (Below w.heap.size w (w.alloc (.cells #[.int .u8 t.kind, .string t.text, .int .i64 t.num, .int .i64 t.pos, .slice ao t.kids.length c] 25))) := below_own _
  have KR : Hid ((rowX t.kids).length ≤ 140737488355328 → ∀ W, Below w.heap.size w W → Calls Tryz.prog 73 #[.slice ao t.kids.length c] W (Sd (rowX t.kids) W)) := fun hlen W hb => refRow_any t hp.kids W ao c (hl.up hb hb.size) hlen
  clear hl k1 hp hpt
  unfold agg Sd at *
  unfold T.tx at *
  have hts := tx_size t.text
  generalize rowX t.kids = x at *
  generalize t.kind = k at *
  subst hk
  generalize t.text = s at *
  simp only [List.length_append, List.length_cons, List.length_nil] at hlen
  obtain ⟨z, hz⟩ : ∃ z, z = BA x := ⟨_, rfl⟩
  have hzs := ba_size_of hz
  have HZ := Lib.hid hz
  have KR2 := Lib.hid (KR.out (by omega))
  rw [← hz] at KR2
  have l1 : ¬ 9223372036854775807 < 4 + s.size := by omega
  have l2 : ¬ 9223372036854775807 < 4 + s.size + 1 := by omega
  have l3 : ¬ 9223372036854775807 < 4 + s.size + 1 + z.size := by omega
  have l4 : ¬ 9223372036854775807 < 4 + s.size + 1 + z.size + 2 := by omega
  clear hlen hz hzs hts KR
  have mixed : Tryz.prog.follows .mixedOrders = true := by kernel_rfl
  go_enter Tryz.func44, Tryz.ntmps44
  go_upto_region 3 with fail
  have n1 : ∀ p : BelW (w.alloc (.cells #[.int .u8 6, .string s, .int .i64 t.num, .int .i64 t.pos, .slice ao t.kids.length c] 25)), ∀ j, p.w.cell? ⟨w.heap.size, j, none⟩ = (#[.int .u8 6, .string s, .int .i64 t.num, .int .i64 t.pos, .slice ao t.kids.length c] : Array Value)[j]? := fun p => one_bel p.h
  have HPb : Hid (∀ p : BelW (w.alloc (.cells #[.int .u8 6, .string s, .int .i64 t.num, .int .i64 t.pos, .slice ao t.kids.length c] 25)), Below w.heap.size w p.w) := fun p => HB0.out.trans (p.h.mono HB0.out.size)
  refine wp_region_quiet_bel (by assumption) (by kernel_rfl) ?_
  repeat (go_big_quiet_step ((go_at_call 73; go_must (exact (KR2.out _ (HPb.out _)).mono fun _ w' h => ⟨h.1, ⟨w', (BelW.h _).trans (h.2.mono (BelW.h _).size)⟩, rfl⟩))))
  refine wpQuiet_nil ?_
  rintro _ ⟨p, rfl⟩
  go_wp2_with fail
  go_ret
  refine ⟨ret_str ?_, HPb.out p⟩
  rw [HZ.out]
  apply ByteArray.ext
  apply Array.ext'
  simp [ByteArray.data_append]

set_option maxRecDepth 100000 in
set_option maxHeartbeats 1000000 in
theorem refPart_7 (t : T) (hk : t.kind = 7) (hp : IsPart t) (w : World) (v : Value) (hl : Lies w.heap.size w t v) (_ht : Tab w.heap.size w) (hlen : (partT t).length ≤ 140737488355328) :
    Calls Tryz.prog 44 #[agg t v] w (Sd (partT t) w) := by
  have hpt : partT t = [116, 101, 115, 116, 32] ++ rowX t.kids ++ [59] := by
    unfold partT
    rw [hk]
    simp
  rw [hpt] at hlen ⊢
  obtain ⟨ao, c, ps, rfl, k1⟩ := hl.out
  have hlm := k1.len64
  have HB0 : Hid (Below w.heap.size w (w.alloc (.cells #[.int .u8 t.kind, .string t.text, .int .i64 t.num, .int .i64 t.pos, .slice ao t.kids.length c] 25))) := below_own _
  have KR : Hid ((rowX t.kids).length ≤ 140737488355328 → ∀ W, Below w.heap.size w W → Calls Tryz.prog 73 #[.slice ao t.kids.length c] W (Sd (rowX t.kids) W)) := fun hlen W hb => refRow_any t hp.kids W ao c (hl.up hb hb.size) hlen
  clear hl k1 hp hpt
  unfold agg Sd at *
  generalize rowX t.kids = x at *
  generalize t.kind = k at *
  subst hk
  generalize t.text = s at *
  simp only [List.length_append, List.length_cons, List.length_nil] at hlen
  obtain ⟨z, hz⟩ : ∃ z, z = BA x := ⟨_, rfl⟩
  have hzs := ba_size_of hz
  have HZ := Lib.hid hz
  have KR2 := Lib.hid (KR.out (by omega))
  rw [← hz] at KR2
  have l1 : ¬ 9223372036854775807 < 5 + z.size := by omega
  have l2 : ¬ 9223372036854775807 < 5 + z.size + 1 := by omega
  clear hlen hz hzs KR
  go_enter Tryz.func44, Tryz.ntmps44
  go_wp2_with (go_at_call 73; go_must (refine (KR2.out _ HB0.out).mono ?_; rintro e w1 ⟨rfl, hb⟩; have HB1 : Hid (Below w.heap.size w w1) := HB0.out.trans (hb.mono HB0.out.size); clear hb))
  go_ret
  refine ⟨ret_str ?_, HB1.out⟩
  rw [HZ.out]
  apply ByteArray.ext
  apply Array.ext'
  simp [ByteArray.data_append]

set_option maxRecDepth 100000 in
set_option maxHeartbeats 1000000 in
theorem refPart_8 (t : T) (hk : t.kind = 8) (hp : IsPart t) (w : World) (v : Value) (hl : Lies w.heap.size w t v) (_ht : Tab w.heap.size w) (hlen : (partT t).length ≤ 140737488355328) :
    Calls Tryz.prog 44 #[agg t v] w (Sd (partT t) w) := by
  have hpt : partT t = [97, 115, 115, 101, 114, 116, 32] ++ t.tx ++ [40] ++ rowX t.kids ++ [41, 59] := by
    unfold partT
    rw [hk]
    rfl
  rw [hpt] at hlen ⊢
  obtain ⟨ao, c, ps, rfl, k1⟩ := hl.out
  have hlm := k1.len64
  have HB0 : Hid (Below w.heap.size w (w.alloc (.cells #[.int .u8 t.kind, .string t.text, .int .i64 t.num, .int .i64 t.pos, .slice ao t.kids.length c] 25))) := below_own _
  have KR : Hid ((rowX t.kids).length ≤ 140737488355328 → ∀ W, Below w.heap.size w W → Calls Tryz.prog 73 #[.slice ao t.kids.length c] W (Sd (rowX t.kids) W)) := fun hlen W hb => refRow_any t hp.kids W ao c (hl.up hb hb.size) hlen
  clear hl k1 hp hpt
  unfold agg Sd at *
  unfold T.tx at *
  have hts := tx_size t.text
  generalize rowX t.kids = x at *
  generalize t.kind = k at *
  subst hk
  generalize t.text = s at *
  simp only [List.length_append, List.length_cons, List.length_nil] at hlen
  obtain ⟨z, hz⟩ : ∃ z, z = BA x := ⟨_, rfl⟩
  have hzs := ba_size_of hz
  have HZ := Lib.hid hz
  have KR2 := Lib.hid (KR.out (by omega))
  rw [← hz] at KR2
  have l1 : ¬ 9223372036854775807 < 7 + s.size := by omega
  have l2 : ¬ 9223372036854775807 < 7 + s.size + 1 := by omega
  have l3 : ¬ 9223372036854775807 < 7 + s.size + 1 + z.size := by omega
  have l4 : ¬ 9223372036854775807 < 7 + s.size + 1 + z.size + 2 := by omega
  clear hlen hz hzs hts KR
  have mixed : Tryz.prog.follows .mixedOrders = true := by kernel_rfl
  go_enter Tryz.func44, Tryz.ntmps44
  go_upto_region 7 with fail
  have n1 : ∀ p : BelW (w.alloc (.cells #[.int .u8 8, .string s, .int .i64 t.num, .int .i64 t.pos, .slice ao t.kids.length c] 25)), ∀ j, p.w.cell? ⟨w.heap.size, j, none⟩ = (#[.int .u8 8, .string s, .int .i64 t.num, .int .i64 t.pos, .slice ao t.kids.length c] : Array Value)[j]? := fun p => one_bel p.h
  have HPb : Hid (∀ p : BelW (w.alloc (.cells #[.int .u8 8, .string s, .int .i64 t.num, .int .i64 t.pos, .slice ao t.kids.length c] 25)), Below w.heap.size w p.w) := fun p => HB0.out.trans (p.h.mono HB0.out.size)
  refine wp_region_quiet_bel (by assumption) (by kernel_rfl) ?_
  repeat (go_big_quiet_step ((go_at_call 73; go_must (exact (KR2.out _ (HPb.out _)).mono fun _ w' h => ⟨h.1, ⟨w', (BelW.h _).trans (h.2.mono (BelW.h _).size)⟩, rfl⟩))))
  refine wpQuiet_nil ?_
  rintro _ ⟨p, rfl⟩
  go_wp2_with fail
  go_ret
  refine ⟨ret_str ?_, HPb.out p⟩
  rw [HZ.out]
  apply ByteArray.ext
  apply Array.ext'
  simp [ByteArray.data_append]

set_option maxRecDepth 100000 in
set_option maxHeartbeats 1000000 in
theorem refPart_9 (t : T) (hk : t.kind = 9) (hp : IsPart t) (w : World) (v : Value) (hl : Lies w.heap.size w t v) (ht : Tab w.heap.size w) (hlen : (partT t).length ≤ 140737488355328) :
    Calls Tryz.prog 44 #[agg t v] w (Sd (partT t) w) := by
  have hpt : partT t = [114, 101, 116, 114, 97, 99, 116, 32] ++ Lib.itoa t.num ++ [59] := by
    unfold partT
    rw [hk]
    simp
  rw [hpt] at hlen ⊢
  obtain ⟨ao, c, ps, rfl, k1⟩ := hl.out
  have hlm := k1.len64
  have HB0 : Hid (Below w.heap.size w (w.alloc (.cells #[.int .u8 t.kind, .string t.text, .int .i64 t.num, .int .i64 t.pos, .slice ao t.kids.length c] 25))) := below_own _
  have KI : Hid (Calls Tryz.prog 43 #[.int .i64 t.num] (w.alloc (.cells #[.int .u8 t.kind, .string t.text, .int .i64 t.num, .int .i64 t.pos, .slice ao t.kids.length c] 25)) fun e w' => e = .returned (.string (BA (Lib.itoa t.num))) ∧ Below (w.alloc (.cells #[.int .u8 t.kind, .string t.text, .int .i64 t.num, .int .i64 t.pos, .slice ao t.kids.length c] 25)).heap.size (w.alloc (.cells #[.int .u8 t.kind, .string t.text, .int .i64 t.num, .int .i64 t.pos, .slice ao t.kids.length c] 25)) w') := itoa_any _ _ (by have := hp.num hk; omega) (by have := hp.num hk; omega) (ht.on HB0.out).here
  clear hl k1 hp hpt ht
  unfold agg Sd at *
  generalize Lib.itoa t.num = x at *
  generalize t.kind = k at *
  subst hk
  generalize t.text = s at *
  simp only [List.length_append, List.length_cons, List.length_nil] at hlen
  obtain ⟨z, hz⟩ : ∃ z, z = BA x := ⟨_, rfl⟩
  have hzs := ba_size_of hz
  have HZ := Lib.hid hz
  rw [← hz] at KI
  have l1 : ¬ 9223372036854775807 < 8 + z.size := by omega
  have l2 : ¬ 9223372036854775807 < 8 + z.size + 1 := by omega
  clear hlen hz hzs
  go_enter Tryz.func44, Tryz.ntmps44
  go_wp2_with (go_at_call 43; go_must (refine (KI.out).mono ?_; rintro e w1 ⟨rfl, hb⟩; have HB1 : Hid (Below w.heap.size w w1) := HB0.out.trans (hb.mono HB0.out.size); clear hb))
  go_ret
  refine ⟨ret_str ?_, HB1.out⟩
  rw [HZ.out]
  apply ByteArray.ext
  apply Array.ext'
  simp [ByteArray.data_append]

set_option maxRecDepth 100000 in
set_option maxHeartbeats 1000000 in
theorem refPart_10 (t : T) (hk : t.kind = 10) (hp : IsPart t) (w : World) (v : Value) (hl : Lies w.heap.size w t v) (_ht : Tab w.heap.size w) (hlen : (partT t).length ≤ 140737488355328) :
    Calls Tryz.prog 44 #[agg t v] w (Sd (partT t) w) := by
  have hpt : partT t = [115, 97, 121, 32] ++ rowX t.kids ++ [59] := by
    unfold partT
    rw [hk]
    simp
  rw [hpt] at hlen ⊢
  obtain ⟨ao, c, ps, rfl, k1⟩ := hl.out
  have hlm := k1.len64
  have HB0 : Hid (Below w.heap.size w (w.alloc (.cells #[.int .u8 t.kind, .string t.text, .int .i64 t.num, .int .i64 t.pos, .slice ao t.kids.length c] 25))) := below_own _
  have KR : Hid ((rowX t.kids).length ≤ 140737488355328 → ∀ W, Below w.heap.size w W → Calls Tryz.prog 73 #[.slice ao t.kids.length c] W (Sd (rowX t.kids) W)) := fun hlen W hb => refRow_any t hp.kids W ao c (hl.up hb hb.size) hlen
  clear hl k1 hp hpt
  unfold agg Sd at *
  generalize rowX t.kids = x at *
  generalize t.kind = k at *
  subst hk
  generalize t.text = s at *
  simp only [List.length_append, List.length_cons, List.length_nil] at hlen
  obtain ⟨z, hz⟩ : ∃ z, z = BA x := ⟨_, rfl⟩
  have hzs := ba_size_of hz
  have HZ := Lib.hid hz
  have KR2 := Lib.hid (KR.out (by omega))
  rw [← hz] at KR2
  have l1 : ¬ 9223372036854775807 < 4 + z.size := by omega
  have l2 : ¬ 9223372036854775807 < 4 + z.size + 1 := by omega
  clear hlen hz hzs KR
  go_enter Tryz.func44, Tryz.ntmps44
  go_wp2_with (go_at_call 73; go_must (refine (KR2.out _ HB0.out).mono ?_; rintro e w1 ⟨rfl, hb⟩; have HB1 : Hid (Below w.heap.size w w1) := HB0.out.trans (hb.mono HB0.out.size); clear hb))
  go_ret
  refine ⟨ret_str ?_, HB1.out⟩
  rw [HZ.out]
  apply ByteArray.ext
  apply Array.ext'
  simp [ByteArray.data_append]

set_option maxRecDepth 100000 in
set_option maxHeartbeats 1000000 in
theorem refPart_11 (t : T) (hk : t.kind = 11) (_hp : IsPart t) (w : World) (v : Value) (hl : Lies w.heap.size w t v) (_ht : Tab w.heap.size w) (_hlen : (partT t).length ≤ 140737488355328) :
    Calls Tryz.prog 44 #[agg t v] w (Sd (partT t) w) := by
  have hpt : partT t = [104, 97, 108, 116, 59] := by
    unfold partT
    rw [hk]
    rfl
  rw [hpt]
  obtain ⟨ao, c, ps, rfl, k1⟩ := hl.out
  have hlm := k1.len64
  have HB0 : Hid (Below w.heap.size w (w.alloc (.cells #[.int .u8 t.kind, .string t.text, .int .i64 t.num, .int .i64 t.pos, .slice ao t.kids.length c] 25))) := below_own _
  clear hl k1 hpt
  unfold agg Sd at *
  generalize t.kind = k at *
  subst hk
  go_enter Tryz.func44, Tryz.ntmps44
  go_wp2_with fail
  go_ret
  exact ⟨rfl, HB0.out⟩

theorem refPart_any (t : T) (hp : IsPart t) (w : World) (v : Value) (hl : Lies w.heap.size w t v) (ht : Tab w.heap.size w) (hlen : (partT t).length ≤ 140737488355328) :
    Calls Tryz.prog 44 #[agg t v] w (Sd (partT t) w) := by
  rcases hp.kind with h | h | h | h | h | h | h
  · exact refPart_5 t h hp w v hl ht hlen
  · exact refPart_6 t h hp w v hl ht hlen
  · exact refPart_7 t h hp w v hl ht hlen
  · exact refPart_8 t h hp w v hl ht hlen
  · exact refPart_9 t h hp w v hl ht hlen
  · exact refPart_10 t h hp w v hl ht hlen
  · exact refPart_11 t h hp w v hl ht hlen
end Go.Proofs.YtfmjhbaenpbfoaaGreatDoor

namespace Go.Proofs.YtfmjhbaenpbfoaaGreatDoor
open Go.RowKit

abbrev cond7 (k : T) : Bool := condK k.kind
theorem filter_snoc (p : T → Bool) (l : List T) (j : Nat) (h : j < l.length) : (l.take (j + 1)).filter p = (l.take j).filter p ++ if p l[j] = true then [l[j]] else [] := by
  rw [take_snoc l j h, List.filter_append]
  by_cases hp : p l[j] = true
  · rw [if_pos hp, List.filter_cons_of_pos hp, List.filter_nil]
  · rw [if_neg hp, List.filter_cons_of_neg hp, List.filter_nil]
theorem eachT_append (f : T → L8) (e : L8) (l m : List T) : eachT f e (l ++ m) = eachT f e l ++ eachT f e m := by
  unfold eachT
  rw [List.flatMap_append]
theorem eachT_one (f : T → L8) (e : L8) (k : T) : eachT f e [k] = f k ++ e := by
  unfold eachT
  rw [List.flatMap_cons, List.flatMap_nil, List.append_nil]
theorem eachT_filter_le (f : T → L8) (e : L8) (p : T → Bool) : ∀ l : List T, (eachT f e (l.filter p)).length ≤ (eachT f e l).length
  | [] => Nat.le_refl _
  | k :: l => by
    have := eachT_filter_le f e p l
    have h2 : eachT f e (k :: l) = (f k ++ e) ++ eachT f e l := by
      have := eachT_append f e [k] l
      rwa [eachT_one] at this
    rw [h2, List.length_append]
    by_cases hp : p k = true
    · rw [List.filter_cons_of_pos hp]
      have h3 : eachT f e (k :: l.filter p) = (f k ++ e) ++ eachT f e (l.filter p) := by
        have := eachT_append f e [k] (l.filter p)
        rwa [eachT_one] at this
      rw [h3, List.length_append]
      omega
    · rw [List.filter_cons_of_neg hp]
      omega
theorem eachT_take_filter_le (f : T → L8) (e : L8) (p : T → Bool) (l : List T) (j : Nat) : (eachT f e ((l.take j).filter p)).length ≤ (eachT f e l).length :=
  Nat.le_trans (eachT_filter_le f e p _) (eachT_take_le f e l j)
theorem filter_all {p : T → Bool} {l : List T} (h : ∀ k, k ∈ l → p k = true) : l.filter p = l := List.filter_eq_self.2 h
theorem filter_none {p : T → Bool} {l : List T} (h : ∀ k, k ∈ l → p k = false) : l.filter p = [] := List.filter_eq_nil_iff.2 fun k hk => by rw [h k hk]; exact Bool.false_ne_true
theorem conds_filter (t : T) (h4 : t.kind = 4) (hd : IsDecl t) : t.kids.filter cond7 = t.kids.take (condsN t.kids) := by
  have h := List.take_append_drop (condsN t.kids) t.kids
  have h2 : t.kids.filter cond7 = (t.kids.take (condsN t.kids) ++ t.kids.drop (condsN t.kids)).filter cond7 := by rw [h]
  rw [h2, List.filter_append, filter_all (fun k hk => (hd.conds h4 k hk).2), filter_none (fun k hk => (hd.acts h4 k hk).2), List.append_nil]
theorem acts_filter (t : T) (h4 : t.kind = 4) (hd : IsDecl t) : t.kids.filter (fun k => !cond7 k) = t.kids.drop (condsN t.kids) := by
  have h := List.take_append_drop (condsN t.kids) t.kids
  have h2 : t.kids.filter (fun k => !cond7 k) = (t.kids.take (condsN t.kids) ++ t.kids.drop (condsN t.kids)).filter (fun k => !cond7 k) := by rw [h]
  rw [h2, List.filter_append, filter_none (fun k hk => by rw [show cond7 k = true from (hd.conds h4 k hk).2]; rfl), filter_all (fun k hk => by rw [show cond7 k = false from (hd.acts h4 k hk).2]; rfl), List.nil_append]
theorem parts_of (t : T) (h4 : t.kind = 4) (hd : IsDecl t) : ∀ k, k ∈ t.kids → IsPart k := fun k hk => by
  rw [← List.take_append_drop (condsN t.kids) t.kids] at hk
  rcases List.mem_append.1 hk with hk | hk
  · exact (hd.conds h4 k hk).1
  · exact (hd.acts h4 k hk).1

set_option maxRecDepth 100000 in
set_option maxHeartbeats 1000000 in
theorem refDecl_type (t : T) (hk : t.kind = 2) (w : World) (v : Value) (hl : Lies w.heap.size w t v) (hlen : (declT t).length ≤ 140737488355328) :
    Calls Tryz.prog 25 #[agg t v] w (Sd (declT t) w) := by
  have hpt : declT t = [102, 97, 99, 116, 32] ++ t.tx ++ [40] ++ commaL T.tx t.kids ++ [41, 59] := by
    unfold declT
    rw [if_pos hk]
  rw [hpt] at hlen ⊢
  obtain ⟨ao, c, ps, rfl, k1⟩ := hl.out
  have hlm := k1.len64
  have HLi := Lib.hid hl
  have HB0 : Hid (Below w.heap.size w (w.alloc (.cells #[.int .u8 t.kind, .string t.text, .int .i64 t.num, .int .i64 t.pos, .slice ao t.kids.length c] 25))) := below_own _
  simp only [List.length_append, List.length_cons, List.length_nil] at hlen
  have HL := Lib.hid hlen
  clear hl k1 hpt hlen
  have b4 : ∀ j, (w.alloc (.cells #[.int .u8 t.kind, .string t.text, .int .i64 t.num, .int .i64 t.pos, .slice ao t.kids.length c] 25)).cell? ⟨w.heap.size, j, none⟩ = (#[.int .u8 t.kind, .string t.text, .int .i64 t.num, .int .i64 t.pos, .slice ao t.kids.length c] : Array Value)[j]? := Lib.cell_of_heap (heap_alloc_new w _)
  have HB4 := Lib.hid b4
  clear b4
  have hts := tx_size t.text
  have l1 : ¬ 9223372036854775807 < 5 + t.text.size := by have := HL.out; unfold T.tx at this; omega
  have l2 : ¬ 9223372036854775807 < 5 + t.text.size + 1 := by have := HL.out; unfold T.tx at this; omega
  have HTS := Lib.hid hts
  clear hts
  unfold agg Sd at *
  generalize hkk : t.kind = k at *
  subst hk
  obtain ⟨n, hn⟩ : ∃ n, n = t.kids.length := ⟨_, rfl⟩
  have HN := Lib.hid hn
  rw [← hn] at HLi HB4 hlm HB0 ⊢
  clear hn hkk
  have hbw : w.heap.size < (w.alloc (.cells #[.int .u8 2, .string t.text, .int .i64 t.num, .int .i64 t.pos, .slice ao n c] 25)).heap.size := by simp
  go_enter Tryz.func25, Tryz.ntmps25
  go_wp2_with fail
  go_loop [3, 4] (fun sv i => ∃ (j : Nat) (b : ByteArray), j ≤ n ∧ i = .int .i64 j ∧ sv = .string b ∧ Hid (b = BA ([102, 97, 99, 116, 32] ++ t.tx ++ [40] ++ commaL T.tx (t.kids.take j)))) (fun _ i => n - (intOf i).toNat)
  case atStart =>
    refine ⟨0, _, Nat.zero_le _, rfl, rfl, ?_⟩
    unfold Hid
    rw [List.take_zero, commaL]
    apply ByteArray.ext
    apply Array.ext'
    simp [ByteArray.data_append]
  case round =>
    obtain ⟨j, b, hj, rfl, rfl, HBb⟩ := hrel
    by_cases hlt : j < n
    · have hjn : (j : Int) < (n : Int) := by omega
      have hjl : j < t.kids.length := by rw [← HN.out]; exact hlt
      obtain ⟨ao', c', ps, he, k1⟩ := (HLi.out.up HB0.out HB0.out.size).out
      obtain ⟨sb, off, e1, hsb, hc⟩ := k1.kid (by omega)
      obtain ⟨u, hkc, hkl⟩ := hc j t.kids[j] (List.getElem?_eq_getElem hjl)
      injection he with he1 he2 he3
      subst he1 e1 he3
      have hle := commaL_take_le T.tx t.kids (j + 1)
      have HT : Hid (commaL T.tx (t.kids.take (j + 1)) = commaL T.tx (t.kids.take j) ++ (if j = 0 then [] else [44, 32]) ++ T.tx t.kids[j]) := commaL_take _ _ _ hjl
      rw [HT.out] at hle
      obtain ⟨-, d1, -, -, -⟩ := hkc
      have hbs := ba_size_of HBb.out
      have hb := HL.out
      have c4 := HB4.out 4
      have hqs := tx_size t.kids[j].text
      clear hc he2 k1 hkl ps
      generalize t.kids[j] = q at *
      unfold T.tx at HT hle
      generalize q.text = qs at *
      simp only [List.length_append, List.length_cons, List.length_nil] at hbs
      by_cases hj0 : j = 0
      · rw [if_pos hj0] at HT hle
        have hj1 : ¬ (0 : Int) < (j : Int) := by omega
        simp only [List.length_append, List.length_nil] at hle
        have l3 : ¬ 9223372036854775807 < b.size + qs.size := by unfold T.tx at hbs hb; omega
        clear hle hb hj0 hbs hqs
        go_wp2_with fail
        clear d1 c4
        go_round
        case rel =>
          refine ⟨j + 1, _, by omega, by go_num, rfl, ?_⟩
          unfold Hid T.tx
          rw [HBb.out, HT.out]
          apply ByteArray.ext
          apply Array.ext'
          simp [ByteArray.data_append]
        case measure => simp [intOf]; omega
      · rw [if_neg hj0] at HT hle
        have hj1 : (0 : Int) < (j : Int) := by omega
        simp only [List.length_append, List.length_cons, List.length_nil] at hle
        have l3 : ¬ 9223372036854775807 < b.size + 2 := by unfold T.tx at hbs hb; omega
        have l4 : ¬ 9223372036854775807 < b.size + 2 + qs.size := by unfold T.tx at hbs hb; omega
        clear hle hb hj0 hbs hqs
        go_wp2_with fail
        clear d1 c4
        go_round
        case rel =>
          refine ⟨j + 1, _, by omega, by go_num, rfl, ?_⟩
          unfold Hid T.tx
          rw [HBb.out, HT.out]
          apply ByteArray.ext
          apply Array.ext'
          simp [ByteArray.data_append]
        case measure => simp [intOf]; omega
    · obtain hjn : j = n := by omega
      have HR : Hid (b = BA ([102, 97, 99, 116, 32] ++ t.tx ++ [40] ++ commaL T.tx t.kids)) := by
        have := HBb.out
        rw [hjn, HN.out, List.take_length] at this
        exact this
      have hbs := ba_size_of HR.out
      have l3 : ¬ 9223372036854775807 < b.size + 2 := by
        have hb := HL.out
        simp only [List.length_append, List.length_cons, List.length_nil] at hbs
        omega
      have hjn' : ¬ (j : Int) < (n : Int) := by omega
      have c4 := HB4.out 4
      clear hjn hbs
      go_wp2_with fail
      go_ret
      refine ⟨ret_str ?_, HB0.out⟩
      rw [HR.out]
      apply ByteArray.ext
      apply Array.ext'
      simp [ByteArray.data_append]

/-- A rule's text ahead of its conditions. -/
def headR (t : T) : L8 := [114, 117, 108, 101, 32] ++ t.tx ++ [32] ++ (if t.num = 0 then [] else [115, 97, 108, 105, 101, 110, 99, 101, 32] ++ Lib.itoa t.num ++ [32])
theorem declT_rule (t : T) (h4 : t.kind = 4) (hd : IsDecl t) : declT t = headR t ++ [123, 32] ++ eachT partT [32] (t.kids.filter cond7) ++ [61, 62, 32] ++ eachT partT [32] (t.kids.filter fun k => !cond7 k) ++ [125] := by
  unfold declT headR
  rw [if_neg (by omega), conds_filter t h4 hd, acts_filter t h4 hd]
  by_cases hz : t.num = 0
  · rw [if_pos hz, if_pos hz]
    simp
  · rw [if_neg hz, if_neg hz]
    simp
def Half7 (t : T) (j : Nat) (bc ba : ByteArray) : Prop := bc = BA (eachT partT [32] ((t.kids.take j).filter cond7)) ∧ ba = BA (eachT partT [32] ((t.kids.take j).filter fun k => !cond7 k))

set_option maxRecDepth 100000 in
set_option maxHeartbeats 2000000 in
theorem refRule_zero (t : T) (h4 : t.kind = 4) (hz : t.num = 0) (hd : IsDecl t) (w : World) (v : Value) (hl : Lies w.heap.size w t v) (ht : Tab w.heap.size w) (hlen : (declT t).length ≤ 140737488355328) :
    Calls Tryz.prog 25 #[agg t v] w (Sd (declT t) w) := by
  have hpt := declT_rule t h4 hd
  have hpa := parts_of t h4 hd
  have HHd : Hid (headR t = [114, 117, 108, 101, 32] ++ t.tx ++ [32]) := by
    unfold Hid headR
    rw [if_pos hz]
    simp
  have hef : (eachT partT [32] t.kids).length + (headR t).length ≤ 140737488355328 := by
    have e1 := congrArg (fun l => (eachT partT [32] l).length) (List.take_append_drop (condsN t.kids) t.kids)
    simp only [eachT_append, List.length_append] at e1
    rw [hpt, conds_filter t h4 hd, acts_filter t h4 hd] at hlen
    simp only [List.length_append, List.length_cons, List.length_nil] at hlen
    omega
  rw [hpt] at hlen ⊢
  simp only [List.length_append, List.length_cons, List.length_nil] at hlen
  have hnum := hd.num h4
  have HTb := Lib.hid ht
  have HEf := Lib.hid hef
  have HL := Lib.hid hlen
  obtain ⟨ao, c, ps, rfl, k1⟩ := hl.out
  have hlm := k1.len64
  have HLi := Lib.hid hl
  have HB0 : Hid (Below w.heap.size w (w.alloc (.cells #[.int .u8 t.kind, .string t.text, .int .i64 t.num, .int .i64 t.pos, .slice ao t.kids.length c] 25))) := below_own _
  have hhl : (headR t).length = 5 + t.text.size + 1 := by
    rw [HHd.out]
    have := tx_size t.text
    simp only [List.length_append, List.length_cons, List.length_nil]
    unfold T.tx; omega
  have HPa := Lib.hid hpa
  have HC0 : Hid (∀ j, (w.alloc (.cells #[.int .u8 t.kind, .string t.text, .int .i64 t.num, .int .i64 t.pos, .slice ao t.kids.length c] 25)).cell? ⟨w.heap.size, j, none⟩ = (#[.int .u8 t.kind, .string t.text, .int .i64 t.num, .int .i64 t.pos, .slice ao t.kids.length c] : Array Value)[j]?) := Lib.cell_of_heap (heap_alloc_new w _)
  have l1 : ¬ 9223372036854775807 < 5 + t.text.size := by omega
  have l2 : ¬ 9223372036854775807 < 5 + t.text.size + 1 := by omega
  have hzi : (t.num == 0) = true := by simp [hz]
  have hzn : (t.num != 0) = false := by simp [hz]
  have HHL := Lib.hid hhl
  clear hl k1 hpt hlen hef hpa hd ht hz hhl
  unfold agg Sd at *
  generalize t.kind = k at *
  subst h4
  obtain ⟨n, hn⟩ : ∃ n, n = t.kids.length := ⟨_, rfl⟩
  have HN := Lib.hid hn
  rw [← hn] at HLi HC0 hlm HB0 ⊢
  clear hn
  go_enter Tryz.func25, Tryz.ntmps25
  go_wp2_with fail
  have HX0 : Hid (Below w.heap.size w (w.alloc (.cells #[.int .u8 4, .string t.text, .int .i64 t.num, .int .i64 t.pos, .slice ao n c] 25))) := HB0
  have HD0 : Hid (Below (w.alloc (.cells #[.int .u8 4, .string t.text, .int .i64 t.num, .int .i64 t.pos, .slice ao n c] 25)).heap.size (w.alloc (.cells #[.int .u8 4, .string t.text, .int .i64 t.num, .int .i64 t.pos, .slice ao n c] 25)) (w.alloc (.cells #[.int .u8 4, .string t.text, .int .i64 t.num, .int .i64 t.pos, .slice ao n c] 25))) := Below.refl _ _
  go_loopw [6, 7, 8, 9] (fun vc va i _ wr => ∃ (j : Nat) (bc ba : ByteArray), j ≤ n ∧ i = .int .i64 j ∧ vc = .string bc ∧ va = .string ba ∧ Hid (Half7 t j bc ba) ∧ Hid (Below (w.alloc (.cells #[.int .u8 4, .string t.text, .int .i64 t.num, .int .i64 t.pos, .slice ao n c] 25)).heap.size (w.alloc (.cells #[.int .u8 4, .string t.text, .int .i64 t.num, .int .i64 t.pos, .slice ao n c] 25)) wr)) (fun _ _ i _ _ => n - (intOf i).toNat)
  case atStart =>
    refine ⟨0, _, _, Nat.zero_le _, rfl, rfl, rfl, ?_, HD0⟩
    unfold Hid Half7
    rw [List.take_zero]
    exact ⟨rfl, rfl⟩
  case round =>
    obtain ⟨j, bc, ba, hj, rfl, rfl, rfl, HH, HD⟩ := hrel
    have HB : Hid (Below w.heap.size w wr) := HB0.out.trans (HD.out.mono HB0.out.size)
    have b4 : wr.cell? ⟨w.heap.size, 4, none⟩ = some (.slice ao n c) := one_bel HD.out 4
    by_cases hlt : j < n
    · have hjn : (j : Int) < (n : Int) := by omega
      have hjl : j < t.kids.length := by rw [← HN.out]; exact hlt
      obtain ⟨ao', c', ps, he, k1⟩ := (HLi.out.up HB.out HB.out.size).out
      obtain ⟨sb, off, e1, hsb, hc⟩ := k1.kid (by omega)
      obtain ⟨u, hkc, hkl⟩ := hc j t.kids[j] (List.getElem?_eq_getElem hjl)
      injection he with he1 he2 he3
      subst he1 e1 he3
      obtain ⟨ka, kc, kps, rfl, kk⟩ := hkl.out
      have hpq := HPa.out _ (List.getElem_mem hjl)
      have HS1 : Hid ((t.kids.take (j + 1)).filter cond7 = (t.kids.take j).filter cond7 ++ if cond7 t.kids[j] = true then [t.kids[j]] else []) := filter_snoc _ _ _ hjl
      have HS2 : Hid ((t.kids.take (j + 1)).filter (fun k => !cond7 k) = (t.kids.take j).filter (fun k => !cond7 k) ++ if (!cond7 t.kids[j]) = true then [t.kids[j]] else []) := filter_snoc (fun k => !cond7 k) _ _ hjl
      have hm1 := eachT_take_filter_le partT [32] cond7 t.kids (j + 1)
      have hm2 := eachT_take_filter_le partT [32] (fun k => !cond7 k) t.kids (j + 1)
      obtain ⟨d0, d1, d2, d3, d4⟩ := hkc
      have hef := HEf.out
      have hbc := ba_size_of HH.out.1
      have hba := ba_size_of HH.out.2
      have hlw : sb < wr.heap.size := hsb
      have hsn : sb ≠ wr.heap.size := by omega
      have hwn : w.heap.size ≠ wr.heap.size := by have := HD.out.size; simp at this; omega
      generalize t.kids[j] = q at *
      have KF : Hid ((partT q).length ≤ 140737488355328 → ∀ W, Below wr.heap.size wr W → Calls Tryz.prog 44 #[agg q (.slice ka q.kids.length kc)] W (Sd (partT q) W)) := fun hlen W hb => refPart_any q hpq W _ (hkl.up hb hb.size) ((fun W' hb' => HTb.out W' ((HB.out.trans (hb.mono HB.out.size)).trans (hb'.mono (Nat.le_trans HB.out.size hb.size)))) : Tab W.heap.size W) hlen
      have HV : Hid (Below wr.heap.size wr (wr.alloc (.cells #[.int .u8 q.kind, .string q.text, .int .i64 q.num, .int .i64 q.pos, .slice ka q.kids.length kc] 25))) := below_own _
      clear hc he2 k1 hkl ps kps kk
      have hkd := hpq.kind
      cases hcd : cond7 q with
      | true =>
        rw [hcd] at HS1 HS2
        simp only [Bool.not_true, Bool.false_eq_true, if_false, if_true, List.append_nil] at HS1 HS2
        rw [HS1.out, eachT_append, eachT_one, List.length_append, List.length_append, ← hbc] at hm1
        have hq : q.kind = 5 ∨ q.kind = 6 ∨ q.kind = 7 := by
          unfold cond7 condK at hcd
          simp at hcd
          omega
        generalize hpx : partT q = x at *
        simp only [List.length_cons, List.length_nil] at hm1
        have KF2 := Lib.hid (KF.out (by omega))
        obtain ⟨z5, hz5⟩ : ∃ z5, z5 = BA x := ⟨_, rfl⟩
        have hzs5 := ba_size_of hz5
        have HZ5 := Lib.hid hz5
        have q1 : ¬ 9223372036854775807 < bc.size + z5.size := by omega
        have q2 : ¬ 9223372036854775807 < bc.size + z5.size + 1 := by omega
        have HN1 : Hid (Half7 t (j + 1) (bc ++ z5 ++ ⟨#[32]⟩) ba) := by
          unfold Hid Half7
          rw [HS1.out, HS2.out, eachT_append, eachT_one, hpx]
          refine ⟨?_, HH.out.2⟩
          rw [HH.out.1, hz5]
          apply ByteArray.ext
          apply Array.ext'
          simp [ByteArray.data_append]
        rw [show Sd x = fun w e w' => e = .returned (.string (BA x)) ∧ Below w.heap.size w w' from rfl, ← hz5] at KF2
        clear hm1 hm2 hef hbc hba hz5 hzs5 KF HS1 HS2 hcd hkd hpq hpx HH
        unfold agg at *
        generalize q.kids.length = m at *
        generalize q.kind = qk at *
        rcases hq with rfl | rfl | rfl <;>
        · go_wp2_with (go_at_call 44; go_must (refine (KF2.out _ HV.out).mono ?_; rintro e w2 ⟨rfl, hb⟩; have HDn : Hid (Below (w.alloc (.cells #[.int .u8 4, .string t.text, .int .i64 t.num, .int .i64 t.pos, .slice (some ⟨sb, off, none⟩) n c] 25)).heap.size (w.alloc (.cells #[.int .u8 4, .string t.text, .int .i64 t.num, .int .i64 t.pos, .slice (some ⟨sb, off, none⟩) n c] 25)) w2) := HD.out.trans ((HV.out.trans (hb.mono HV.out.size)).mono HD.out.size); clear hb))
          clear KF2 d0 d1 d2 d3 d4 HD HB b4 HV
          go_roundw
          case rel => exact ⟨j + 1, _, _, by omega, by go_num, rfl, rfl, HN1, HDn⟩
          case measure => simp [intOf]; omega
      | false =>
        rw [hcd] at HS1 HS2
        simp only [Bool.not_false, Bool.false_eq_true, if_false, if_true, List.append_nil] at HS1 HS2
        rw [HS2.out, eachT_append, eachT_one, List.length_append, List.length_append, ← hba] at hm2
        have hq : q.kind = 8 ∨ q.kind = 9 ∨ q.kind = 10 ∨ q.kind = 11 := by
          unfold cond7 condK at hcd
          simp at hcd
          omega
        generalize hpx : partT q = x at *
        simp only [List.length_cons, List.length_nil] at hm2
        have KF2 := Lib.hid (KF.out (by omega))
        obtain ⟨z5, hz5⟩ : ∃ z5, z5 = BA x := ⟨_, rfl⟩
        have hzs5 := ba_size_of hz5
        have HZ5 := Lib.hid hz5
        have q1 : ¬ 9223372036854775807 < ba.size + z5.size := by omega
        have q2 : ¬ 9223372036854775807 < ba.size + z5.size + 1 := by omega
        have HN1 : Hid (Half7 t (j + 1) bc (ba ++ z5 ++ ⟨#[32]⟩)) := by
          unfold Hid Half7
          rw [HS1.out, HS2.out, eachT_append, eachT_one, hpx]
          refine ⟨HH.out.1, ?_⟩
          rw [HH.out.2, hz5]
          apply ByteArray.ext
          apply Array.ext'
          simp [ByteArray.data_append]
        rw [show Sd x = fun w e w' => e = .returned (.string (BA x)) ∧ Below w.heap.size w w' from rfl, ← hz5] at KF2
        clear hm1 hm2 hef hbc hba hz5 hzs5 KF HS1 HS2 hcd hkd hpq hpx HH
        unfold agg at *
        generalize q.kids.length = m at *
        generalize q.kind = qk at *
        rcases hq with rfl | rfl | rfl | rfl <;>
        · go_wp2_with (go_at_call 44; go_must (refine (KF2.out _ HV.out).mono ?_; rintro e w2 ⟨rfl, hb⟩; have HDn : Hid (Below (w.alloc (.cells #[.int .u8 4, .string t.text, .int .i64 t.num, .int .i64 t.pos, .slice (some ⟨sb, off, none⟩) n c] 25)).heap.size (w.alloc (.cells #[.int .u8 4, .string t.text, .int .i64 t.num, .int .i64 t.pos, .slice (some ⟨sb, off, none⟩) n c] 25)) w2) := HD.out.trans ((HV.out.trans (hb.mono HV.out.size)).mono HD.out.size); clear hb))
          clear KF2 d0 d1 d2 d3 d4 HD HB b4 HV
          go_roundw
          case rel => exact ⟨j + 1, _, _, by omega, by go_num, rfl, rfl, HN1, HDn⟩
          case measure => simp [intOf]; omega
    · obtain hjn : j = n := by omega
      have hbc := HH.out.1
      have hba := HH.out.2
      rw [hjn, HN.out, List.take_length] at hbc hba
      have hsc := ba_size_of hbc
      have hsa := ba_size_of hba
      have HBc := Lib.hid hbc
      have HBa := Lib.hid hba
      have hl1 := HL.out
      have hl2 := HHL.out
      rw [← hsc, ← hsa] at hl1
      have hjn' : ¬ (j : Int) < (n : Int) := by omega
      have m0 : ¬ 9223372036854775807 < 5 + t.text.size + 1 + 2 := by omega
      have m1 : ¬ 9223372036854775807 < 5 + t.text.size + 1 + 2 + bc.size := by omega
      have m2 : ¬ 9223372036854775807 < 5 + t.text.size + 1 + 2 + bc.size + 3 := by omega
      have m3 : ¬ 9223372036854775807 < 5 + t.text.size + 1 + 2 + bc.size + 3 + ba.size := by omega
      have m4 : ¬ 9223372036854775807 < 5 + t.text.size + 1 + 2 + bc.size + 3 + ba.size + 1 := by omega
      clear hjn hbc hba hsc hsa hl1 hl2
      go_wp2_with fail
      go_ret
      refine ⟨ret_str ?_, HB.out⟩
      rw [HBc.out, HBa.out, HHd.out]
      apply ByteArray.ext
      apply Array.ext'
      simp [ByteArray.data_append]

set_option maxRecDepth 100000 in
set_option maxHeartbeats 2000000 in
theorem refRule_num (t : T) (h4 : t.kind = 4) (hz : ¬ t.num = 0) (hd : IsDecl t) (w : World) (v : Value) (hl : Lies w.heap.size w t v) (ht : Tab w.heap.size w) (hlen : (declT t).length ≤ 140737488355328) :
    Calls Tryz.prog 25 #[agg t v] w (Sd (declT t) w) := by
  have hpt := declT_rule t h4 hd
  have hpa := parts_of t h4 hd
  have HHd : Hid (headR t = [114, 117, 108, 101, 32] ++ t.tx ++ [32] ++ ([115, 97, 108, 105, 101, 110, 99, 101, 32] ++ Lib.itoa t.num ++ [32])) := by
    unfold Hid headR
    rw [if_neg hz]
    
  have hef : (eachT partT [32] t.kids).length + (headR t).length ≤ 140737488355328 := by
    have e1 := congrArg (fun l => (eachT partT [32] l).length) (List.take_append_drop (condsN t.kids) t.kids)
    simp only [eachT_append, List.length_append] at e1
    rw [hpt, conds_filter t h4 hd, acts_filter t h4 hd] at hlen
    simp only [List.length_append, List.length_cons, List.length_nil] at hlen
    omega
  rw [hpt] at hlen ⊢
  simp only [List.length_append, List.length_cons, List.length_nil] at hlen
  have hnum := hd.num h4
  have HTb := Lib.hid ht
  have HEf := Lib.hid hef
  have HL := Lib.hid hlen
  obtain ⟨ao, c, ps, rfl, k1⟩ := hl.out
  have hlm := k1.len64
  have HLi := Lib.hid hl
  have HB0 : Hid (Below w.heap.size w (w.alloc (.cells #[.int .u8 t.kind, .string t.text, .int .i64 t.num, .int .i64 t.pos, .slice ao t.kids.length c] 25))) := below_own _
  have KI : Hid (Calls Tryz.prog 43 #[.int .i64 t.num] (w.alloc (.cells #[.int .u8 t.kind, .string t.text, .int .i64 t.num, .int .i64 t.pos, .slice ao t.kids.length c] 25)) fun e w' => e = .returned (.string (BA (Lib.itoa t.num))) ∧ Below (w.alloc (.cells #[.int .u8 t.kind, .string t.text, .int .i64 t.num, .int .i64 t.pos, .slice ao t.kids.length c] 25)).heap.size (w.alloc (.cells #[.int .u8 t.kind, .string t.text, .int .i64 t.num, .int .i64 t.pos, .slice ao t.kids.length c] 25)) w') := itoa_any _ _ (by omega) (by omega) (HTb.out.on HB0.out).here
  have hhl : (headR t).length = 5 + t.text.size + 1 + (9 + (Lib.itoa t.num).length + 1) := by
    rw [HHd.out]
    have := tx_size t.text
    simp only [List.length_append, List.length_cons, List.length_nil]
    unfold T.tx; omega
  have HPa := Lib.hid hpa
  have HC0 : Hid (∀ j, (w.alloc (.cells #[.int .u8 t.kind, .string t.text, .int .i64 t.num, .int .i64 t.pos, .slice ao t.kids.length c] 25)).cell? ⟨w.heap.size, j, none⟩ = (#[.int .u8 t.kind, .string t.text, .int .i64 t.num, .int .i64 t.pos, .slice ao t.kids.length c] : Array Value)[j]?) := Lib.cell_of_heap (heap_alloc_new w _)
  obtain ⟨z, hzz⟩ : ∃ z, z = BA (Lib.itoa t.num) := ⟨_, rfl⟩
  have hzs := ba_size_of hzz
  have HZ := Lib.hid hzz
  rw [← hzz] at KI
  rw [← hzs] at hhl
  have l1 : ¬ 9223372036854775807 < 5 + t.text.size := by omega
  have l2 : ¬ 9223372036854775807 < 5 + t.text.size + 1 := by omega
  have l3 : ¬ 9223372036854775807 < 5 + t.text.size + 1 + 9 := by omega
  have l4 : ¬ 9223372036854775807 < 5 + t.text.size + 1 + 9 + z.size := by omega
  have l5 : ¬ 9223372036854775807 < 5 + t.text.size + 1 + 9 + z.size + 1 := by omega
  have hzi : (t.num == 0) = false := by simp [hz]
  have hzn : (t.num != 0) = true := by simp [hz]
  have HHL := Lib.hid hhl
  clear hl k1 hpt hlen hef hpa hd ht hz hhl hzz hzs
  unfold agg Sd at *
  generalize t.kind = k at *
  subst h4
  obtain ⟨n, hn⟩ : ∃ n, n = t.kids.length := ⟨_, rfl⟩
  have HN := Lib.hid hn
  rw [← hn] at HLi HC0 hlm HB0 KI ⊢
  clear hn
  go_enter Tryz.func25, Tryz.ntmps25
  go_wp2_with (go_at_call 43; go_must (refine (KI.out).mono ?_; rintro e w0 ⟨rfl, hb⟩; have HX0 : Hid (Below w.heap.size w w0) := HB0.out.trans (hb.mono HB0.out.size); have HD0 : Hid (Below (w.alloc (.cells #[.int .u8 4, .string t.text, .int .i64 t.num, .int .i64 t.pos, .slice ao n c] 25)).heap.size (w.alloc (.cells #[.int .u8 4, .string t.text, .int .i64 t.num, .int .i64 t.pos, .slice ao n c] 25)) w0) := hb; clear hb; refine Hid.out ?_))
  refine Lib.hid ?_
  go_wp2_with fail
  go_loopw [6, 7, 8, 9] (fun vc va i _ wr => ∃ (j : Nat) (bc ba : ByteArray), j ≤ n ∧ i = .int .i64 j ∧ vc = .string bc ∧ va = .string ba ∧ Hid (Half7 t j bc ba) ∧ Hid (Below (w.alloc (.cells #[.int .u8 4, .string t.text, .int .i64 t.num, .int .i64 t.pos, .slice ao n c] 25)).heap.size (w.alloc (.cells #[.int .u8 4, .string t.text, .int .i64 t.num, .int .i64 t.pos, .slice ao n c] 25)) wr)) (fun _ _ i _ _ => n - (intOf i).toNat)
  case atStart =>
    refine ⟨0, _, _, Nat.zero_le _, rfl, rfl, rfl, ?_, HD0⟩
    unfold Hid Half7
    rw [List.take_zero]
    exact ⟨rfl, rfl⟩
  case round =>
    obtain ⟨j, bc, ba, hj, rfl, rfl, rfl, HH, HD⟩ := hrel
    have HB : Hid (Below w.heap.size w wr) := HB0.out.trans (HD.out.mono HB0.out.size)
    have b4 : wr.cell? ⟨w.heap.size, 4, none⟩ = some (.slice ao n c) := one_bel HD.out 4
    by_cases hlt : j < n
    · have hjn : (j : Int) < (n : Int) := by omega
      have hjl : j < t.kids.length := by rw [← HN.out]; exact hlt
      obtain ⟨ao', c', ps, he, k1⟩ := (HLi.out.up HB.out HB.out.size).out
      obtain ⟨sb, off, e1, hsb, hc⟩ := k1.kid (by omega)
      obtain ⟨u, hkc, hkl⟩ := hc j t.kids[j] (List.getElem?_eq_getElem hjl)
      injection he with he1 he2 he3
      subst he1 e1 he3
      obtain ⟨ka, kc, kps, rfl, kk⟩ := hkl.out
      have hpq := HPa.out _ (List.getElem_mem hjl)
      have HS1 : Hid ((t.kids.take (j + 1)).filter cond7 = (t.kids.take j).filter cond7 ++ if cond7 t.kids[j] = true then [t.kids[j]] else []) := filter_snoc _ _ _ hjl
      have HS2 : Hid ((t.kids.take (j + 1)).filter (fun k => !cond7 k) = (t.kids.take j).filter (fun k => !cond7 k) ++ if (!cond7 t.kids[j]) = true then [t.kids[j]] else []) := filter_snoc (fun k => !cond7 k) _ _ hjl
      have hm1 := eachT_take_filter_le partT [32] cond7 t.kids (j + 1)
      have hm2 := eachT_take_filter_le partT [32] (fun k => !cond7 k) t.kids (j + 1)
      obtain ⟨d0, d1, d2, d3, d4⟩ := hkc
      have hef := HEf.out
      have hbc := ba_size_of HH.out.1
      have hba := ba_size_of HH.out.2
      have hlw : sb < wr.heap.size := hsb
      have hsn : sb ≠ wr.heap.size := by omega
      have hwn : w.heap.size ≠ wr.heap.size := by have := HD.out.size; simp at this; omega
      generalize t.kids[j] = q at *
      have KF : Hid ((partT q).length ≤ 140737488355328 → ∀ W, Below wr.heap.size wr W → Calls Tryz.prog 44 #[agg q (.slice ka q.kids.length kc)] W (Sd (partT q) W)) := fun hlen W hb => refPart_any q hpq W _ (hkl.up hb hb.size) ((fun W' hb' => HTb.out W' ((HB.out.trans (hb.mono HB.out.size)).trans (hb'.mono (Nat.le_trans HB.out.size hb.size)))) : Tab W.heap.size W) hlen
      have HV : Hid (Below wr.heap.size wr (wr.alloc (.cells #[.int .u8 q.kind, .string q.text, .int .i64 q.num, .int .i64 q.pos, .slice ka q.kids.length kc] 25))) := below_own _
      clear hc he2 k1 hkl ps kps kk
      have hkd := hpq.kind
      cases hcd : cond7 q with
      | true =>
        rw [hcd] at HS1 HS2
        simp only [Bool.not_true, Bool.false_eq_true, if_false, if_true, List.append_nil] at HS1 HS2
        rw [HS1.out, eachT_append, eachT_one, List.length_append, List.length_append, ← hbc] at hm1
        have hq : q.kind = 5 ∨ q.kind = 6 ∨ q.kind = 7 := by
          unfold cond7 condK at hcd
          simp at hcd
          omega
        generalize hpx : partT q = x at *
        simp only [List.length_cons, List.length_nil] at hm1
        have KF2 := Lib.hid (KF.out (by omega))
        obtain ⟨z5, hz5⟩ : ∃ z5, z5 = BA x := ⟨_, rfl⟩
        have hzs5 := ba_size_of hz5
        have HZ5 := Lib.hid hz5
        have q1 : ¬ 9223372036854775807 < bc.size + z5.size := by omega
        have q2 : ¬ 9223372036854775807 < bc.size + z5.size + 1 := by omega
        have HN1 : Hid (Half7 t (j + 1) (bc ++ z5 ++ ⟨#[32]⟩) ba) := by
          unfold Hid Half7
          rw [HS1.out, HS2.out, eachT_append, eachT_one, hpx]
          refine ⟨?_, HH.out.2⟩
          rw [HH.out.1, hz5]
          apply ByteArray.ext
          apply Array.ext'
          simp [ByteArray.data_append]
        rw [show Sd x = fun w e w' => e = .returned (.string (BA x)) ∧ Below w.heap.size w w' from rfl, ← hz5] at KF2
        clear hm1 hm2 hef hbc hba hz5 hzs5 KF HS1 HS2 hcd hkd hpq hpx HH
        unfold agg at *
        generalize q.kids.length = m at *
        generalize q.kind = qk at *
        rcases hq with rfl | rfl | rfl <;>
        · go_wp2_with (go_at_call 44; go_must (refine (KF2.out _ HV.out).mono ?_; rintro e w2 ⟨rfl, hb⟩; have HDn : Hid (Below (w.alloc (.cells #[.int .u8 4, .string t.text, .int .i64 t.num, .int .i64 t.pos, .slice (some ⟨sb, off, none⟩) n c] 25)).heap.size (w.alloc (.cells #[.int .u8 4, .string t.text, .int .i64 t.num, .int .i64 t.pos, .slice (some ⟨sb, off, none⟩) n c] 25)) w2) := HD.out.trans ((HV.out.trans (hb.mono HV.out.size)).mono HD.out.size); clear hb))
          clear KF2 d0 d1 d2 d3 d4 HD HB b4 HV
          go_roundw
          case rel => exact ⟨j + 1, _, _, by omega, by go_num, rfl, rfl, HN1, HDn⟩
          case measure => simp [intOf]; omega
      | false =>
        rw [hcd] at HS1 HS2
        simp only [Bool.not_false, Bool.false_eq_true, if_false, if_true, List.append_nil] at HS1 HS2
        rw [HS2.out, eachT_append, eachT_one, List.length_append, List.length_append, ← hba] at hm2
        have hq : q.kind = 8 ∨ q.kind = 9 ∨ q.kind = 10 ∨ q.kind = 11 := by
          unfold cond7 condK at hcd
          simp at hcd
          omega
        generalize hpx : partT q = x at *
        simp only [List.length_cons, List.length_nil] at hm2
        have KF2 := Lib.hid (KF.out (by omega))
        obtain ⟨z5, hz5⟩ : ∃ z5, z5 = BA x := ⟨_, rfl⟩
        have hzs5 := ba_size_of hz5
        have HZ5 := Lib.hid hz5
        have q1 : ¬ 9223372036854775807 < ba.size + z5.size := by omega
        have q2 : ¬ 9223372036854775807 < ba.size + z5.size + 1 := by omega
        have HN1 : Hid (Half7 t (j + 1) bc (ba ++ z5 ++ ⟨#[32]⟩)) := by
          unfold Hid Half7
          rw [HS1.out, HS2.out, eachT_append, eachT_one, hpx]
          refine ⟨HH.out.1, ?_⟩
          rw [HH.out.2, hz5]
          apply ByteArray.ext
          apply Array.ext'
          simp [ByteArray.data_append]
        rw [show Sd x = fun w e w' => e = .returned (.string (BA x)) ∧ Below w.heap.size w w' from rfl, ← hz5] at KF2
        clear hm1 hm2 hef hbc hba hz5 hzs5 KF HS1 HS2 hcd hkd hpq hpx HH
        unfold agg at *
        generalize q.kids.length = m at *
        generalize q.kind = qk at *
        rcases hq with rfl | rfl | rfl | rfl <;>
        · go_wp2_with (go_at_call 44; go_must (refine (KF2.out _ HV.out).mono ?_; rintro e w2 ⟨rfl, hb⟩; have HDn : Hid (Below (w.alloc (.cells #[.int .u8 4, .string t.text, .int .i64 t.num, .int .i64 t.pos, .slice (some ⟨sb, off, none⟩) n c] 25)).heap.size (w.alloc (.cells #[.int .u8 4, .string t.text, .int .i64 t.num, .int .i64 t.pos, .slice (some ⟨sb, off, none⟩) n c] 25)) w2) := HD.out.trans ((HV.out.trans (hb.mono HV.out.size)).mono HD.out.size); clear hb))
          clear KF2 d0 d1 d2 d3 d4 HD HB b4 HV
          go_roundw
          case rel => exact ⟨j + 1, _, _, by omega, by go_num, rfl, rfl, HN1, HDn⟩
          case measure => simp [intOf]; omega
    · obtain hjn : j = n := by omega
      have hbc := HH.out.1
      have hba := HH.out.2
      rw [hjn, HN.out, List.take_length] at hbc hba
      have hsc := ba_size_of hbc
      have hsa := ba_size_of hba
      have HBc := Lib.hid hbc
      have HBa := Lib.hid hba
      have hl1 := HL.out
      have hl2 := HHL.out
      rw [← hsc, ← hsa] at hl1
      have hjn' : ¬ (j : Int) < (n : Int) := by omega
      have m0 : ¬ 9223372036854775807 < 5 + t.text.size + 1 + 9 + z.size + 1 + 2 := by omega
      have m1 : ¬ 9223372036854775807 < 5 + t.text.size + 1 + 9 + z.size + 1 + 2 + bc.size := by omega
      have m2 : ¬ 9223372036854775807 < 5 + t.text.size + 1 + 9 + z.size + 1 + 2 + bc.size + 3 := by omega
      have m3 : ¬ 9223372036854775807 < 5 + t.text.size + 1 + 9 + z.size + 1 + 2 + bc.size + 3 + ba.size := by omega
      have m4 : ¬ 9223372036854775807 < 5 + t.text.size + 1 + 9 + z.size + 1 + 2 + bc.size + 3 + ba.size + 1 := by omega
      clear hjn hbc hba hsc hsa hl1 hl2
      go_wp2_with fail
      go_ret
      refine ⟨ret_str ?_, HB.out⟩
      rw [HBc.out, HBa.out, HHd.out, HZ.out]
      apply ByteArray.ext
      apply Array.ext'
      simp [ByteArray.data_append]

theorem refDecl_any (t : T) (hd : IsDecl t) (w : World) (v : Value) (hl : Lies w.heap.size w t v) (ht : Tab w.heap.size w) (hlen : (declT t).length ≤ 140737488355328) :
    Calls Tryz.prog 25 #[agg t v] w (Sd (declT t) w) := by
  rcases hd.kind with hk | hk
  · exact refDecl_type t hk w v hl hlen
  · by_cases hz : t.num = 0
    · exact refRule_zero t hk hz hd w v hl ht hlen
    · exact refRule_num t hk hz hd w v hl ht hlen
end Go.Proofs.YtfmjhbaenpbfoaaGreatDoor
