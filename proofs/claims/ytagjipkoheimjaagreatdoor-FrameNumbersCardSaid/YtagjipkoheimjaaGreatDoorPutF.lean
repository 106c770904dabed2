/- A writer puts a frame. -/
import Derived.Test.YtagjipkoheimjaaGreatDoorPutN
namespace Go.Proofs.YtagjipkoheimjaaGreatDoor
open Go.RowKit

theorem wkeep {B b : Nat} {w1 w2 : World} {cs : Array Value} {t : TypeId} {g : Nat} (h : w1.heap[g]? = some (.cells cs t (0, 0))) (f : WFr B b w1 w2) (ne : g ≠ b) (ht : t ≠ 5) : w2.heap[g]? = some (.cells cs t (0, 0)) := f.keep h ne ht

theorem frB_split (f : FR) (bs : List UInt8) : bs ++ frB f = bs ++ be4 f.2.length ++ [octI f.1] ++ be4 (sumF f) ++ f.2 := by
  unfold frB
  simp

set_option maxRecDepth 100000 in
set_option maxHeartbeats 2000000 in
theorem putFrame (B b : Nat) (bs : List UInt8) (f : FR) (hok : faultF f = 0) (ao : Option Addr) (c : Nat) (w : World) (h : Wr w B b bs) (hs : SlG B w ao (bcells f.2)) (hl : bs.length + (frB f).length ≤ 140737488355328) :
    Calls Tryz.prog 27 #[.pointer (some ⟨b, 0, none⟩), .agg #[.int .i64 f.1, .slice ao f.2.length c]] w (PutP (bs ++ frB f) B b w) := by
  rw [frB_split]
  obtain ⟨k, d⟩ := f
  obtain ⟨k0, k1, hd1⟩ := fault_ok hok
  rw [frB_length] at hl
  simp only at k0 k1 hd1 hs hl ⊢
  have HK := Lib.hid (And.intro k0 k1)
  have hku : IntKind.u8.wrap k = k := by rw [IntKind.wrap_u8']; omega
  have hdu : IntKind.u32.wrap (d.length : Int) = (d.length : Int) := by rw [IntKind.wrap_u32']; omega
  have hlt := h.lt
  have hB := h.le
  have HS := Lib.hid hs
  have HOct := Lib.hid (oct_toNat k ⟨k0, k1⟩)
  have C1 := Lib.hid (putNum B b bs d.length (by omega) _ (h.alloc (.cells #[.int .i64 k, .slice ao d.length c] 44)) (by omega))
  have C2 := Lib.hid (fun W hw => putByte B b (bs ++ be4 d.length) (octI k) k HOct.out.symm W hw (by rw [List.length_append, be4_length]; omega))
  have C3 := Lib.hid (fun (W : World) (hx : SlG B W ao (bcells d)) (hBW : B ≤ W.heap.size) => sumOf_any (k, d) ⟨k0, k1⟩ ao c (by simp only; omega) W (hx.up (Below.refl _ _) hBW))
  have C4 := Lib.hid (fun W hw => putNum B b (bs ++ be4 d.length ++ [octI k]) (sumF (k, d)) (sumN_lt _) W hw (by rw [List.length_append, List.length_append, be4_length, List.length_singleton]; omega))
  have C5 := Lib.hid (fun W hw hx => putPart B b (bs ++ be4 d.length ++ [octI k] ++ be4 (sumF (k, d))) ao d c W hw hx (by simp only [List.length_append, be4_length, List.length_singleton]; omega))
  have HF0 : Hid (WFr B b w (w.alloc (.cells #[.int .i64 k, .slice ao d.length c] 44))) := (WFr.refl B b w).alloc hB _
  have hne : w.heap.size ≠ b := by omega
  have blk0 : Hid ((w.alloc (.cells #[.int .i64 k, .slice ao d.length c] 44)).heap[w.heap.size]? = some (.cells #[.int .i64 k, .slice ao d.length c] 44 (0, 0))) := heap_alloc_new w _
  obtain ⟨s, hsum⟩ : ∃ s, s = sumF (k, d) := ⟨_, rfl⟩
  rw [← hsum] at C3 C4 C5 ⊢
  clear h hs hl hsum hok k0 k1
  go_enter Tryz.func27, Tryz.ntmps27
  go_wp2_with (go_at_call 42; refine (C1.out).mono ?_; rintro e w1 ⟨rfl, h1, h2⟩; refine Hid.out ?_)
  have W1 := Lib.hid h1
  have F1 := Lib.hid (HF0.out.trans h2)
  have blk1 := Lib.hid (wkeep blk0.out h2 hne (by decide))
  have b0 : ∀ j, w1.cell? ⟨w.heap.size, j, none⟩ = (#[.int .i64 k, .slice ao d.length c] : Array Value)[j]? := fun j => Lib.cell_of_heap blk1.out j
  clear h1 h2 C1 HF0 blk0
  refine Lib.hid ?_
  go_wp2_with fail
  go_region_with (go_at_call 43; refine (C2.out _ ?_).mono ?_; (first | exact W1.out | exact W1.out.drew); rintro e w2 ⟨rfl, h1, h2⟩; have W2 := Lib.hid h1; have F2 := Lib.hid (F1.out.trans ((WFr.refl B b _).drew.trans h2)); have blk2 := Lib.hid (wkeep (show w1.drew.heap[w.heap.size]? = _ from blk1.out) h2 hne (by decide)); clear h1 h2)
  all_goals
    have b2 : ∀ j, w2.cell? ⟨w.heap.size, j, none⟩ = (#[.int .i64 k, .slice ao d.length c] : Array Value)[j]? := fun j => Lib.cell_of_heap blk2.out j
    clear W1 F1 blk1 b0 C2
    go_wp2_with (first
      | (go_at_call 44; refine (C3.out _ (HS.out.below F2.out.bel) (Nat.le_trans hB F2.out.size)).mono ?_; rintro e w3 ⟨rfl, hg⟩; have W3 := Lib.hid (LibA.IsBuffer.old W2.out hg.below); have F3 : Hid (WFr B b w w3) := F2.out.trans ⟨hg.below.mono (Nat.le_trans hB F2.out.size), fun k o hk _ _ => (hg.below.block k (lt_of_heap hk)).trans hk⟩; have blk3 := Lib.hid ((hg.below.block _ (lt_of_heap blk2.out)).trans blk2.out); clear hg)
      | (go_at_call 42; refine (C4.out _ W3.out).mono ?_; rintro e w4 ⟨rfl, h1, h2⟩; have W4 := Lib.hid h1; have F4 := Lib.hid (F3.out.trans h2); have blk4 := Lib.hid (wkeep blk3.out h2 hne (by decide)); have b4 : ∀ j, w4.cell? ⟨w.heap.size, j, none⟩ = (#[.int .i64 k, .slice ao d.length c] : Array Value)[j]? := (fun j => Lib.cell_of_heap blk4.out j); clear h1 h2))
    clear W2 F2 blk2 b2 W3 F3 blk3 C3 C4
    go_region_with (go_at_call 45; refine (C5.out _ ?_ (HS.out.below (F4.out.bel.drew))).mono ?_; (first | exact W4.out | exact W4.out.drew); rintro e w5 ⟨rfl, h1, h2⟩; have W5 := Lib.hid h1; have F5 := Lib.hid (F4.out.drew.trans h2); clear h1 h2)
    all_goals
      go_wp2
      first | go_end0 | go_ret
      exact ⟨rfl, W5.out, F5.out⟩
end Go.Proofs.YtagjipkoheimjaaGreatDoor
