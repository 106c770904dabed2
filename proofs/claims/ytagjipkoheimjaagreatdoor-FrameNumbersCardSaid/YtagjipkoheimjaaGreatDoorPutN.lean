/- A writer puts a number. -/
import Derived.Test.YtagjipkoheimjaaGreatDoorWrite
namespace Go.Proofs.YtagjipkoheimjaaGreatDoor
open Go.RowKit

/-- Bytes are put that lie in a block of another kind. -/
theorem putRow (B b : Nat) (bs : List UInt8) (sb off : Nat) (l : List UInt8) (c : Nat) (w : World) (h : Wr w B b bs) (hne : sb ≠ b) (hc : ∀ j v, (bcells l)[j]? = some v → w.cell? ⟨sb, off + j, none⟩ = some v) (hl : bs.length + l.length ≤ 140737488355328) :
    Calls Tryz.prog 45 #[.pointer (some ⟨b, 0, none⟩), .slice (some ⟨sb, off, none⟩) l.length c] w fun e w' => e = .returned (.tuple #[.int .i64 l.length, .nilIface]) ∧ Wr w' B b (bs ++ l) ∧ WFr B b w w' := by
  refine (Tryz.Buffer_Write_at 55 (fun _ => none) B b 0 (bcells bs) (bcells l) ⟨sb, off, none⟩ l.length c w h h.le (Lib.byteCells_one bs) (by rw [bcells_length]) hne (fun j v hv => by rw [Addr.add_lit]; exact hc j v hv) (Lib.byteCells_one _) (by rw [bcells_length]; exact hl)).mono ?_
  rintro e w' ⟨rfl, h1, h2, h3⟩
  refine ⟨rfl, ?_, h2, h3⟩
  unfold Wr
  rw [bcells_append]
  exact h1

abbrev b4 (n : Nat) : Array Value := #[.int .u8 ((n : Int) / 16777216), .int .u8 ((n : Int) / 65536 % 256), .int .u8 ((n : Int) / 256 % 256), .int .u8 ((n : Int) % 256)]
theorem b4_cells (n : Nat) (hn : n < 4294967296) : bcells (be4 n) = (b4 n).toList := by
  have e : (((n / 16777216 % 256 : Nat)) : Int) = (n : Int) / 16777216 := by omega
  simp only [be4, Lib.byteCells, List.map_cons, List.map_nil, UInt8.toNat_ofNat']
  rw [show (2 : Nat) ^ 8 = 256 from rfl, e]
  rfl

theorem bytesOf_any (n : Nat) (hn : n < 4294967296) (w : World) :
    Calls Tryz.prog 77 #[.int .u32 n] w fun e w' => e = .returned (.agg (b4 n)) ∧ Gr w w' := by
  have HG := Lib.hid ((Gr.refl w).alloc (.cells (b4 n) 135))
  go_enter Tryz.func77, Tryz.ntmps77
  go_wp2_with fail
  exact bodyPost_ret (v := .agg (b4 n)) (by simp [results, Tryz.results77, go_sem]) rfl ⟨rfl, HG.out⟩

set_option maxRecDepth 100000 in
set_option maxHeartbeats 1000000 in
theorem putNum (B b : Nat) (bs : List UInt8) (n : Nat) (hn : n < 4294967296) (w : World) (h : Wr w B b bs) (hl : bs.length + 4 ≤ 140737488355328) :
    Calls Tryz.prog 42 #[.pointer (some ⟨b, 0, none⟩), .int .u32 n] w (PutP (bs ++ be4 n) B b w) := by
  have HBy := Lib.hid (bytesOf_any n hn w)
  have HC := Lib.hid (b4_cells n hn)
  have HW := Lib.hid h
  have HL := Lib.hid hl
  have hlt : b < w.heap.size := h.lt
  have HB := Lib.hid h.le
  unfold b4 at HBy HC
  clear h hl
  generalize (n : Int) / 16777216 = x1 at *
  generalize (n : Int) / 65536 % 256 = x2 at *
  generalize (n : Int) / 256 % 256 = x3 at *
  generalize (n : Int) % 256 = x4 at *
  go_enter Tryz.func42, Tryz.ntmps42
  go_wp2_with (go_at_call 77; refine (HBy.out).mono ?_; rintro e w1 ⟨rfl, hg⟩; refine Hid.out ?_)
  have HW1 : Hid (Wr (w1.alloc (.cells #[.int .u8 x1, .int .u8 x2, .int .u8 x3, .int .u8 x4] 135)).drew B b bs) := ((LibA.IsBuffer.old HW.out hg.below).alloc _).drew
  have hlt1 : b < w1.heap.size := Nat.lt_of_lt_of_le hlt hg.below.size
  have HF1 : Hid (WFr B b w w1) := ⟨(hg.below.mono HB.out), fun k o hk _ _ => (hg.below.block k (lt_of_heap hk)).trans hk⟩
  have HP : Hid (Calls Tryz.prog 45 #[.pointer (some ⟨b, 0, none⟩), .slice (some ⟨w1.heap.size, 0, none⟩) 4 4] (w1.alloc (.cells #[.int .u8 x1, .int .u8 x2, .int .u8 x3, .int .u8 x4] 135)).drew fun e w' => e = .returned (.tuple #[.int .i64 4, .nilIface]) ∧ Wr w' B b (bs ++ be4 n) ∧ WFr B b (w1.alloc (.cells #[.int .u8 x1, .int .u8 x2, .int .u8 x3, .int .u8 x4] 135)).drew w') :=
    putRow B b bs w1.heap.size 0 (be4 n) 4 _ HW1.out (by omega) (fun j v hv => by
      rw [Nat.zero_add]
      rw [HC.out] at hv
      exact cells_made w1 _ _ j v (by simpa using hv)) (by rw [be4_length]; exact HL.out)
  clear hg HW HBy HC
  refine Lib.hid ?_
  go_wp2_with fail
  go_region_with (go_at_call 45; refine (HP.out).mono ?_; rintro e w2 ⟨rfl, h1, h2⟩; have H1 := Lib.hid h1; have H2 := Lib.hid h2; clear h1 h2)
  all_goals
    go_wp2
    first | go_end0 | go_ret
    exact ⟨rfl, H1.out, (HF1.out.alloc (Nat.le_trans HB.out HF1.out.size) _).drew.trans H2.out⟩
end Go.Proofs.YtagjipkoheimjaaGreatDoor
