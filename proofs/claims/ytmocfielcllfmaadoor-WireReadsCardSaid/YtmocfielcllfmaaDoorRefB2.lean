/- The document's reader: the next bytes (at the end of its row). -/
import Derived.Test.YtmocfielcllfmaaDoorRefA
namespace Go.Proofs.YtmocfielcllfmaaDoor
open Go.RowKit

set_option maxRecDepth 100000 in
set_option maxHeartbeats 4000000 in
theorem rgood2 (D B : Nat) (ad : Addr) (l0 : List UInt8) (w : World) (h : RfS w D B (some ad) l0 l0.length ([], false)) (h1 : w.heap[D]? = some (.cells #[.slice (some ad) l0.length l0.length, .int .i64 l0.length, .bool false] 35 (0, 0))) :
    Calls Tryd.prog 97 #[.pointer (some ⟨D, 0, none⟩), .int .i64 0] w (RbP ([], ([], false)) D B (some ad) l0 l0.length w) := by
  have mixed : Tryd.prog.follows .mixedOrders = true := by kernel_rfl
  have c0 : w.cell? ⟨D, 0, none⟩ = some (.slice (some ad) l0.length l0.length) := Lib.cell_of_heap h1 0
  have c1 : w.cell? ⟨D, 1, none⟩ = some (.int .i64 l0.length) := Lib.cell_of_heap h1 1
  have c2 : w.cell? ⟨D, 2, none⟩ = some (.bool false) := Lib.cell_of_heap h1 2
  have HGood : Hid (∀ W, Below w.heap.size w W → RfS (W.setCell ⟨D, 1, none⟩ (.int .i64 l0.length)) D B (some ad) l0 l0.length ([], false) ∧ Fr D w (W.setCell ⟨D, 1, none⟩ (.int .i64 l0.length))) := fun W hW => by
    have hD := (hW.block D h.lt).trans h1
    have hs := Lib.heap_setCell_same (i := 1) hD (.int .i64 l0.length)
    exact ⟨⟨⟨l0.length, false, hs, by simp, by simp⟩, (h.row.below (hW.mono h.lb)).below ((Below.refl _ _).setCell (p := ⟨D, 1, none⟩) h.ld _), h.nil, h.cap, h.big, h.capm, h.ld, by simp [World.setCell]; exact Nat.le_trans h.lb hW.size⟩, (Fr.of_below hW).set 1 _⟩
  have HK9 : Hid (∀ W, Below w.heap.size w W → W.cell? ⟨D, 1, none⟩ = some (.int .i64 l0.length) ∧ W.frozen? ⟨D, 1, none⟩ = false) := fun W hW =>
    ⟨Lib.cell_of_heap ((hW.block D h.lt).trans h1) 1, Lib.frozen_of_heap ((hW.block D h.lt).trans h1) 1⟩
  have HDl := Lib.hid h.lt
  have ha0 : ∀ q o, ((w.drewN q).alloc o).cell? ⟨D, 0, none⟩ = some (.slice (some ad) l0.length l0.length) := fun q o => (((RowKit_drewN (Below.refl w.heap.size w) q).alloc (Nat.le_refl _) o).cell (p := ⟨D, 0, none⟩) h.lt).trans c0
  have ha1 : ∀ q o, ((w.drewN q).alloc o).cell? ⟨D, 1, none⟩ = some (.int .i64 l0.length) := fun q o => (((RowKit_drewN (Below.refl w.heap.size w) q).alloc (Nat.le_refl _) o).cell (p := ⟨D, 1, none⟩) h.lt).trans c1
  obtain ⟨i0, hi, hz0, hz1, hz2⟩ := info_parts infoB
  have HBG := Lib.hid h.big
  have hz : IntKind.i64.wrap (l0.length : Int) = (l0.length : Int) := IntWalk.i64_in _ (by have := HBG.out; omega)
  clear h h1
  go_enter Tryd.func97, Tryd.ntmps97
  go_wp2_with fail
  go_quiet (fail)
  go_wp2_with fail
  go_region_law (refine step_append_any rfl (.tmp 27) (.tmp 42) 23 rfl w.heap.size 5 i0 (.int .u8 0) 1 1 Tryd.underlying23 hi hz0 hz1 hz2 rfl (by decide) _ 0 [] rfl (World.ownsRow_made _ #[] 0 (Nat.le_refl _) (Nat.zero_le _) rfl) ((some ad)) 0 _ [] rfl rfl (by simp) (fun ad' had j u hu => by simp at hu) (fun u hu => by cases hu) (by unfold maxLen; omega) (by omega) (by simp [World.drewN]) ?_; intro v9 w9 hown9 hgrow9)
  all_goals
    have HO9 := Lib.hid (show w9.ownsRow w.heap.size 5 1 v9 ([] : List UInt8).length (bcells []) by simpa [Lib.byteCells] using hown9)
    have HB9 := Lib.hid (show Below w.heap.size w w9 from (((RowKit_drewN (Below.refl w.heap.size w) nq).drew.alloc (Nat.le_refl _) _).grown hgrow9 (by simp [World.drewN]) (fun k hk => Nat.le_of_eq (Option.some.inj hk))))
    obtain ⟨q0, q1⟩ := HK9.out w9 HB9.out
    have HG9 := Lib.hid (HGood.out w9 HB9.out)
    clear hown9 hgrow9
    obtain ⟨ao9, c9, rfl⟩ := owns_slice HO9.out
    have HN9 := Lib.hid (owns_none HO9.out)
    have HS9 := Lib.hid (RefS_up HO9.out D)
    clear HO9 ha0 ha1
    go_wp2
    go_ret
    exact ⟨ao9, c9, rfl, HN9.out, HS9.out HDl.out _, HG9.out.1, HG9.out.2⟩
end Go.Proofs.YtmocfielcllfmaaDoor
