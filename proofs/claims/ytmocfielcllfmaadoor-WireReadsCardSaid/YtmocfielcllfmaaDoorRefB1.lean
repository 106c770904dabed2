/- The document's reader: the next bytes (away from the end of its row). -/
import Derived.Test.YtmocfielcllfmaaDoorRefA
namespace Go.Proofs.YtmocfielcllfmaaDoor
open Go.RowKit

set_option maxRecDepth 100000 in
set_option maxHeartbeats 4000000 in
theorem rgood1 (D B n k : Nat) (ad : Addr) (ao : Option Addr) (hao : ao = some ad) (l0 : List UInt8) (c : Nat) (w : World) (hn : n ≤ 1000000) (h : RfS w D B ao l0 c (l0.drop k, false)) (h1 : w.heap[D]? = some (.cells #[.slice ao l0.length c, .int .i64 k, .bool false] 35 (0, 0))) (h2 : k ≤ l0.length) (hkn : k + n ≤ l0.length) (hck : ¬ c = k) :
    Calls Tryd.prog 97 #[.pointer (some ⟨D, 0, none⟩), .int .i64 n] w (RbP ((l0.drop k).take n, (l0.drop (k + n), false)) D B ao l0 c w) := by
  have hkn : k + n ≤ l0.length := hkn
  have mixed : Tryd.prog.follows .mixedOrders = true := by kernel_rfl
  have c0 : w.cell? ⟨D, 0, none⟩ = some (.slice ao l0.length c) := Lib.cell_of_heap h1 0
  have c1 : w.cell? ⟨D, 1, none⟩ = some (.int .i64 k) := Lib.cell_of_heap h1 1
  have c2 : w.cell? ⟨D, 2, none⟩ = some (.bool false) := Lib.cell_of_heap h1 2
  have HBig := Lib.hid h.big
  obtain ⟨T, hTe⟩ : ∃ T, T = (l0.drop k).take n := ⟨_, rfl⟩
  have hT : T.length = n := by rw [hTe, List.length_take, List.length_drop]; omega
  rw [← hTe]
  have HTE := Lib.hid hTe
  clear hTe
  have HT := Lib.hid hT
  have HGood : Hid (∀ W, Below w.heap.size w W → RfS (W.setCell ⟨D, 1, none⟩ (.int .i64 ((k : Int) + (n : Int)))) D B ao l0 c (l0.drop (k + n), false) ∧ Fr D w (W.setCell ⟨D, 1, none⟩ (.int .i64 ((k : Int) + (n : Int))))) := fun W hW => by
    have hD := (hW.block D h.lt).trans h1
    have hs := Lib.heap_setCell_same (i := 1) hD (.int .i64 ((k : Int) + (n : Int)))
    rw [show ((k : Int) + (n : Int)) = ((k + n : Nat) : Int) by omega] at hs ⊢
    exact ⟨⟨⟨k + n, false, hs, hkn, rfl⟩, (h.row.below (hW.mono h.lb)).below ((Below.refl _ _).setCell (p := ⟨D, 1, none⟩) h.ld _), h.nil, h.cap, h.big, h.capm, h.ld, by simp [World.setCell]; exact Nat.le_trans h.lb hW.size⟩, (Fr.of_below hW).set 1 _⟩
  have HK9 : Hid (∀ W, Below w.heap.size w W → W.cell? ⟨D, 1, none⟩ = some (.int .i64 k) ∧ W.frozen? ⟨D, 1, none⟩ = false) := fun W hW =>
    ⟨Lib.cell_of_heap ((hW.block D h.lt).trans h1) 1, Lib.frozen_of_heap ((hW.block D h.lt).trans h1) 1⟩
  have HDs : Hid (B ≤ D) := h.ld
  have hDl : D < w.heap.size := h.lt
  have HDl := Lib.hid hDl
  have ha0 : ∀ q o, ((w.drewN q).alloc o).cell? ⟨D, 0, none⟩ = some (.slice ao l0.length c) := fun q o => (((RowKit_drewN (Below.refl w.heap.size w) q).alloc (Nat.le_refl _) o).cell (p := ⟨D, 0, none⟩) h.lt).trans c0
  have ha1 : ∀ q o, ((w.drewN q).alloc o).cell? ⟨D, 1, none⟩ = some (.int .i64 k) := fun q o => (((RowKit_drewN (Below.refl w.heap.size w) q).alloc (Nat.le_refl _) o).cell (p := ⟨D, 1, none⟩) h.lt).trans c1
  have HROW := Lib.hid h.row
  have HLB := Lib.hid h.lb
  have hcap := h.cap
  have hcm := h.capm
  have hnil := h.nil
  unfold maxLen at hcm
  have hd : decide ((l0.length : Int) - (k : Int) < (n : Int)) = false := by simp; omega
  have hsb : IntKind.i64.wrap ((l0.length : Int) - (k : Int)) = (l0.length : Int) - (k : Int) := IntWalk.i64_in _ (by have := HBig.out; omega)
  have hsk : IntKind.i64.wrap ((k : Int) + (n : Int)) = (k : Int) + (n : Int) := IntWalk.i64_in _ (by have := HBig.out; omega)
  have hp0 : (0 : Int) ≤ (k : Int) + (n : Int) := by omega
  have hp1 : (k : Int) + (n : Int) ≤ (c : Int) := by omega
  have hp2 : ((k : Int) + (n : Int)).toNat = k + n := by omega
  obtain ⟨i0, hi, hz0, hz1, hz2⟩ := info_parts infoB
  clear h h1 hT
  subst hao
  clear hnil
  have HC : Hid (∀ W, Below w.heap.size w W → ∀ ad', some (ad.add k) = some ad' → ∀ j u, (bcells T)[j]? = some u → W.cell? (ad'.add j) = some u) := fun W hW ad' had j u hu => by
    rw [HTE.out] at hu
    obtain rfl := Option.some.inj had
    have hj : j < n := by
      have := (List.getElem?_eq_some_iff.1 hu).1
      rwa [bcells_length, ← HTE.out, HT.out] at this
    obtain ⟨sb, off, e, lt, hc⟩ := ((HROW.out.up (hW.mono HLB.out) (Nat.le_refl _))).cellB (by omega)
    obtain rfl := Option.some.inj e
    rw [Addr.add_lit, Addr.add_lit, Nat.add_assoc, hc (k + j) (by omega), ← hu]
    simp only [Lib.byteCells, List.getElem?_map, List.getElem?_take, List.getElem?_drop, if_pos hj, List.getElem?_eq_getElem (show k + j < l0.length by omega), Option.map_some]
  have HDB : Hid (w.heap.size ≤ w.heap.size → B ≤ D) := fun _ => HDs.out
  go_enter Tryd.func97, Tryd.ntmps97
  go_wp2_with fail
  go_quiet (fail)
  go_wp2_with fail
  go_region_law (refine step_append_any rfl (.tmp 27) (.tmp 42) 23 rfl w.heap.size 5 i0 (.int .u8 0) 1 1 Tryd.underlying23 hi hz0 hz1 hz2 rfl (by decide) _ 0 [] rfl (World.ownsRow_made _ #[] 0 (Nat.le_refl _) (Nat.zero_le _) rfl) (some (ad.add k)) n _ (bcells T) rfl (by rw [bcells_length, Nat.mul_one]; exact HT.out) (by simp) (HC.out _ ((RowKit_drewN (Below.refl w.heap.size w) nq).drew.alloc (Nat.le_refl _) _)) (Lib.byteCells_one _) (by have := HBig.out; unfold maxLen; omega) (by have := HBig.out; omega) (by simp [World.drewN]) ?_; intro v9 w9 hown9 hgrow9)
  all_goals
    have HO9 := Lib.hid (show w9.ownsRow w.heap.size 5 1 v9 T.length (bcells T) by rw [HT.out]; simpa using hown9)
    have HB9 := Lib.hid (show Below w.heap.size w w9 from (((RowKit_drewN (Below.refl w.heap.size w) nq).drew.alloc (Nat.le_refl _) _).grown hgrow9 (by simp [World.drewN]) (fun k hk => Nat.le_of_eq (Option.some.inj hk))))
    obtain ⟨q0, q1⟩ := HK9.out w9 HB9.out
    have HG9 := Lib.hid (HGood.out w9 HB9.out)
    clear hown9 hgrow9
    obtain ⟨ao9, c9, rfl⟩ := owns_slice HO9.out
    have HN9 := Lib.hid (owns_none HO9.out)
    have HS9 := Lib.hid (RefS_up HO9.out D)
    clear HO9 hd hsb ha0 ha1 HC
    go_wp2
    go_ret
    exact ⟨ao9, c9, rfl, HN9.out, HS9.out HDl.out _, HG9.out.1, HG9.out.2⟩
end Go.Proofs.YtmocfielcllfmaaDoor
