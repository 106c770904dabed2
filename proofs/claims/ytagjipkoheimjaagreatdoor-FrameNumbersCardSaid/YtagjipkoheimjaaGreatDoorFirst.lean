/- The frame that bytes begin with. -/
import Derived.Test.YtagjipkoheimjaaGreatDoorTorn
import Derived.StillTailTactics
namespace Go.Proofs.YtagjipkoheimjaaGreatDoor
open Go.RowKit

/-- What first tells. -/
def FirstP (r : Option FR) (w : World) (e : Ending) (w' : World) : Prop :=
  match r with
  | none => e = .returned (.tuple #[.agg #[.int .i64 0, .slice none 0 0], .bool false]) ∧ Below w.heap.size w w'
  | some f => ∃ ao c, e = .returned (.tuple #[.agg #[.int .i64 f.1, .slice ao f.2.length c], .bool true]) ∧ w'.ownsRow w.heap.size 5 1 (.slice ao f.2.length c) f.2.length (bcells f.2) ∧ Below w.heap.size w w'

/-- A part of a slice of bytes. -/
theorem SlG.part {B : Nat} {w : World} {sb off : Nat} {l : List UInt8} (h : SlG B w (some ⟨sb, off, none⟩) (bcells l)) (k n : Nat) : SlG B w (some ⟨sb, off + k, none⟩) (bcells ((l.drop k).take n)) := fun hne => by
  have hl : k < l.length := by
    apply Classical.byContradiction
    intro hh
    rw [List.drop_of_length_le (by omega)] at hne
    simp [Lib.byteCells] at hne
  obtain ⟨sb', off', e, lt, hc⟩ := h.cellB (by omega)
  simp only [Option.some.injEq, Addr.mk.injEq, and_true] at e
  obtain ⟨rfl, rfl⟩ := e
  refine ⟨sb, off + k, rfl, lt, fun j u hj => ?_⟩
  have hj2 := (List.getElem?_eq_some_iff.1 hj).1
  rw [bcells_length, List.length_take, List.length_drop] at hj2
  rw [Nat.add_assoc, hc (k + j) (by omega), ← hj]
  simp only [Lib.byteCells, List.getElem?_map]
  rw [List.getElem?_take_of_lt (by omega), List.getElem?_drop, List.getElem?_eq_getElem (by omega)]
  rfl
theorem kindB_cell (l : List UInt8) (h : 4 < l.length) : kindB l = l[4] := by
  unfold kindB
  rw [List.getD_eq_getElem?_getD, List.getElem?_eq_getElem h]
  rfl

set_option maxRecDepth 100000 in
set_option maxHeartbeats 1000000 in
theorem first_far (sb off : Nat) (l : List UInt8) (c n : Nat) (hn : n = num4 l) (hn1 : n ≤ 1048576) (hl9 : 9 + n ≤ l.length) (hc : l.length ≤ c) (hcm : c ≤ 9223372036854775807) (hc9 : c ≠ 9) (w : World) (h : SlG w.heap.size w (some ⟨sb, off, none⟩) (bcells l)) (d : List UInt8) (hd : d = dataB l) (k : Nat) (hk : k = (kindB l).toNat) (s : Nat) (hs : s = num4 (l.drop 5)) (h9 : SlG w.heap.size w (some ⟨sb, off + 9, none⟩) (bcells d)) :
    Calls Tryz.prog 38 #[.slice (some ⟨sb, off, none⟩) l.length c] w (FirstP (firstF l) w) := by
  have hk255 : k ≤ 255 := by have := (kindB l).toNat_lt; omega
  have c4 : w.cell? ⟨sb, off + 4, none⟩ = some (.int .u8 (k : Int)) := by
    obtain ⟨sb', off', e, lt, hcl⟩ := h.cellB (by omega)
    simp only [Option.some.injEq, Addr.mk.injEq, and_true] at e
    obtain ⟨rfl, rfl⟩ := e
    rw [hcl 4 (by omega), hk, kindB_cell l (by omega)]
  have lt : sb < w.heap.size := by
    obtain ⟨sb', off', e, lt, hcl⟩ := h.cellB (by omega)
    simp only [Option.some.injEq, Addr.mk.injEq, and_true] at e
    obtain ⟨rfl, rfl⟩ := e
    exact lt
  have HN := Lib.hid (numberIn_any _ l c (by omega) (by omega) _ (h.up (below_own (.cells #[.int .i64 0, .slice none 0 0] 44)) (by simp)))
  rw [← hn] at HN
  have H := Lib.hid h
  have H9 := Lib.hid h9
  have EN := Lib.hid hn
  have ED := Lib.hid hd
  have EK := Lib.hid hk
  have ES := Lib.hid hs
  clear hn hd hk hs h9
  have i4 : (4 : Int) < (l.length : Int) := by omega
  have i9 : (9 : Int) ≤ 9 + (n : Int) := by omega
  have i9c : 9 + (n : Int) ≤ (c : Int) := by omega
  have wn : IntKind.i64.wrap (n : Int) = (n : Int) := IntWalk.i64_in _ (by omega)
  have wk : IntKind.i64.wrap (k : Int) = (k : Int) := IntWalk.i64_in _ (by omega)
  have tn : (9 + (n : Int)).toNat = 9 + n := by omega
  have i9l : 9 + (n : Int) ≤ (l.length : Int) := by omega
  have hsw : IntKind.i64.wrap (9 + (n : Int)) = 9 + (n : Int) := IntWalk.i64_in _ (by omega)
  have g1 : decide ((1048576 : Int) < (n : Int)) = false := by simp; omega
  have g2 : decide (1048576 < n) = false := by simp; omega
  clear h
  have lt2 : sb < (w.alloc (.cells #[.int .i64 0, .slice none 0 0] 44)).heap.size := by simp; omega
  go_enter Tryz.func38, Tryz.ntmps38
  go_wp2_with (go_at_call 75; refine (HN.out).mono ?_; rintro e w1 ⟨rfl, hg⟩; refine Hid.out ?_)
  have HG1 := Lib.hid hg
  have c4' := (hg.below.cell (p := ⟨sb, off + 4, none⟩) lt2).trans ((World.cell?_alloc_lt w _ ⟨sb, off + 4, none⟩ lt).trans c4)
  have hblk : w1.heap[w.heap.size]? = some (.cells #[.int .i64 0, .slice none 0 0] 44 (0, 0)) := (hg.below.block _ (by simp)).trans (heap_alloc_new w _)
  have HBel : Hid (Below w.heap.size w w1.drew) := ((below_own _).trans (hg.below.mono (by simp))).drew
  have c4'' : w1.drew.cell? ⟨sb, off + 4, none⟩ = some (.int .u8 (k : Int)) := c4'
  have hblk' : w1.drew.heap[w.heap.size]? = some (.cells #[.int .i64 0, .slice none 0 0] 44 (0, 0)) := hblk
  have HB2 := Lib.hid hblk'
  clear c4 hg HN hblk hblk'
  refine Lib.hid ?_
  go_wp2_with fail
  go_still_tail 10, (by kernel_rfl)
  change wpList _ _ _ _ _ w1.drew
  clear c4'
  generalize w1.drew = w2 at c4'' HBel HB2 ⊢
  have a0 : w2.cell? ⟨w.heap.size, 0, none⟩ = some (.int .i64 0) := Lib.cell_of_heap HB2.out 0
  have a1 : w2.cell? ⟨w.heap.size, 1, none⟩ = some (.slice none 0 0) := Lib.cell_of_heap HB2.out 1
  have f0 : ∀ j, w2.frozen? ⟨w.heap.size, j, none⟩ = false := fun j => Lib.frozen_of_heap HB2.out j
  go_wp2_with fail
  have HB3 := Lib.hid (Lib.heap_setCell_same (i := 1) (Lib.heap_setCell_same (i := 0) HB2.out (.int .i64 k)) (.slice (some ⟨sb, off + 9, none⟩) n (c - 9)))
  have HBel3 : Hid (Below w.heap.size w ((w2.setCell ⟨w.heap.size, 0, none⟩ (.int .i64 k)).setCell ⟨w.heap.size, 1, none⟩ (.slice (some ⟨sb, off + 9, none⟩) n (c - 9)))) := (HBel.out.setCell (p := ⟨w.heap.size, 0, none⟩) (Nat.le_refl _) _).setCell (p := ⟨w.heap.size, 1, none⟩) (Nat.le_refl _) _
  generalize ((w2.setCell ⟨w.heap.size, 0, none⟩ (.int .i64 k)).setCell ⟨w.heap.size, 1, none⟩ (.slice (some ⟨sb, off + 9, none⟩) n (c - 9))) = w3 at HB3 HBel3 ⊢
  clear a0 a1 f0 HB2 HBel c4''
  have hsz3 : w.heap.size < w3.heap.size := lt_of_heap HB3.out
  have b0 : ∀ q os, (Sort.grow (w3.drewN q) os).cell? ⟨w.heap.size, 0, none⟩ = some (.int .i64 k) := cell_grown hsz3 (Lib.cell_of_heap HB3.out 0)
  have b1 : ∀ q os, (Sort.grow (w3.drewN q) os).cell? ⟨w.heap.size, 1, none⟩ = some (.slice (some ⟨sb, off + 9, none⟩) n (c - 9)) := cell_grown hsz3 (Lib.cell_of_heap HB3.out 1)
  have HD : Hid (d.length = n) := by
    unfold Hid
    rw [ED.out]
    unfold dataB
    rw [List.length_take, List.length_drop, ← EN.out]
    omega
  have KN : Hid (∀ (q : Nat) (os : Array Obj) (m : Nat), m = l.length - 5 → Calls Tryz.prog 75 #[.slice (some ⟨sb, off + 5, none⟩) m (c - 5)] (Sort.grow (w3.drewN q) os) fun e w' => e = .returned (.int .u32 ((s : Nat) : Int)) ∧ Gr (Sort.grow (w3.drewN q) os) w') := fun q os m hm => by
    have hl : (l.drop 5).length = m := by rw [List.length_drop, hm]
    have hG : Below w.heap.size w (Sort.grow (w3.drewN q) os) := HBel3.out.trans ((Gr.below ⟨q, os, rfl⟩).mono (Nat.le_of_lt hsz3))
    have hp := (H.out.part 5 (l.length - 5))
    rw [List.take_of_length_le (by rw [List.length_drop]; omega)] at hp
    have hh := numberIn_any (some ⟨sb, off + 5, none⟩) (l.drop 5) (c - 5) (by omega) (by omega) (Sort.grow (w3.drewN q) os) (hp.up hG hG.size)
    rw [hl, ← ES.out] at hh
    exact hh
  have KS : Hid (∀ (q : Nat) (os : Array Obj), Calls Tryz.prog 44 #[.agg #[.int .i64 k, .slice (some ⟨sb, off + 9, none⟩) n (c - 9)]] (Sort.grow (w3.drewN q) os) fun e w' => e = .returned (.int .u32 ((sumF ((k : Int), d) : Nat) : Int)) ∧ Gr (Sort.grow (w3.drewN q) os) w') := fun q os => by
    have hG : Below w.heap.size w (Sort.grow (w3.drewN q) os) := HBel3.out.trans ((Gr.below ⟨q, os, rfl⟩).mono (Nat.le_of_lt hsz3))
    have hh := sumOf_any ((k : Int), d) (by constructor <;> simp only <;> omega) (some ⟨sb, off + 9, none⟩) (c - 9) (by simp only; rw [HD.out]; omega) (Sort.grow (w3.drewN q) os) (H9.out.up hG hG.size)
    simp only at hh
    rw [HD.out] at hh
    exact hh
  have HF : Hid (firstF l = if s = sumF ((k : Int), d) then some ((k : Int), d) else none) := by
    have e1 : octI ((k : Nat) : Int) = kindB l := by
      rw [EK.out]
      unfold octI
      apply UInt8.toNat_inj.1
      rw [UInt8.toNat_ofNat', Int.toNat_natCast]
      have := (kindB l).toNat_lt
      omega
    unfold Hid firstF sumF
    simp only
    rw [e1, ← EN.out, ← ES.out, ← ED.out, ← EK.out]
    simp [hn1]
  generalize sumF ((k : Int), d) = y at KS HF
  have mixed : Tryz.prog.follows .mixedOrders = true := by kernel_rfl
  by_cases hsy : s = y
  · have t1 : ((s : Int) != (y : Int)) = false := by simp [hsy]
    have HSY := Lib.hid hsy
    clear hsy
    have i5 : (5 : Int) ≤ (l.length : Int) := by omega
    have i5n : 5 ≤ l.length := by omega
    have i5c : (l.length : Int) ≤ (c : Int) := by omega
    have i55 : (5 : Int) ≤ (c : Int) := by omega
    have hc5 : c ≠ 5 := by omega
    have t5 : ((l.length : Int) - 5).toNat = l.length - 5 := by omega
    go_quiet_grown (first
      | (go_at_call 75; exact Calls.grown_of ((KN.out _ _ _ (by omega)).mono fun _ _ ⟨h, g⟩ => ⟨h, g.out⟩))
      | (go_at_call 44; exact Calls.grown_of ((KS.out _ _).mono fun _ _ ⟨h, g⟩ => ⟨h, g.out⟩)))
    show Exit.then _ _ _ _ (Sort.grow (w3.drewN nq) osq)
    have HB4 : Hid ((Sort.grow (w3.drewN nq) osq).heap[w.heap.size]? = some (.cells #[.int .i64 k, .slice (some ⟨sb, off + 9, none⟩) n (c - 9)] 44 (0, 0))) := ((Gr.below ⟨nq, osq, rfl⟩ : Below w3.heap.size w3 (Sort.grow (w3.drewN nq) osq)).block _ hsz3).trans HB3.out
    have HBel4 : Hid (Below w.heap.size w (Sort.grow (w3.drewN nq) osq)) := HBel3.out.trans ((Gr.below ⟨nq, osq, rfl⟩).mono (Nat.le_of_lt hsz3))
    clear b0 b1 KN KS HB3 HBel3
    generalize Sort.grow (w3.drewN nq) osq = w4 at HB4 HBel4 ⊢
    have a0 : w4.cell? ⟨w.heap.size, 0, none⟩ = some (.int .i64 k) := Lib.cell_of_heap HB4.out 0
    have a1 : w4.cell? ⟨w.heap.size, 1, none⟩ = some (.slice (some ⟨sb, off + 9, none⟩) n (c - 9)) := Lib.cell_of_heap HB4.out 1
    have f0 : ∀ j, w4.frozen? ⟨w.heap.size, j, none⟩ = false := fun j => Lib.frozen_of_heap HB4.out j
    have HRow : Hid (∀ j u, (bcells d)[j]? = some u → w4.cell? ((⟨sb, off + 9, none⟩ : Addr).add j) = some u) := by
      have hs := (H9.out.up HBel4.out HBel4.out.size)
      intro j u hj
      have hne : bcells d ≠ [] := by rintro e; rw [e] at hj; simp at hj
      obtain ⟨sb', off', e, lt', hcl⟩ := hs hne
      simp only [Option.some.injEq, Addr.mk.injEq, and_true] at e
      obtain ⟨rfl, rfl⟩ := e
      rw [Addr.add_lit]
      exact hcl j u hj
    obtain ⟨i0, hi, hz0, hz1, hz2⟩ := info_parts infoB
    have hsz4 : w.heap.size < w4.heap.size := lt_of_heap HB4.out
    clear i4 i9 i9c i9l i5 i5n i5c i55 hc5 t5 t1 tn hsw wn wk g1 g2
    go_wp2_with (at_builtin; refine wpList_append_own _ rfl _ _ 26 rfl w.heap.size 5 i0 (.int .u8 0) 1 1 Tryz.underlying26 hi hz0 hz1 hz2 rfl (by decide) _ 0 [] rfl (World.ownsRow_nil _ _ _ _) ⟨sb, off + 9, none⟩ n (c - 9) (bcells d) rfl (by rw [bcells_length, HD.out, Nat.mul_one]) HRow.out (Lib.byteCells_one d) (by unfold maxLen; omega) (by omega) (Nat.le_of_lt hsz4) ?_; intro v' w5 hown5 hgrow5 hnil5; obtain ⟨ao5, c5, rfl⟩ := owns_slice hown5; refine Hid.out ?_)
    have hgr5 : w4.grownBy w5 none := hgrow5
    have HB5 : Hid (w5.heap[w.heap.size]? = some (.cells #[.int .i64 k, .slice (some ⟨sb, off + 9, none⟩) n (c - 9)] 44 (0, 0))) := (hgr5.block _ hsz4 (by simp)).trans HB4.out
    have HBel5 : Hid (Below w.heap.size w w5) := HBel4.out.grown hgr5 (Nat.le_of_lt hsz4) (fun k hk => by cases hk)
    simp only [Nat.zero_add, List.nil_append] at hown5
    have HOwn := Lib.hid hown5
    clear hgr5
    clear a0 a1 f0 hown5 hgrow5 hnil5 HB4 HBel4 HRow
    have a0 : w5.cell? ⟨w.heap.size, 0, none⟩ = some (.int .i64 k) := Lib.cell_of_heap HB5.out 0
    have a1 : w5.cell? ⟨w.heap.size, 1, none⟩ = some (.slice (some ⟨sb, off + 9, none⟩) n (c - 9)) := Lib.cell_of_heap HB5.out 1
    have f0 : ∀ j, w5.frozen? ⟨w.heap.size, j, none⟩ = false := fun j => Lib.frozen_of_heap HB5.out j
    refine Lib.hid ?_
    go_wp2_with fail
    have HFr := Lib.hid ((((Fr.refl w.heap.size w5).set 1 (.slice ao5 n c5)).set 0 (.int .i64 k)).set 1 (.slice ao5 n c5))
    have hsz5 : w.heap.size < w5.heap.size := lt_of_heap HB5.out
    refine bodyPost_ret (v := .tuple #[.agg #[.int .i64 k, .slice ao5 n c5], .bool true]) (by simp [results, Tryz.results38, go_sem, a0, a1]) rfl ?_
    rw [HF.out, if_pos HSY.out]
    refine ⟨ao5, c5, by simp only; rw [HD.out], ?_, HBel5.out.grown HFr.out (Nat.le_of_lt hsz5) (fun k hk => by obtain rfl := Option.some.inj hk; exact Nat.le_refl _)⟩
    have hf := owns_far (e' := 44) HOwn.out (by decide) HFr.out (fun k hk => by
      obtain rfl := Option.some.inj hk
      exact ⟨_, _, HB5.out⟩)
    simp only
    rw [HD.out]
    exact hf
  · have t1 : ((s : Int) != (y : Int)) = true := by simp; omega
    have HSY := Lib.hid hsy
    clear hsy
    have i5 : (5 : Int) ≤ (l.length : Int) := by omega
    have i5n : 5 ≤ l.length := by omega
    have i5c : (l.length : Int) ≤ (c : Int) := by omega
    have i55 : (5 : Int) ≤ (c : Int) := by omega
    have hc5 : c ≠ 5 := by omega
    have t5 : ((l.length : Int) - 5).toNat = l.length - 5 := by omega
    go_quiet_grown (first
      | (go_at_call 75; exact Calls.grown_of ((KN.out _ _ _ (by omega)).mono fun _ _ ⟨h, g⟩ => ⟨h, g.out⟩))
      | (go_at_call 44; exact Calls.grown_of ((KS.out _ _).mono fun _ _ ⟨h, g⟩ => ⟨h, g.out⟩)))
    show Exit.then _ _ _ _ (Sort.grow (w3.drewN nq) osq)
    have HB4 : Hid ((Sort.grow (w3.drewN nq) osq).heap[w.heap.size]? = some (.cells #[.int .i64 k, .slice (some ⟨sb, off + 9, none⟩) n (c - 9)] 44 (0, 0))) := ((Gr.below ⟨nq, osq, rfl⟩ : Below w3.heap.size w3 (Sort.grow (w3.drewN nq) osq)).block _ hsz3).trans HB3.out
    have HBel4 : Hid (Below w.heap.size w (Sort.grow (w3.drewN nq) osq)) := HBel3.out.trans ((Gr.below ⟨nq, osq, rfl⟩).mono (Nat.le_of_lt hsz3))
    clear b0 b1 KN KS HB3 HBel3
    generalize Sort.grow (w3.drewN nq) osq = w4 at HB4 HBel4 ⊢
    have a0 : w4.cell? ⟨w.heap.size, 0, none⟩ = some (.int .i64 k) := Lib.cell_of_heap HB4.out 0
    have a1 : w4.cell? ⟨w.heap.size, 1, none⟩ = some (.slice (some ⟨sb, off + 9, none⟩) n (c - 9)) := Lib.cell_of_heap HB4.out 1
    have f0 : ∀ j, w4.frozen? ⟨w.heap.size, j, none⟩ = false := fun j => Lib.frozen_of_heap HB4.out j
    clear i4 i9 i9c i9l i5 i5n i5c i55 hc5 t5 t1 tn hsw wn wk g1 g2
    go_wp2_with fail
    refine bodyPost_ret (v := .tuple #[.agg #[.int .i64 0, .slice none 0 0], .bool false]) (by simp [results, Tryz.results38, go_sem, a0, a1]) rfl ?_
    rw [HF.out, if_neg HSY.out]
    exact ⟨rfl, (HBel4.out.setCell (p := ⟨w.heap.size, 0, none⟩) (Nat.le_refl _) _).setCell (p := ⟨w.heap.size, 1, none⟩) (Nat.le_refl _) _⟩
set_option maxRecDepth 100000 in
set_option maxHeartbeats 1000000 in
theorem first_end (sb off : Nat) (l : List UInt8) (c n : Nat) (hn : n = num4 l) (hn1 : n ≤ 1048576) (hl9 : 9 + n ≤ l.length) (hc : l.length ≤ c) (hcm : c ≤ 9223372036854775807) (hc9 : (c = 9) = True) (w : World) (h : SlG w.heap.size w (some ⟨sb, off, none⟩) (bcells l)) (d : List UInt8) (hd : d = dataB l) (k : Nat) (hk : k = (kindB l).toNat) (s : Nat) (hs : s = num4 (l.drop 5)) (h9 : SlG w.heap.size w (some ⟨sb, off, none⟩) (bcells d)) :
    Calls Tryz.prog 38 #[.slice (some ⟨sb, off, none⟩) l.length c] w (FirstP (firstF l) w) := by
  have hk255 : k ≤ 255 := by have := (kindB l).toNat_lt; omega
  have c4 : w.cell? ⟨sb, off + 4, none⟩ = some (.int .u8 (k : Int)) := by
    obtain ⟨sb', off', e, lt, hcl⟩ := h.cellB (by omega)
    simp only [Option.some.injEq, Addr.mk.injEq, and_true] at e
    obtain ⟨rfl, rfl⟩ := e
    rw [hcl 4 (by omega), hk, kindB_cell l (by omega)]
  have lt : sb < w.heap.size := by
    obtain ⟨sb', off', e, lt, hcl⟩ := h.cellB (by omega)
    simp only [Option.some.injEq, Addr.mk.injEq, and_true] at e
    obtain ⟨rfl, rfl⟩ := e
    exact lt
  have HN := Lib.hid (numberIn_any _ l c (by omega) (by omega) _ (h.up (below_own (.cells #[.int .i64 0, .slice none 0 0] 44)) (by simp)))
  rw [← hn] at HN
  have H := Lib.hid h
  have H9 := Lib.hid h9
  have EN := Lib.hid hn
  have ED := Lib.hid hd
  have EK := Lib.hid hk
  have ES := Lib.hid hs
  clear hn hd hk hs h9
  have i4 : (4 : Int) < (l.length : Int) := by omega
  have i9 : (9 : Int) ≤ 9 + (n : Int) := by omega
  have i9c : 9 + (n : Int) ≤ (c : Int) := by omega
  have wn : IntKind.i64.wrap (n : Int) = (n : Int) := IntWalk.i64_in _ (by omega)
  have wk : IntKind.i64.wrap (k : Int) = (k : Int) := IntWalk.i64_in _ (by omega)
  have tn : (9 + (n : Int)).toNat = 9 + n := by omega
  have i9l : 9 + (n : Int) ≤ (l.length : Int) := by omega
  have hsw : IntKind.i64.wrap (9 + (n : Int)) = 9 + (n : Int) := IntWalk.i64_in _ (by omega)
  have g1 : decide ((1048576 : Int) < (n : Int)) = false := by simp; omega
  have g2 : decide (1048576 < n) = false := by simp; omega
  clear h
  have lt2 : sb < (w.alloc (.cells #[.int .i64 0, .slice none 0 0] 44)).heap.size := by simp; omega
  go_enter Tryz.func38, Tryz.ntmps38
  go_wp2_with (go_at_call 75; refine (HN.out).mono ?_; rintro e w1 ⟨rfl, hg⟩; refine Hid.out ?_)
  have HG1 := Lib.hid hg
  have c4' := (hg.below.cell (p := ⟨sb, off + 4, none⟩) lt2).trans ((World.cell?_alloc_lt w _ ⟨sb, off + 4, none⟩ lt).trans c4)
  have hblk : w1.heap[w.heap.size]? = some (.cells #[.int .i64 0, .slice none 0 0] 44 (0, 0)) := (hg.below.block _ (by simp)).trans (heap_alloc_new w _)
  have HBel : Hid (Below w.heap.size w w1.drew) := ((below_own _).trans (hg.below.mono (by simp))).drew
  have c4'' : w1.drew.cell? ⟨sb, off + 4, none⟩ = some (.int .u8 (k : Int)) := c4'
  have hblk' : w1.drew.heap[w.heap.size]? = some (.cells #[.int .i64 0, .slice none 0 0] 44 (0, 0)) := hblk
  have HB2 := Lib.hid hblk'
  clear c4 hg HN hblk hblk'
  refine Lib.hid ?_
  go_wp2_with fail
  go_still_tail 10, (by kernel_rfl)
  change wpList _ _ _ _ _ w1.drew
  clear c4'
  generalize w1.drew = w2 at c4'' HBel HB2 ⊢
  have a0 : w2.cell? ⟨w.heap.size, 0, none⟩ = some (.int .i64 0) := Lib.cell_of_heap HB2.out 0
  have a1 : w2.cell? ⟨w.heap.size, 1, none⟩ = some (.slice none 0 0) := Lib.cell_of_heap HB2.out 1
  have f0 : ∀ j, w2.frozen? ⟨w.heap.size, j, none⟩ = false := fun j => Lib.frozen_of_heap HB2.out j
  go_wp2_with fail
  have HB3 := Lib.hid (Lib.heap_setCell_same (i := 1) (Lib.heap_setCell_same (i := 0) HB2.out (.int .i64 k)) (.slice (some ⟨sb, off, none⟩) n (c - 9)))
  have HBel3 : Hid (Below w.heap.size w ((w2.setCell ⟨w.heap.size, 0, none⟩ (.int .i64 k)).setCell ⟨w.heap.size, 1, none⟩ (.slice (some ⟨sb, off, none⟩) n (c - 9)))) := (HBel.out.setCell (p := ⟨w.heap.size, 0, none⟩) (Nat.le_refl _) _).setCell (p := ⟨w.heap.size, 1, none⟩) (Nat.le_refl _) _
  generalize ((w2.setCell ⟨w.heap.size, 0, none⟩ (.int .i64 k)).setCell ⟨w.heap.size, 1, none⟩ (.slice (some ⟨sb, off, none⟩) n (c - 9))) = w3 at HB3 HBel3 ⊢
  clear a0 a1 f0 HB2 HBel c4''
  have hsz3 : w.heap.size < w3.heap.size := lt_of_heap HB3.out
  have b0 : ∀ q os, (Sort.grow (w3.drewN q) os).cell? ⟨w.heap.size, 0, none⟩ = some (.int .i64 k) := cell_grown hsz3 (Lib.cell_of_heap HB3.out 0)
  have b1 : ∀ q os, (Sort.grow (w3.drewN q) os).cell? ⟨w.heap.size, 1, none⟩ = some (.slice (some ⟨sb, off, none⟩) n (c - 9)) := cell_grown hsz3 (Lib.cell_of_heap HB3.out 1)
  have HD : Hid (d.length = n) := by
    unfold Hid
    rw [ED.out]
    unfold dataB
    rw [List.length_take, List.length_drop, ← EN.out]
    omega
  have KN : Hid (∀ (q : Nat) (os : Array Obj) (m : Nat), m = l.length - 5 → Calls Tryz.prog 75 #[.slice (some ⟨sb, off + 5, none⟩) m (c - 5)] (Sort.grow (w3.drewN q) os) fun e w' => e = .returned (.int .u32 ((s : Nat) : Int)) ∧ Gr (Sort.grow (w3.drewN q) os) w') := fun q os m hm => by
    have hl : (l.drop 5).length = m := by rw [List.length_drop, hm]
    have hG : Below w.heap.size w (Sort.grow (w3.drewN q) os) := HBel3.out.trans ((Gr.below ⟨q, os, rfl⟩).mono (Nat.le_of_lt hsz3))
    have hp := (H.out.part 5 (l.length - 5))
    rw [List.take_of_length_le (by rw [List.length_drop]; omega)] at hp
    have hh := numberIn_any (some ⟨sb, off + 5, none⟩) (l.drop 5) (c - 5) (by omega) (by omega) (Sort.grow (w3.drewN q) os) (hp.up hG hG.size)
    rw [hl, ← ES.out] at hh
    exact hh
  have KS : Hid (∀ (q : Nat) (os : Array Obj), Calls Tryz.prog 44 #[.agg #[.int .i64 k, .slice (some ⟨sb, off, none⟩) n (c - 9)]] (Sort.grow (w3.drewN q) os) fun e w' => e = .returned (.int .u32 ((sumF ((k : Int), d) : Nat) : Int)) ∧ Gr (Sort.grow (w3.drewN q) os) w') := fun q os => by
    have hG : Below w.heap.size w (Sort.grow (w3.drewN q) os) := HBel3.out.trans ((Gr.below ⟨q, os, rfl⟩).mono (Nat.le_of_lt hsz3))
    have hh := sumOf_any ((k : Int), d) (by constructor <;> simp only <;> omega) (some ⟨sb, off, none⟩) (c - 9) (by simp only; rw [HD.out]; omega) (Sort.grow (w3.drewN q) os) (H9.out.up hG hG.size)
    simp only at hh
    rw [HD.out] at hh
    exact hh
  have HF : Hid (firstF l = if s = sumF ((k : Int), d) then some ((k : Int), d) else none) := by
    have e1 : octI ((k : Nat) : Int) = kindB l := by
      rw [EK.out]
      unfold octI
      apply UInt8.toNat_inj.1
      rw [UInt8.toNat_ofNat', Int.toNat_natCast]
      have := (kindB l).toNat_lt
      omega
    unfold Hid firstF sumF
    simp only
    rw [e1, ← EN.out, ← ES.out, ← ED.out, ← EK.out]
    simp [hn1]
  generalize sumF ((k : Int), d) = y at KS HF
  have mixed : Tryz.prog.follows .mixedOrders = true := by kernel_rfl
  by_cases hsy : s = y
  · have t1 : ((s : Int) != (y : Int)) = false := by simp [hsy]
    have HSY := Lib.hid hsy
    clear hsy
    have i5 : (5 : Int) ≤ (l.length : Int) := by omega
    have i5n : 5 ≤ l.length := by omega
    have i5c : (l.length : Int) ≤ (c : Int) := by omega
    have i55 : (5 : Int) ≤ (c : Int) := by omega
    have hc5 : c ≠ 5 := by omega
    have t5 : ((l.length : Int) - 5).toNat = l.length - 5 := by omega
    go_quiet_grown (first
      | (go_at_call 75; exact Calls.grown_of ((KN.out _ _ _ (by omega)).mono fun _ _ ⟨h, g⟩ => ⟨h, g.out⟩))
      | (go_at_call 44; exact Calls.grown_of ((KS.out _ _).mono fun _ _ ⟨h, g⟩ => ⟨h, g.out⟩)))
    show Exit.then _ _ _ _ (Sort.grow (w3.drewN nq) osq)
    have HB4 : Hid ((Sort.grow (w3.drewN nq) osq).heap[w.heap.size]? = some (.cells #[.int .i64 k, .slice (some ⟨sb, off, none⟩) n (c - 9)] 44 (0, 0))) := ((Gr.below ⟨nq, osq, rfl⟩ : Below w3.heap.size w3 (Sort.grow (w3.drewN nq) osq)).block _ hsz3).trans HB3.out
    have HBel4 : Hid (Below w.heap.size w (Sort.grow (w3.drewN nq) osq)) := HBel3.out.trans ((Gr.below ⟨nq, osq, rfl⟩).mono (Nat.le_of_lt hsz3))
    clear b0 b1 KN KS HB3 HBel3
    generalize Sort.grow (w3.drewN nq) osq = w4 at HB4 HBel4 ⊢
    have a0 : w4.cell? ⟨w.heap.size, 0, none⟩ = some (.int .i64 k) := Lib.cell_of_heap HB4.out 0
    have a1 : w4.cell? ⟨w.heap.size, 1, none⟩ = some (.slice (some ⟨sb, off, none⟩) n (c - 9)) := Lib.cell_of_heap HB4.out 1
    have f0 : ∀ j, w4.frozen? ⟨w.heap.size, j, none⟩ = false := fun j => Lib.frozen_of_heap HB4.out j
    have HRow : Hid (∀ j u, (bcells d)[j]? = some u → w4.cell? ((⟨sb, off, none⟩ : Addr).add j) = some u) := by
      have hs := (H9.out.up HBel4.out HBel4.out.size)
      intro j u hj
      have hne : bcells d ≠ [] := by rintro e; rw [e] at hj; simp at hj
      obtain ⟨sb', off', e, lt', hcl⟩ := hs hne
      simp only [Option.some.injEq, Addr.mk.injEq, and_true] at e
      obtain ⟨rfl, rfl⟩ := e
      rw [Addr.add_lit]
      exact hcl j u hj
    obtain ⟨i0, hi, hz0, hz1, hz2⟩ := info_parts infoB
    have hsz4 : w.heap.size < w4.heap.size := lt_of_heap HB4.out
    clear i4 i9 i9c i9l i5 i5n i5c i55 hc5 t5 t1 tn hsw wn wk g1 g2
    go_wp2_with (at_builtin; refine wpList_append_own _ rfl _ _ 26 rfl w.heap.size 5 i0 (.int .u8 0) 1 1 Tryz.underlying26 hi hz0 hz1 hz2 rfl (by decide) _ 0 [] rfl (World.ownsRow_nil _ _ _ _) ⟨sb, off, none⟩ n (c - 9) (bcells d) rfl (by rw [bcells_length, HD.out, Nat.mul_one]) HRow.out (Lib.byteCells_one d) (by unfold maxLen; omega) (by omega) (Nat.le_of_lt hsz4) ?_; intro v' w5 hown5 hgrow5 hnil5; obtain ⟨ao5, c5, rfl⟩ := owns_slice hown5; refine Hid.out ?_)
    have hgr5 : w4.grownBy w5 none := hgrow5
    have HB5 : Hid (w5.heap[w.heap.size]? = some (.cells #[.int .i64 k, .slice (some ⟨sb, off, none⟩) n (c - 9)] 44 (0, 0))) := (hgr5.block _ hsz4 (by simp)).trans HB4.out
    have HBel5 : Hid (Below w.heap.size w w5) := HBel4.out.grown hgr5 (Nat.le_of_lt hsz4) (fun k hk => by cases hk)
    simp only [Nat.zero_add, List.nil_append] at hown5
    have HOwn := Lib.hid hown5
    clear hgr5
    clear a0 a1 f0 hown5 hgrow5 hnil5 HB4 HBel4 HRow
    have a0 : w5.cell? ⟨w.heap.size, 0, none⟩ = some (.int .i64 k) := Lib.cell_of_heap HB5.out 0
    have a1 : w5.cell? ⟨w.heap.size, 1, none⟩ = some (.slice (some ⟨sb, off, none⟩) n (c - 9)) := Lib.cell_of_heap HB5.out 1
    have f0 : ∀ j, w5.frozen? ⟨w.heap.size, j, none⟩ = false := fun j => Lib.frozen_of_heap HB5.out j
    refine Lib.hid ?_
    go_wp2_with fail
    have HFr := Lib.hid ((((Fr.refl w.heap.size w5).set 1 (.slice ao5 n c5)).set 0 (.int .i64 k)).set 1 (.slice ao5 n c5))
    have hsz5 : w.heap.size < w5.heap.size := lt_of_heap HB5.out
    refine bodyPost_ret (v := .tuple #[.agg #[.int .i64 k, .slice ao5 n c5], .bool true]) (by simp [results, Tryz.results38, go_sem, a0, a1]) rfl ?_
    rw [HF.out, if_pos HSY.out]
    refine ⟨ao5, c5, by simp only; rw [HD.out], ?_, HBel5.out.grown HFr.out (Nat.le_of_lt hsz5) (fun k hk => by obtain rfl := Option.some.inj hk; exact Nat.le_refl _)⟩
    have hf := owns_far (e' := 44) HOwn.out (by decide) HFr.out (fun k hk => by
      obtain rfl := Option.some.inj hk
      exact ⟨_, _, HB5.out⟩)
    simp only
    rw [HD.out]
    exact hf
  · have t1 : ((s : Int) != (y : Int)) = true := by simp; omega
    have HSY := Lib.hid hsy
    clear hsy
    have i5 : (5 : Int) ≤ (l.length : Int) := by omega
    have i5n : 5 ≤ l.length := by omega
    have i5c : (l.length : Int) ≤ (c : Int) := by omega
    have i55 : (5 : Int) ≤ (c : Int) := by omega
    have hc5 : c ≠ 5 := by omega
    have t5 : ((l.length : Int) - 5).toNat = l.length - 5 := by omega
    go_quiet_grown (first
      | (go_at_call 75; exact Calls.grown_of ((KN.out _ _ _ (by omega)).mono fun _ _ ⟨h, g⟩ => ⟨h, g.out⟩))
      | (go_at_call 44; exact Calls.grown_of ((KS.out _ _).mono fun _ _ ⟨h, g⟩ => ⟨h, g.out⟩)))
    show Exit.then _ _ _ _ (Sort.grow (w3.drewN nq) osq)
    have HB4 : Hid ((Sort.grow (w3.drewN nq) osq).heap[w.heap.size]? = some (.cells #[.int .i64 k, .slice (some ⟨sb, off, none⟩) n (c - 9)] 44 (0, 0))) := ((Gr.below ⟨nq, osq, rfl⟩ : Below w3.heap.size w3 (Sort.grow (w3.drewN nq) osq)).block _ hsz3).trans HB3.out
    have HBel4 : Hid (Below w.heap.size w (Sort.grow (w3.drewN nq) osq)) := HBel3.out.trans ((Gr.below ⟨nq, osq, rfl⟩).mono (Nat.le_of_lt hsz3))
    clear b0 b1 KN KS HB3 HBel3
    generalize Sort.grow (w3.drewN nq) osq = w4 at HB4 HBel4 ⊢
    have a0 : w4.cell? ⟨w.heap.size, 0, none⟩ = some (.int .i64 k) := Lib.cell_of_heap HB4.out 0
    have a1 : w4.cell? ⟨w.heap.size, 1, none⟩ = some (.slice (some ⟨sb, off, none⟩) n (c - 9)) := Lib.cell_of_heap HB4.out 1
    have f0 : ∀ j, w4.frozen? ⟨w.heap.size, j, none⟩ = false := fun j => Lib.frozen_of_heap HB4.out j
    clear i4 i9 i9c i9l i5 i5n i5c i55 hc5 t5 t1 tn hsw wn wk g1 g2
    go_wp2_with fail
    refine bodyPost_ret (v := .tuple #[.agg #[.int .i64 0, .slice none 0 0], .bool false]) (by simp [results, Tryz.results38, go_sem, a0, a1]) rfl ?_
    rw [HF.out, if_neg HSY.out]
    exact ⟨rfl, (HBel4.out.setCell (p := ⟨w.heap.size, 0, none⟩) (Nat.le_refl _) _).setCell (p := ⟨w.heap.size, 1, none⟩) (Nat.le_refl _) _⟩

set_option maxRecDepth 100000 in
set_option maxHeartbeats 1000000 in
theorem first_long (ao : Option Addr) (l : List UInt8) (c n : Nat) (hn : n = num4 l) (hn1 : 1048576 < n) (h4 : 4 ≤ l.length) (hm : l.length ≤ 9223372036854775807) (w : World) (h : SlG w.heap.size w ao (bcells l)) :
    Calls Tryz.prog 38 #[.slice ao l.length c] w (FirstP (firstF l) w) := by
  have HF : Hid (firstF l = none) := by
    unfold Hid firstF
    rw [if_neg (by omega)]
  have HN := Lib.hid (numberIn_any ao l c h4 hm _ (h.up (below_own (.cells #[.int .i64 0, .slice none 0 0] 44)) (by simp)))
  rw [← hn] at HN
  have g1 : decide ((1048576 : Int) < (n : Int)) = true := by simp; omega
  have g2 : decide (1048576 < n) = true := by simp; omega
  clear h hn
  go_enter Tryz.func38, Tryz.ntmps38
  go_wp2_with (go_at_call 75; refine (HN.out).mono ?_; rintro e w1 ⟨rfl, hg⟩; refine Hid.out ?_)
  have hblk : w1.heap[w.heap.size]? = some (.cells #[.int .i64 0, .slice none 0 0] 44 (0, 0)) := (hg.below.block _ (by simp)).trans (heap_alloc_new w _)
  have HBel : Hid (Below w.heap.size w w1) := (below_own _).trans (hg.below.mono (by simp))
  have a0 : w1.cell? ⟨w.heap.size, 0, none⟩ = some (.int .i64 0) := Lib.cell_of_heap hblk 0
  have a1 : w1.cell? ⟨w.heap.size, 1, none⟩ = some (.slice none 0 0) := Lib.cell_of_heap hblk 1
  have f0 : ∀ j, w1.frozen? ⟨w.heap.size, j, none⟩ = false := fun j => Lib.frozen_of_heap hblk j
  clear hblk hg HN
  refine Lib.hid ?_
  go_wp2_with fail
  refine bodyPost_ret (v := .tuple #[.agg #[.int .i64 0, .slice none 0 0], .bool false]) (by simp [results, Tryz.results38, go_sem, a0, a1]) rfl ?_
  rw [HF.out]
  exact ⟨rfl, (HBel.out.setCell (p := ⟨w.heap.size, 0, none⟩) (Nat.le_refl _) _).setCell (p := ⟨w.heap.size, 1, none⟩) (Nat.le_refl _) _⟩

theorem first_any (ao : Option Addr) (l : List UInt8) (c : Nat) (ht : tornB l = false) (hc : l.length ≤ c) (hcm : c ≤ 9223372036854775807) (w : World) (h : SlG w.heap.size w ao (bcells l)) :
    Calls Tryz.prog 38 #[.slice ao l.length c] w (FirstP (firstF l) w) := by
  have h4 : 4 ≤ l.length := by
    apply Classical.byContradiction
    intro hn
    unfold tornB at ht
    simp [show l.length < 4 by omega] at ht
  by_cases h1 : num4 l ≤ 1048576
  · have h9 : 9 + num4 l ≤ l.length := by
      unfold tornB at ht
      simp [h1] at ht
      omega
    obtain ⟨sb, off, rfl, lt, hcl⟩ := h.cellB (by omega)
    by_cases hc9 : c = 9
    · refine first_end sb off l c (num4 l) rfl h1 h9 hc hcm (eq_true hc9) w h (dataB l) rfl _ rfl _ rfl ?_
      have h0 : num4 l = 0 := by omega
      unfold dataB
      rw [h0, List.take_zero]
      exact fun hne => absurd rfl hne
    · exact first_far sb off l c (num4 l) rfl h1 h9 hc hcm hc9 w h (dataB l) rfl _ rfl _ rfl (h.part 9 (num4 l))
  · exact first_long ao l c (num4 l) rfl (by omega) h4 (by omega) w h
end Go.Proofs.YtagjipkoheimjaaGreatDoor
