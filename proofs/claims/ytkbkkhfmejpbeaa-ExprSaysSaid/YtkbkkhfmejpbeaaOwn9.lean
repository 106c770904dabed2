/- The program's own: what is told is copied into new memory; what each kind says, as it is made. -/
import Derived.Test.YtkbkkhfmejpbeaaThrough9
import Derived.Test.YtkbkkhfmejpbeaaShelf
namespace Go.Proofs.Ytkbkkhfmejpbeaa
open Go.RowKit

theorem clone9 (s : ByteArray) (w : World) (hlim : s.size ≤ 281474976710656) :
    Calls Try.prog 47 #[.string s] w fun e w' => e = .returned (.string s) ∧ Below w.heap.size w w' := by
  go_enter Try.func47, Try.ntmps47
  go_wp2_with (go_at_call 63; refine (Try.stringslite_Clone s _ hlim).mono ?_; rintro e w1 ⟨rfl, hb⟩)
  go_ret
  exact ⟨rfl, hb⟩

theorem cell_blk {w w' : World} {b o : Nat} (e : w'.heap[b]? = w.heap[b]?) : w'.cell? ⟨b, o, none⟩ = w.cell? ⟨b, o, none⟩ := by
  unfold World.cell?
  simp only [e]
theorem frozen_blk {w w' : World} {b o : Nat} (e : w'.heap[b]? = w.heap[b]?) : w'.frozen? ⟨b, o, none⟩ = w.frozen? ⟨b, o, none⟩ := by
  unfold World.frozen?
  simp only [e]
theorem owns_blk {w w' : World} {base e size n m c g : Nat} {xs : List Value} (h : w.ownsRow base e size (.slice (some ⟨g, 0, none⟩) n c) m xs) (b : w'.heap[g]? = w.heap[g]?) : w'.ownsRow base e size (.slice (some ⟨g, 0, none⟩) n c) m xs := by
  refine ⟨h.1, ?_⟩
  rcases h.2 with h' | ⟨g', cap, cur, h', hb, hg, r⟩
  · exact Or.inl h'
  · simp only [Value.slice.injEq, Option.some.injEq, Addr.mk.injEq, and_true] at h'
    obtain ⟨rfl, rfl, rfl⟩ := h'
    exact Or.inr ⟨g, c, cur, rfl, hb, b.trans hg, r⟩
theorem cellsV_three (l : List V3) : ∀ (i : Nat) (h : i < l.length), (cellsV l)[i * 3]? = some (.int .u8 (l[i]).1) ∧ (cellsV l)[i * 3 + 1]? = some (.int .i64 (l[i]).2.1) ∧ (cellsV l)[i * 3 + 2]? = some (.string (l[i]).2.2) := by
  induction l with
  | nil => intro i h; cases h
  | cons x l ih =>
    intro i h
    cases i with
    | zero => exact ⟨rfl, rfl, rfl⟩
    | succ i =>
      obtain ⟨h1, h2, h3⟩ := ih i (by simpa using h)
      rw [show (i + 1) * 3 = i * 3 + 1 + 1 + 1 by omega]
      exact ⟨h1, h2, h3⟩
theorem made_zeros (n : Nat) : (madeCells (Value.agg #[.int .u8 0, .int .i64 0, .string ⟨#[]⟩]).cells (n * 3)).toList = cellsV (List.replicate n zeroT) := by
  apply List.ext_getElem?
  intro j
  by_cases hj : j < n * 3
  · have h1 : (madeCells (Value.agg #[.int .u8 0, .int .i64 0, .string ⟨#[]⟩]).cells (n * 3)).toList[j]? = some ((#[Value.int .u8 0, .int .i64 0, .string ⟨#[]⟩] : Array Value)[j % 3]!) := by
      simp [madeCells, hj, Value.cells]
    rw [h1]
    have hi : j / 3 < (List.replicate n zeroT).length := by rw [List.length_replicate]; omega
    obtain ⟨c0, c1, c2⟩ := cellsV_three (List.replicate n zeroT) (j / 3) hi
    rw [List.getElem_replicate] at c0 c1 c2
    have hr : j % 3 = 0 ∨ j % 3 = 1 ∨ j % 3 = 2 := by omega
    rcases hr with h | h | h
    · rw [h, show j = j / 3 * 3 by omega, c0]; rfl
    · rw [h, show j = j / 3 * 3 + 1 by omega, c1]; rfl
    · rw [h, show j = j / 3 * 3 + 2 by omega, c2]; rfl
  · rw [List.getElem?_eq_none (by simp [madeCells]; omega), List.getElem?_eq_none (by rw [cellsV_length, List.length_replicate]; omega)]
theorem set_three (a b : List V3) (x z : V3) : (((cellsV (a ++ z :: b)).set (a.length * 3) (.int .u8 x.1)).set (a.length * 3 + 1) (.int .i64 x.2.1)).set (a.length * 3 + 2) (.string x.2.2) = cellsV (a ++ x :: b) := by
  have hl := cellsV_length a
  rw [cellsV_append, cellsV_append, List.set_append_right (h := by omega), List.set_append_right (h := by omega), List.set_append_right (h := by omega), hl, Nat.sub_self, show a.length * 3 + 1 - a.length * 3 = 1 by omega, show a.length * 3 + 2 - a.length * 3 = 2 by omega]
  rfl

set_option maxRecDepth 100000 in
set_option maxHeartbeats 4000000 in
theorem own_any (so : Option Addr) (n c : Nat) (zs : List V3) (w : World) (hn : zs.length = n) (hs : n ≤ 1000000) (hr : 0 < n → ∃ b off, so = some ⟨b, off, none⟩ ∧ b < w.heap.size ∧ RowAt w b off zs) (hf : ∀ x, x ∈ zs → x.2.2.size ≤ 1000) :
    Calls Try.prog 31 #[.slice so n c] w fun e w' => e = .returned (.slice (some ⟨w.heap.size, 0, none⟩) n n) ∧ w.heap.size < w'.heap.size ∧ RowAt w' w.heap.size 0 zs ∧ Below w.heap.size w w' := by
  obtain ⟨i0, hi, hz0, hz1, hz2⟩ := info_parts infoV
  have HR := Lib.hid hr
  have HF := Lib.hid hf
  have HN := Lib.hid hn
  clear hr hf hn
  have mixed : Try.prog.follows .mixedOrders = true := by kernel_rfl
  go_enter Try.func31, Try.ntmps31
  go_wp2_with (at_make; go_must (refine wpList_make_full _ rfl _ _ 30 rfl w.heap.size 25 i0 (.agg #[.int .u8 0, .int .i64 0, .string ⟨#[]⟩]) 3 Try.underlying30 hi hz0 hz1 .i64 .i64 _ _ n rfl rfl rfl rfl (by rw [hz2]; omega) (by unfold maxLen; omega) (Nat.le_refl _) ?_; intro w0 hown0 hgrow0; rw [made_zeros] at hown0))
  have HB0 : Hid (Below w.heap.size w w0) := (Below.refl _ w).grown hgrow0 (Nat.le_refl _) (fun k h => by cases h)
  have HO0 := Lib.hid hown0
  clear hown0 hgrow0
  go_loopw [11] (fun s11 wr => ∃ k : Nat, k ≤ n ∧ s11 = .int .i64 k ∧ Hid (wr.ownsRow w.heap.size 25 3 (.slice (some ⟨w.heap.size, 0, none⟩) n n) n (cellsV (zs.take k ++ List.replicate (n - k) zeroT))) ∧ Hid (Below w.heap.size w wr)) (fun s11 _ => n - (intOf s11).toNat)
  case atStart => exact ⟨0, by omega, rfl, by rw [List.take_zero, List.nil_append, Nat.sub_zero]; exact HO0, HB0⟩
  case round =>
    obtain ⟨k, hk, rfl, HO, HB⟩ := hrel
    clear HO0 HB0
    have hgl := (HO.out.lt w.heap.size rfl).2
    by_cases hlt : k < n
    · have hkz : k < zs.length := by rw [HN.out]; exact hlt
      obtain ⟨b, off, rfl, hbl, hrow⟩ := HR.out (by omega)
      have hat := (hrow k hkz).later HB.out hbl
      have hfx := HF.out _ (List.getElem_mem hkz)
      have HX := Lib.hid (show zs.take (k + 1) = zs.take k ++ [zs[k]] by rw [List.take_add_one, List.getElem?_eq_getElem hkz]; rfl)
      clear hrow
      generalize zs[k] = x at hat hfx HX
      obtain ⟨x1, x2, x3⟩ := x
      obtain ⟨a1, a2, a3⟩ := hat
      have hkn : (k : Int) < (n : Int) := by omega
      have hbr : b < wr.heap.size := Nat.lt_of_lt_of_le hbl HB.out.size
      have hbe : b ≠ wr.heap.size := by omega
      have hge : w.heap.size ≠ wr.heap.size := by omega
      have hl1 : (zs.take k ++ List.replicate (n - k) zeroT).length = n := by rw [List.length_append, List.length_take, List.length_replicate, HN.out]; omega
      obtain ⟨z0, z1, z2⟩ := cellsV_three (zs.take k ++ List.replicate (n - k) zeroT) k (by omega)
      have hfx2 : x3.size ≤ 1000 := hfx
      have HC := Lib.hid (fun W => clone9 x3 W (by omega))
      have c0 := (HO.out.cellAt (k * 3) (by omega)).trans z0
      have c1 := (HO.out.cellAt (k * 3 + 1) (by omega)).trans z1
      have c2 := (HO.out.cellAt (k * 3 + 2) (by omega)).trans z2
      have cf := fun j => HO.out.frozenAt j
      generalize ((zs.take k ++ List.replicate (n - k) zeroT)[k]'(by omega)).1 = y1 at c0 z0
      generalize ((zs.take k ++ List.replicate (n - k) zeroT)[k]'(by omega)).2.1 = y2 at c1 z1
      generalize ((zs.take k ++ List.replicate (n - k) zeroT)[k]'(by omega)).2.2 = y3 at c2 z2
      clear z0 z1 z2 hl1 hfx hfx2
      go_wp2_with fail
      go_region_with (go_at_call 47; go_must (refine (HC.out _).mono ?_; rintro e w1 ⟨rfl, hg⟩; have hblk : w1.heap[w.heap.size]? = wr.heap[w.heap.size]? := (hg.block w.heap.size (by simp; omega)).trans (Below.heap_alloc wr _ _ hgl); have d0 := (cell_blk (o := k * 3) hblk).trans c0; have d1 := (cell_blk (o := k * 3 + 1) hblk).trans c1; have d2 := (cell_blk (o := k * 3 + 2) hblk).trans c2; have df := fun j => (frozen_blk (o := j) hblk).trans (cf j); have hbox : w1.heap[wr.heap.size]? = _ := (hg.block wr.heap.size (by simp)).trans (alloc_at (w := wr) rfl (.cells #[.int .u8 x1, .int .i64 x2, .string x3] 25)); have v0 := Lib.cell_of_heap hbox 0; have v1 := Lib.cell_of_heap hbox 1; have v2 := Lib.cell_of_heap hbox 2; have HG := Lib.hid (show Below (wr.heap.size + 1) _ w1 from hg.mono (by simp)); have HK := Lib.hid hblk; clear hg hblk hbox))
      all_goals
        have hB1 : Below w.heap.size w w1 := (((HB.out.alloc HB.out.size _).drew).trans (HG.out.mono (by omega)))
        have HO1 := owns_blk HO.out HK.out
        have hs3 := (World.ownsRow.stored ((World.ownsRow.stored ((World.ownsRow.stored HO1 (k * 3) (.int .u8 x1)).1) (k * 3 + 1) (.int .i64 x2)).1) (k * 3 + 2) (.string x3)).1
        have hrep : zs.take k ++ List.replicate (n - k) zeroT = zs.take k ++ zeroT :: List.replicate (n - (k + 1)) zeroT := by
          rw [show n - k = (n - (k + 1)) + 1 by omega, List.replicate_succ]
        have hset := set_three (zs.take k) (List.replicate (n - (k + 1)) zeroT) (x1, x2, x3) zeroT
        rw [show (zs.take k).length = k by rw [List.length_take]; omega] at hset
        rw [hrep, hset] at hs3
        have HO3 : Hid ((((w1.setCell ⟨w.heap.size, k * 3, none⟩ (.int .u8 x1)).setCell ⟨w.heap.size, k * 3 + 1, none⟩ (.int .i64 x2)).setCell ⟨w.heap.size, k * 3 + 2, none⟩ (.string x3)).ownsRow w.heap.size 25 3 (.slice (some ⟨w.heap.size, 0, none⟩) n n) n (cellsV (zs.take (k + 1) ++ List.replicate (n - (k + 1)) zeroT))) := by
          rw [HX.out, List.append_assoc]
          exact hs3
        have HB3 : Hid (Below w.heap.size w (((w1.setCell ⟨w.heap.size, k * 3, none⟩ (.int .u8 x1)).setCell ⟨w.heap.size, k * 3 + 1, none⟩ (.int .i64 x2)).setCell ⟨w.heap.size, k * 3 + 2, none⟩ (.string x3))) :=
          ((hB1.setCell (p := ⟨w.heap.size, _, none⟩) (Nat.le_refl _) _).setCell (p := ⟨w.heap.size, _, none⟩) (Nat.le_refl _) _).setCell (p := ⟨w.heap.size, _, none⟩) (Nat.le_refl _) _
        clear hB1 HO1 hs3 hrep hset HO HB HK HG HX d0 d1 d2 df v0 v1 v2 c0 c1 c2 cf a1 a2 a3 HC
        go_wp2_with fail
        go_roundw
        case rel => exact ⟨k + 1, by omega, by go_num, HO3, HB3⟩
        case measure => simp [intOf]; omega
    · obtain rfl : k = n := by omega
      have hltz : ¬ (k : Int) < (k : Int) := by omega
      have HT : Hid (RowAt wr w.heap.size 0 zs) := by
        have ho := HO.out
        rw [Nat.sub_self, List.replicate_zero, List.append_nil, ← HN.out, List.take_length] at ho
        refine RowAt.ofCells zs fun j hj => ?_
        rw [Nat.zero_add]
        exact ho.cellAt j hj
      clear HO
      go_wp2_with fail
      go_ret
      exact ⟨rfl, hgl, HT.out, HB.out⟩
end Go.Proofs.Ytkbkkhfmejpbeaa
