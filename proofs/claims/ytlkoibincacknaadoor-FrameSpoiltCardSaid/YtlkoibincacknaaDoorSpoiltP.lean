/- Bytes of a row of one's own that are turned in place; where a frame's Data stand among the bytes of all. -/
import Derived.Test.YtlkoibincacknaaDoorTornP
namespace Go.Proofs.YtlkoibincacknaaDoor
open Go.RowKit

/-- Bytes at the beginning of a block of one's own. -/
def RowAtG (w : World) (g c : Nat) (bs : List UInt8) : Prop := ∃ cur, w.heap[g]? = some (.cells cur 5 (0, 0)) ∧ cur.size = c ∧ bs.length ≤ c ∧ cur.toList.take bs.length = bcells bs
theorem RowAtG.of_owns {w : World} {base : Nat} {ao : Option Addr} {c : Nat} {bs : List UInt8} (h : w.ownsRow base 5 1 (.slice ao bs.length c) bs.length (bcells bs)) (hl : 0 < bs.length) : ∃ g, ao = some ⟨g, 0, none⟩ ∧ base ≤ g ∧ c ≤ maxLen ∧ RowAtG w g c bs := by
  rcases h.2 with ⟨h1, h2⟩ | ⟨g, cap, cur, h1, hb, hg, hnc, hcm, hs, ht⟩
  · omega
  · simp only [Value.slice.injEq] at h1
    obtain ⟨rfl, _, rfl⟩ := h1
    exact ⟨g, rfl, hb, hcm, cur, hg, by omega, hnc, by rw [Nat.mul_one] at ht; exact ht⟩
theorem RowAtG.get {w : World} {g c : Nat} {bs : List UInt8} (h : RowAtG w g c bs) (x : Nat) (hx : x < bs.length) : w.cell? ⟨g, x, none⟩ = some (.int .u8 ((bs[x]).toNat : Int)) := by
  obtain ⟨cur, h1, h2, h3, h4⟩ := h
  rw [Lib.cell_of_heap h1, ← Array.getElem?_toList, ← List.getElem?_take_of_lt hx, h4]
  simp [Lib.byteCells, hx]
theorem RowAtG.free {w : World} {g c : Nat} {bs : List UInt8} (h : RowAtG w g c bs) (x : Nat) : w.frozen? ⟨g, x, none⟩ = false := by
  obtain ⟨cur, h1, _⟩ := h
  exact Lib.frozen_of_heap h1 x
theorem RowAtG.lt {w : World} {g c : Nat} {bs : List UInt8} (h : RowAtG w g c bs) : g < w.heap.size := by
  obtain ⟨cur, h1, _⟩ := h
  exact lt_of_heap h1
theorem RowAtG.set {w : World} {g c : Nat} {bs : List UInt8} (h : RowAtG w g c bs) (x : Nat) (b : UInt8) : RowAtG (w.setCell ⟨g, x, none⟩ (.int .u8 (b.toNat : Int))) g c (bs.set x b) := by
  obtain ⟨cur, h1, h2, h3, h4⟩ := h
  refine ⟨_, Lib.heap_setCell_same (i := x) h1 _, by rw [Array.size_setIfInBounds, h2], by rw [List.length_set]; exact h3, ?_⟩
  rw [List.length_set, Array.toList_setIfInBounds, List.take_set, h4]
  simp only [Lib.byteCells, List.map_set]
theorem RowAtG.sl {w : World} {g c : Nat} {bs : List UInt8} (h : RowAtG w g c bs) : SlG w.heap.size w (some ⟨g, 0, none⟩) (bcells bs) := fun _ =>
  ⟨g, 0, rfl, h.lt, fun j u hj => by
    have hj2 : j < bs.length := by have := (List.getElem?_eq_some_iff.1 hj).1; rwa [bcells_length] at this
    rw [Nat.zero_add, h.get j hj2, ← hj]
    simp [Lib.byteCells, hj2]⟩
theorem RowAtG.below {w w' : World} {g c : Nat} {bs : List UInt8} (h : RowAtG w g c bs) (b : Below w.heap.size w w') : RowAtG w' g c bs := by
  obtain ⟨cur, h1, r⟩ := h
  exact ⟨cur, (b.block g (lt_of_heap h1)).trans h1, r⟩

def headF (f : FR) : List UInt8 := be4 f.2.length ++ (octI f.1 :: be4 (sumF f))
theorem headF_length (f : FR) : (headF f).length = 9 := rfl
theorem frB_head (f : FR) : frB f = headF f ++ f.2 := by
  unfold frB headF
  simp
/-- All bytes, at one frame's Data. -/
theorem flat_split (l : List FR) (j : Nat) (h : j < l.length) : l.flatMap frB = ((l.take j).flatMap frB ++ headF l[j]) ++ (l[j]).2 ++ (l.drop (j + 1)).flatMap frB := by
  have e : l.flatMap frB = (l.take (j + 1)).flatMap frB ++ (l.drop (j + 1)).flatMap frB := by rw [← List.flatMap_append, List.take_append_drop]
  rw [e, flat_take l j h, frB_head]
  simp only [List.append_assoc]
theorem pre_length (l : List FR) (j : Nat) (f : FR) : ((l.take j).flatMap frB ++ headF f).length = lenF (l.take j) + 9 := by
  rw [List.length_append, headF_length]
  rfl
theorem set_mid (p d q : List UInt8) (i : Nat) (hi : i < d.length) (b : UInt8) : (p ++ d ++ q).set (p.length + i) b = p ++ d.set i b ++ q := by
  rw [List.append_assoc, List.set_append_right _ _ (by omega), Nat.add_sub_cancel_left, List.set_append_left _ _ hi, List.append_assoc]
theorem get_mid (p d q : List UInt8) (i : Nat) (hi : i < d.length) : (p ++ d ++ q)[p.length + i]'(by simp; omega) = d[i] := by
  rw [List.getElem_append_left (by simp; omega), List.getElem_append_right (by omega)]
  simp
/-- Told up to the frame that was turned. -/
theorem scan_spoilt (l : List FR) (h : OkFs l) (j : Nat) (hj : j < l.length) (d : List UInt8) (hd : d.length = (l[j]).2.length) (t at_ : Nat) (ht : t < 2 ^ 32) (h0 : t ≠ 0) (ha : at_ ≤ 8 * d.length) (e : leN d = leN (l[j]).2 ^^^ (t * 2 ^ at_)) :
    scanP (((l.take j).flatMap frB ++ headF l[j]) ++ d ++ (l.drop (j + 1)).flatMap frB) = (l.take j, lenF (l.take j), true) := by
  have hf := h l[j] (List.getElem_mem hj)
  have hs : sumN (octI (l[j]).1 :: d) ≠ sumF l[j] := burst_sum (l[j]).2 d (octI (l[j]).1) t at_ hd.symm ht h0 (by omega) e
  have h2 := torn_flip l[j] ((l.drop (j + 1)).flatMap frB) hf d hd hs
  have hk : OkFs (l.take j) := fun f hf => h f (List.mem_of_mem_take hf)
  have h3 := scan_put (l.take j) hk (be4 (l[j]).2.length ++ (octI (l[j]).1 :: (be4 (sumF l[j]) ++ d)) ++ (l.drop (j + 1)).flatMap frB)
  rw [h2] at h3
  have e2 : ((l.take j).flatMap frB ++ headF l[j]) ++ d ++ (l.drop (j + 1)).flatMap frB = (l.take j).flatMap frB ++ (be4 (l[j]).2.length ++ (octI (l[j]).1 :: (be4 (sumF l[j]) ++ d)) ++ (l.drop (j + 1)).flatMap frB) := by
    unfold headF
    simp
  rw [e2, h3]
  simp [lenF]
/-- One bit more of the burst. -/
theorem leN_burst (d0 d : List UInt8) (t k a : Nat) (hk : t / 2 ^ k % 2 = 1) (hd : leN d = leN d0 ^^^ (t % 2 ^ k * 2 ^ a)) (hi : (a + k) / 8 < d.length) : leN (d.set ((a + k) / 8) (UInt8.ofNat ((d[(a + k) / 8]).toNat ^^^ 2 ^ ((a + k) % 8)))) = leN d0 ^^^ (t % 2 ^ (k + 1) * 2 ^ a) := by
  rw [leN_set d _ _ (by omega) hi, hd, low_xor t k a hk, Nat.xor_assoc, show 8 * ((a + k) / 8) + (a + k) % 8 = a + k by omega]
end Go.Proofs.YtlkoibincacknaaDoor
