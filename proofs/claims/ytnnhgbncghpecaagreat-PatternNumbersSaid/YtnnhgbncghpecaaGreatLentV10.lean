/- LentValues: a row copied into new memory, with marks behind its end. -/
import Derived.Test.YtnnhgbncghpecaaGreatBase10
import Derived.OwnWalk
import Derived.Laws.OwnMore
namespace Go.Proofs.YtnnhgbncghpecaaGreat
open Go.RowKit

def cellsV : List V3 → List Value
  | [] => []
  | x :: l => .int .u8 x.1 :: .int .i64 x.2.1 :: .string x.2.2 :: cellsV l

theorem cellsV_length (l : List V3) : (cellsV l).length = l.length * 3 := by
  induction l with
  | nil => rfl
  | cons x l ih => simp only [cellsV, List.length_cons, ih]; omega

theorem cellsV_append (l m : List V3) : cellsV (l ++ m) = cellsV l ++ cellsV m := by
  induction l with
  | nil => rfl
  | cons x l ih => simp only [cellsV, List.cons_append, ih]

theorem cellsV_one (l : List V3) : ∀ u ∈ cellsV l, u.oneCell' = true := by
  induction l with
  | nil => intro u hu; cases hu
  | cons x l ih =>
    intro u hu
    simp only [cellsV, List.mem_cons] at hu
    rcases hu with rfl | rfl | rfl | hu
    · rfl
    · rfl
    · rfl
    · exact ih u hu

theorem RowAt.cells {w : World} {b : Nat} (l : List V3) : ∀ {off : Nat}, RowAt w b off l → ∀ j u, (cellsV l)[j]? = some u → w.cell? ⟨b, off + j, none⟩ = some u := by
  induction l with
  | nil => intro off _ j u hu; simp [cellsV] at hu
  | cons x l ih =>
    intro off h j u hu
    have h0 : At w b off x := by have := h 0 (by simp); simpa using this
    have ht : RowAt w b (off + 3) l := by
      intro i hi
      have := h (i + 1) (by simp only [List.length_cons]; omega)
      rw [show off + (i + 1) * 3 = off + 3 + i * 3 by omega] at this
      simpa using this
    match j, hu with
    | 0, hu => simp only [cellsV, List.getElem?_cons_zero, Option.some.injEq] at hu; subst hu; exact h0.k
    | 1, hu => simp only [cellsV, List.getElem?_cons_succ, List.getElem?_cons_zero, Option.some.injEq] at hu; subst hu; exact h0.n
    | 2, hu => simp only [cellsV, List.getElem?_cons_succ, List.getElem?_cons_zero, Option.some.injEq] at hu; subst hu; exact h0.s
    | j + 3, hu =>
      simp only [cellsV, List.getElem?_cons_succ] at hu
      have := ih ht j u hu
      rwa [show off + (j + 3) = off + 3 + j by omega]

theorem RowAt.ofCells {w : World} {b : Nat} (l : List V3) : ∀ {off : Nat}, (∀ j, j < l.length * 3 → w.cell? ⟨b, off + j, none⟩ = (cellsV l)[j]?) → RowAt w b off l := by
  induction l with
  | nil => intro off _ j hj; exact absurd hj (Nat.not_lt_zero _)
  | cons x l ih =>
    intro off h j hj
    match j, hj with
    | 0, _ =>
      refine ⟨?_, ?_, ?_⟩
      · have := h 0 (by simp only [List.length_cons]; omega)
        simpa [cellsV] using this
      · have := h 1 (by simp only [List.length_cons]; omega)
        simpa [cellsV] using this
      · have := h 2 (by simp only [List.length_cons]; omega)
        simpa [cellsV] using this
    | j + 1, hj =>
      have := ih (off := off + 3) (fun t ht => by
        have := h (t + 3) (by simp only [List.length_cons]; omega)
        rw [show off + (t + 3) = off + 3 + t by omega] at this
        simpa only [cellsV, List.getElem?_cons_succ] using this) j (by simp only [List.length_cons] at hj; omega)
      rw [show off + (j + 1) * 3 = off + 3 + j * 3 by omega]
      simpa using this

/-- The value that is laid behind a row's end. -/
def markV (i : Nat) : V3 := (0, 8000024 + (i : Int), ⟨#[]⟩)
def marksV (n : Nat) : List V3 := (List.range n).map markV
theorem marksV_succ (n : Nat) : marksV (n + 1) = marksV n ++ [markV n] := by
  unfold marksV; rw [List.range_succ, List.map_append]; rfl
theorem marksV_length (n : Nat) : (marksV n).length = n := by unfold marksV; simp
theorem marksV_get (n i : Nat) (h : i < (marksV n).length) : (marksV n)[i] = markV i := by
  have := List.getElem_map markV (l := List.range n) (i := i) (h := h)
  rw [List.getElem_range] at this
  exact this

theorem infoV : (Tryz.prog.info? 27).map (fun i => (i.zero, i.size, i.bytes)) = some (some (.agg #[.int .u8 0, .int .i64 0, .string ⟨#[]⟩]), 3, 32) := by kernel_rfl

theorem markV_any (i : Nat) (w : World) (hi : i ≤ 1000) :
    Calls Tryz.prog 41 #[.int .i64 1, .int .i64 i] w fun e w' => e = .returned (.int .i64 (8000024 + i)) ∧ w = w' := by
  go_enter Tryz.func41, Tryz.ntmps41
  go_wp2
  go_ret
  exact ⟨rfl, rfl⟩

theorem markValue_any (i : Nat) (w : World) (hi : i ≤ 1000) :
    Calls Tryz.prog 25 #[.int .i64 1, .int .i64 i] w fun e w' => e = .returned (.agg #[.int .u8 0, .int .i64 (8000024 + i), .string ⟨#[]⟩]) ∧ w.alloc (.cells #[.int .u8 0, .int .i64 (8000024 + i), .string ⟨#[]⟩] 27) = w' := by
  go_enter Tryz.func25, Tryz.ntmps25
  go_wp2_with (go_at_call 41; refine (markV_any i _ hi).mono ?_; rintro e w' ⟨rfl, rfl⟩)
  exact bodyPost_ret (v := .agg #[.int .u8 0, .int .i64 (8000024 + i), .string ⟨#[]⟩]) (by simp [results, Tryz.results25, go_sem]) rfl ⟨rfl, rfl⟩


theorem cells_made2 (w : World) (o : Obj) (cs : Array Value) (t : TypeId) (b : Nat) (hb : b = w.heap.size + 1) (j : Nat) (u : Value) (h : cs[j]? = some u) : ((w.alloc o).alloc (.cells cs t)).cell? ⟨b, j, none⟩ = some u := by
  rw [show b = (w.alloc o).heap.size by rw [hb]; simp]
  exact cells_made _ _ _ _ _ h

set_option maxRecDepth 100000 in
set_option maxHeartbeats 2000000 in
theorem lentV_any (ao : Option Addr) (n c : Nat) (zs : List V3) (w : World) (hn : zs.length = n) (h20 : n ≤ 30) (hao : ao = none → n = 0 ∧ c = 0) (hrow : 0 < n → ∀ ad, ao = some ad → ∃ b off, ad = ⟨b, off, none⟩ ∧ b < w.heap.size ∧ RowAt w b off zs) :
    Calls Tryz.prog 9 #[.slice ao n c] w fun e w' => e = .returned (.slice (some ⟨w.heap.size, 0, none⟩) n (n + 12)) ∧ w.heap.size < w'.heap.size ∧ RowAt w' w.heap.size 0 (zs ++ marksV 12) ∧ Below w.heap.size w w' := by
  obtain ⟨i0, hi, hz0, hz1, hz2⟩ := info_parts infoV
  have hcells : ∀ w1, Below w.heap.size w w1 → ∀ ad, ao = some ad → ∀ j u, (cellsV zs)[j]? = some u → w1.cell? (ad.add j) = some u := by
    intro w1 hb ad had j u hu
    have hpos : 0 < n := by
      rcases Nat.eq_zero_or_pos n with h0 | h0
      · rw [h0] at hn
        rw [List.eq_nil_of_length_eq_zero hn] at hu
        simp [cellsV] at hu
      · exact h0
    obtain ⟨b, off, rfl, hbl, hr⟩ := hrow hpos ad had
    rw [Addr.add_lit]
    exact (hb.cell (p := ⟨b, off + j, none⟩) hbl).trans (RowAt.cells zs hr j u hu)
  have HC := Lib.hid hcells
  have HAO := Lib.hid hao
  have HN := Lib.hid hn
  clear hcells hrow hao hn
  go_enter Tryz.func9, Tryz.ntmps9
  go_wp2_with (first
    | (at_make; refine wpList_make_own _ rfl _ _ 34 rfl w.heap.size 27 i0 (.agg #[.int .u8 0, .int .i64 0, .string ⟨#[]⟩]) 3 Tryz.underlying34 hi hz0 hz1 .i64 .i64 _ (n + 12) rfl rfl (by omega) (by rw [hz2]; omega) (by unfold maxLen; omega) (Nat.le_refl _) ?_; intro w0 hown0 hgrow0)
    | (at_builtin; refine wpList_append_fits_any _ rfl (.tmp 9) (.tmp 10) 34 rfl w.heap.size 27 i0 3 Tryz.underlying34 hi hz1 w.heap.size 0 (n + 12) _ rfl hown0 ao n c (cellsV zs) rfl (by rw [cellsV_length, HN.out]) HAO.out (HC.out _ ((Below.refl _ _).grown hgrow0 (Nat.le_refl _) (fun k h => by cases h))) (cellsV_one _) (by omega) ?_; intro w1 hown1 hgrow1; simp only [Nat.zero_add, List.nil_append] at hown1))
  have HB1 : Below w.heap.size w w1 := ((Below.refl _ _).grown hgrow0 (Nat.le_refl _) (fun k h => by cases h)).grown hgrow1 hgrow0.size (fun k h => by cases h; exact Nat.le_refl _)
  clear hgrow0 hgrow1 HC HAO hown0
  go_loopw [3, 4] (fun v i wr => ∃ k : Nat, k ≤ 12 ∧ i = .int .i64 k ∧ v = .slice (some ⟨w.heap.size, 0, none⟩) (n + k) (n + 12) ∧ wr.ownsRow w.heap.size 27 3 (.slice (some ⟨w.heap.size, 0, none⟩) (n + k) (n + 12)) (n + k) (cellsV (zs ++ marksV k)) ∧ Below w.heap.size w wr) (fun _ i _ => 12 - (intOf i).toNat)
  case atStart => exact ⟨0, by omega, rfl, rfl, by simpa [marksV] using hown1, HB1⟩
  case round =>
    obtain ⟨k, hk, rfl, rfl, hown, hb⟩ := hrel
    have HBr := Lib.hid hb
    clear hb hown1 HB1
    have hsz : w.heap.size ≤ wr.heap.size := HBr.out.size
    go_wp2_with (first
      | (go_at_call 25; refine (markValue_any k _ (by omega)).mono ?_; rintro e w' ⟨rfl, rfl⟩)
      | (at_builtin; refine wpList_append_fits _ rfl (.tmp 16) (.tmp 19) 34 rfl w.heap.size 27 i0 3 Tryz.underlying34 hi hz1 w.heap.size (n + k) (n + 12) _ rfl ((hown.alloc _).alloc _) ⟨wr.heap.size + 1, 0, none⟩ 1 1 (cellsV [markV k]) rfl rfl (fun j u hu => by rw [Addr.add_lit, Nat.zero_add]; exact cells_made2 wr _ _ _ _ rfl j u (by simpa [cellsV, markV] using hu)) (cellsV_one _) (by omega) ?_; intro w4 hown4 hgrow4))
    · have R : w4.ownsRow w.heap.size 27 3 (.slice (some ⟨w.heap.size, 0, none⟩) (n + (k + 1)) (n + 12)) (n + (k + 1)) (cellsV (zs ++ marksV (k + 1))) := by
        rw [marksV_succ, ← List.append_assoc, cellsV_append]
        exact hown4
      have HB4 : Below w.heap.size w w4 := ((HBr.out.alloc hsz _).alloc (by simp; omega) _).grown hgrow4 (by simp; omega) (fun k h => by cases h; exact Nat.le_refl _)
      clear hown4 hgrow4 hown
      go_roundw
      case rel => exact ⟨k + 1, by omega, by go_num, rfl, R, HB4⟩
      case measure => simp [intOf]; omega
    · have hk12 : k = 12 := by omega
      subst hk12
      have hL : (zs ++ marksV 12).length = n + 12 := by rw [List.length_append, marksV_length, HN.out]
      have hlt : w.heap.size < wr.heap.size := by
        rcases hown.2 with ⟨h', _⟩ | ⟨g', cap', cur, h', _, hg, _⟩
        · simp at h'
        · simp only [Value.slice.injEq, Option.some.injEq, Addr.mk.injEq, and_true, true_and] at h'
          obtain ⟨rfl, rfl⟩ := h'
          exact (Array.getElem?_eq_some_iff.1 hg).1
      have HR : RowAt wr w.heap.size 0 (zs ++ marksV 12) := RowAt.ofCells _ fun j hj => by
        rw [Nat.zero_add]
        exact hown.cellAt j (by rw [hL] at hj; exact hj)
      have HR' := Lib.hid HR
      clear hown HR hL
      go_wp2
      go_ret
      exact ⟨rfl, hlt, HR'.out, HBr.out⟩
end Go.Proofs.YtnnhgbncghpecaaGreat
