/- Do as one plain function of its row. -/
import Derived.Test.YtkbkkhfmejpbeaaDo
namespace Go.Proofs.Ytkbkkhfmejpbeaa
open Go.RowKit

abbrev V3 := Int × Int × ByteArray

/-- What an operator makes of two values that are as they should be (of OpNeg, OpNot both are the one). -/
def valV (op : Int) (x y : V3) : V3 × Int :=
  if op = 5 then (numT (truthN (eqvB x y)), 0)
  else if op = 6 then (numT (truthN (!eqvB x y)), 0)
  else if op = 7 then (numT (truthN (decide (x.2.1 < y.2.1))), 0)
  else if op = 8 then (numT (truthN (decide (x.2.1 ≤ y.2.1))), 0)
  else if op = 9 then (numT (truthN (x.2.1 != 0 && y.2.1 != 0)), 0)
  else if op = 10 then (numT (truthN (x.2.1 != 0 || y.2.1 != 0)), 0)
  else if op = 11 then (numT (truthN (!(x.2.1 != 0))), 0)
  else if fitB (recN op x.2.1 y.2.1) = true then (numT (recN op x.2.1 y.2.1), 0)
  else (zeroT, 300)

def doV (op : Int) (l : List V3) : V3 × Int :=
  if knownB op = false then (zeroT, 2)
  else if ((l.length : Int) != placesN op) = true then (zeroT, 2)
  else if l.any wrongB = true then (zeroT, 2)
  else if takesB op = false ∧ l.any nameB = true then (zeroT, 301)
  else valV op (l.headD zeroT) (l.getLastD zeroT)

/-- What is asked of a row of values: numbers of 64 bits, texts that a machine can hold. -/
def Fine (l : List V3) : Prop := ∀ x, x ∈ l → In64 x.2.1 ∧ x.2.2.size ≤ maxLen

theorem known_cases {op : Int} (h : knownB op = true) : op = 1 ∨ op = 2 ∨ op = 3 ∨ op = 4 ∨ op = 5 ∨ op = 6 ∨ op = 7 ∨ op = 8 ∨ op = 9 ∨ op = 10 ∨ op = 11 := by
  simp [knownB] at h
  omega

theorem length_two {l : List V3} (h : ((l.length : Int) != 2) = false) : ∃ x y, l = [x, y] := by
  have h' : l.length = 2 := by simp at h; omega
  match l, h' with
  | [x, y], _ => exact ⟨x, y, rfl⟩

theorem length_one {l : List V3} (h : ((l.length : Int) != 1) = false) : ∃ x, l = [x] := by
  have h' : l.length = 1 := by simp at h; omega
  match l, h' with
  | [x], _ => exact ⟨x, rfl⟩

theorem do_any (op : Int) (b off c : Nat) (zs : List V3) (w : World) (hz : zs.length ≤ 9223372036854775807) (hb : b < w.heap.size) (hc : RowAt w b off zs) (hm : Fine zs) :
    Calls Try.prog 44 #[.int .u8 op, .slice (some ⟨b, off, none⟩) zs.length c] w (DoPost (doV op zs) w) := by
  have hs : ∀ x, x ∈ zs → x.2.2.size ≤ maxLen := fun x hx => (hm x hx).2
  unfold doV
  cases h : knownB op with
  | false => rw [if_pos rfl]; exact do_unknown op _ w h
  | true =>
    rw [if_neg (by simp)]
    cases h2 : ((zs.length : Int) != placesN op) with
    | true => rw [if_pos rfl]; exact do_places op _ _ c w h h2
    | false =>
      rw [if_neg (by simp)]
      have hl : ∀ W, Below w.heap.size w W → b < W.heap.size := fun W hW => Nat.lt_of_lt_of_le hb hW.size
      have HW := fun W (hW : Below w.heap.size w W) => contains_wrong b off c zs W hz (hl W hW) (hc.later hW hb) hs
      have HN := fun W (hW : Below w.heap.size w W) => contains_name b off c zs W hz (hl W hW) (hc.later hW hb) hs
      cases h3 : zs.any wrongB with
      | true =>
        rw [if_pos rfl]
        rw [h3] at HW
        exact do_wrong op b off _ c w h h2 HW
      | false =>
        rw [if_neg (by simp)]
        rw [h3] at HW
        cases h4 : takesB op with
        | true =>
          rw [if_neg (by simp)]
          have hop : op = 5 ∨ op = 6 := by simp [takesB] at h4; exact h4
          rcases hop with rfl | rfl
          · obtain ⟨x, y, rfl⟩ := length_two h2
            have hx := hc 0 (by simp)
            have hy := hc 1 (by simp)
            simp only [Nat.zero_mul, Nat.add_zero, Nat.one_mul] at hx hy
            refine do_asked 5 _ b off _ c w h h2 h4 HW fun W hW => answer_5 b off c _ _ _ _ _ _ W (hx.later hW hb) (hy.later hW hb) (hl W hW)
          · obtain ⟨x, y, rfl⟩ := length_two h2
            have hx := hc 0 (by simp)
            have hy := hc 1 (by simp)
            simp only [Nat.zero_mul, Nat.add_zero, Nat.one_mul] at hx hy
            refine do_asked 6 _ b off _ c w h h2 h4 HW fun W hW => answer_6 b off c _ _ _ _ _ _ W (hx.later hW hb) (hy.later hW hb) (hl W hW)
        | false =>
          cases h5 : zs.any nameB with
          | true =>
            rw [if_pos ⟨rfl, rfl⟩]
            rw [h5] at HN
            exact do_kind op b off _ c w h h2 h4 HW HN
          | false =>
            rw [if_neg (by simp)]
            rw [h5] at HN
            rcases known_cases h with rfl | rfl | rfl | rfl | rfl | rfl | rfl | rfl | rfl | rfl | rfl
            · obtain ⟨x, y, rfl⟩ := length_two h2
              have hx := hc 0 (by simp)
              have hy := hc 1 (by simp)
              simp only [Nat.zero_mul, Nat.add_zero, Nat.one_mul] at hx hy
              have r1 := (hm x (by simp)).1
              have r2 := (hm y (by simp)).1
              have HR := fun W (hW : Below w.heap.size w W) => result_1 b off c _ _ _ _ _ _ W (hx.later hW hb) (hy.later hW hb) (hl W hW) r1 r2
              show Calls _ _ _ _ (DoPost (if fitB (x.2.1 + y.2.1) = true then (numT (x.2.1 + y.2.1), 0) else (zeroT, 300)) w)
              cases hf : fitB (x.2.1 + y.2.1) with
              | true =>
                rw [if_pos rfl]
                rw [hf, wrap_fit hf] at HR
                exact do_fits 1 _ b off _ c w h h2 h4 HW HN (fun W _ => answer_1 _ W) HR
              | false =>
                rw [if_neg (by simp)]
                rw [hf] at HR
                exact do_over 1 _ b off _ c w h h2 h4 HW HN (fun W _ => answer_1 _ W) HR
            · obtain ⟨x, y, rfl⟩ := length_two h2
              have hx := hc 0 (by simp)
              have hy := hc 1 (by simp)
              simp only [Nat.zero_mul, Nat.add_zero, Nat.one_mul] at hx hy
              have r1 := (hm x (by simp)).1
              have r2 := (hm y (by simp)).1
              have HR := fun W (hW : Below w.heap.size w W) => result_2 b off c _ _ _ _ _ _ W (hx.later hW hb) (hy.later hW hb) (hl W hW) r1 r2
              show Calls _ _ _ _ (DoPost (if fitB (x.2.1 - y.2.1) = true then (numT (x.2.1 - y.2.1), 0) else (zeroT, 300)) w)
              cases hf : fitB (x.2.1 - y.2.1) with
              | true =>
                rw [if_pos rfl]
                rw [hf, wrap_fit hf] at HR
                exact do_fits 2 _ b off _ c w h h2 h4 HW HN (fun W _ => answer_2 _ W) HR
              | false =>
                rw [if_neg (by simp)]
                rw [hf] at HR
                exact do_over 2 _ b off _ c w h h2 h4 HW HN (fun W _ => answer_2 _ W) HR
            · obtain ⟨x, y, rfl⟩ := length_two h2
              have hx := hc 0 (by simp)
              have hy := hc 1 (by simp)
              simp only [Nat.zero_mul, Nat.add_zero, Nat.one_mul] at hx hy
              have r1 := (hm x (by simp)).1
              have r2 := (hm y (by simp)).1
              have HR := fun W (hW : Below w.heap.size w W) => result_3 b off c _ _ _ _ _ _ W (hx.later hW hb) (hy.later hW hb) (hl W hW) r1 r2
              show Calls _ _ _ _ (DoPost (if fitB (x.2.1 * y.2.1) = true then (numT (x.2.1 * y.2.1), 0) else (zeroT, 300)) w)
              cases hf : fitB (x.2.1 * y.2.1) with
              | true =>
                rw [if_pos rfl]
                rw [hf, wrap_fit hf] at HR
                exact do_fits 3 _ b off _ c w h h2 h4 HW HN (fun W _ => answer_3 _ W) HR
              | false =>
                rw [if_neg (by simp)]
                rw [hf] at HR
                exact do_over 3 _ b off _ c w h h2 h4 HW HN (fun W _ => answer_3 _ W) HR
            · obtain ⟨x, rfl⟩ := length_one h2
              have hx := hc 0 (by simp)
              simp only [Nat.zero_mul, Nat.add_zero] at hx
              have r1 := (hm x (by simp)).1
              have HR := fun W (hW : Below w.heap.size w W) => result_4 b off c _ _ _ W (hx.later hW hb) (hl W hW) r1
              show Calls _ _ _ _ (DoPost (if fitB (-x.2.1) = true then (numT (-x.2.1), 0) else (zeroT, 300)) w)
              cases hf : fitB (-x.2.1) with
              | true =>
                rw [if_pos rfl]
                rw [hf, wrap_fit hf] at HR
                exact do_fits 4 _ b off _ c w h h2 h4 HW HN (fun W _ => answer_4 _ W) HR
              | false =>
                rw [if_neg (by simp)]
                rw [hf] at HR
                exact do_over 4 _ b off _ c w h h2 h4 HW HN (fun W _ => answer_4 _ W) HR
            · simp [takesB] at h4
            · simp [takesB] at h4
            · obtain ⟨x, y, rfl⟩ := length_two h2
              have hx := hc 0 (by simp)
              have hy := hc 1 (by simp)
              simp only [Nat.zero_mul, Nat.add_zero, Nat.one_mul] at hx hy
              exact do_asked' 7 _ b off _ c w h h2 h4 HW HN fun W hW => answer_7 b off c _ _ _ _ _ _ W (hx.later hW hb) (hy.later hW hb) (hl W hW)
            · obtain ⟨x, y, rfl⟩ := length_two h2
              have hx := hc 0 (by simp)
              have hy := hc 1 (by simp)
              simp only [Nat.zero_mul, Nat.add_zero, Nat.one_mul] at hx hy
              exact do_asked' 8 _ b off _ c w h h2 h4 HW HN fun W hW => answer_8 b off c _ _ _ _ _ _ W (hx.later hW hb) (hy.later hW hb) (hl W hW)
            · obtain ⟨x, y, rfl⟩ := length_two h2
              have hx := hc 0 (by simp)
              have hy := hc 1 (by simp)
              simp only [Nat.zero_mul, Nat.add_zero, Nat.one_mul] at hx hy
              exact do_asked' 9 _ b off _ c w h h2 h4 HW HN fun W hW => answer_9 b off c _ _ _ _ _ _ W (hx.later hW hb) (hy.later hW hb) (hl W hW)
            · obtain ⟨x, y, rfl⟩ := length_two h2
              have hx := hc 0 (by simp)
              have hy := hc 1 (by simp)
              simp only [Nat.zero_mul, Nat.add_zero, Nat.one_mul] at hx hy
              exact do_asked' 10 _ b off _ c w h h2 h4 HW HN fun W hW => answer_10 b off c _ _ _ _ _ _ W (hx.later hW hb) (hy.later hW hb) (hl W hW)
            · obtain ⟨x, rfl⟩ := length_one h2
              have hx := hc 0 (by simp)
              simp only [Nat.zero_mul, Nat.add_zero] at hx
              exact do_asked' 11 _ b off _ c w h h2 h4 HW HN fun W hW => answer_11 b off c _ _ _ W (hx.later hW hb) (hl W hW)
end Go.Proofs.Ytkbkkhfmejpbeaa
