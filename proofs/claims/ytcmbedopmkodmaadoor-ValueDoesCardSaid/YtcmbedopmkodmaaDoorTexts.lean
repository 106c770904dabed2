/- Text on both sides as one plain function. -/
import Derived.Test.YtcmbedopmkodmaaDoorTextG
namespace Go.Proofs.YtcmbedopmkodmaaDoor
open Go.RowKit

theorem named_short {l : List UInt8} (h : namedB l = true) : l.length ≤ 24 := by
  unfold namedB at h
  simp only [Bool.and_eq_true, decide_eq_true_eq] at h
  exact h.1.1.2

theorem right_two {n : Int} {s : ByteArray} (h : rightB 2 n s = true) : s.size ≤ 24 := by
  have hn : namedB s.data.toList = true := by
    simp [rightB] at h
    exact h.2
  simpa using named_short hn

theorem right_kind {k n : Int} {s : ByteArray} (h : rightB k n s = true) (h2 : k ≠ 2) : k = 1 := by
  simp [rightB, h2] at h
  exact h.1

theorem text_all (k n : Int) (s : ByteArray) (w : World) (hs : s.size ≤ maxLen) (hn : In64 n) (ht : Lib.TabBelow Tryd.prog w.heap.size w "internal/strconv.uint64pow10" .u64 Lib.pow10Tab) :
    Calls Tryd.prog 18 #[.agg #[.int .u8 k, .int .i64 n, .string s]] w fun e w' => e = .returned (.string (textS (k, n, s))) ∧ Gr w w' := by
  cases hr : rightB k n s with
  | false =>
    rw [show textS (k, n, s) = ⟨#[]⟩ from if_neg (by show ¬ rightB k n s = true; rw [hr]; simp)]
    exact textg_wrong k n s w hs hr
  | true =>
    by_cases h2 : k = 2
    · subst h2
      rw [show textS (2, n, s) = ⟨#[39]⟩ ++ s from by unfold textS; rw [if_pos hr, if_pos rfl]]
      exact textg_name n s w (right_two hr) hr
    · rw [show textS (k, n, s) = ⟨(Lib.itoa n).toArray⟩ from by unfold textS; rw [if_pos hr, if_neg h2]]
      obtain rfl := right_kind hr h2
      exact textg_num n s w hs hr hn ht

theorem rtext_wrong (k n : Int) (s : ByteArray) (w : World) (hs : s.size ≤ maxLen) (hr : rightB k n s = false) :
    Calls Tryd.prog 19 #[.agg #[.int .u8 k, .int .i64 n, .string s]] w fun e w' => e = .returned (.string ⟨#[]⟩) ∧ Gr w w' := by
  go_enter Tryd.func19, Tryd.ntmps19
  go_wp2_with (go_at_call 15; refine (refRight_any _ _ _ _ hs).mono ?_; rintro e w' ⟨rfl, rfl⟩)
  go_ret
  exact ⟨rfl, ((Gr.refl _).alloc _).alloc _⟩

theorem rtext_name (n : Int) (s : ByteArray) (w : World) (hs : s.size ≤ 24) (hr : rightB 2 n s = true) :
    Calls Tryd.prog 19 #[.agg #[.int .u8 2, .int .i64 n, .string s]] w fun e w' => e = .returned (.string (⟨#[39]⟩ ++ s)) ∧ Gr w w' := by
  have hs' : s.size ≤ maxLen := by unfold maxLen; omega
  have h22 : ((2 : Int) == 2) = true := rfl
  go_enter Tryd.func19, Tryd.ntmps19
  go_wp2_with (go_at_call 15; refine (refRight_any _ _ _ _ hs').mono ?_; rintro e w' ⟨rfl, rfl⟩)
  go_ret
  exact ⟨rfl, ((Gr.refl _).alloc _).alloc _⟩

theorem rtext_neg (m : Nat) (s : ByteArray) (w : World) (hs : s.size ≤ maxLen) (hr : rightB 1 (-(m : Int)) s = true) (h0 : 0 < m) (hm : m ≤ 9223372036854775808) :
    Calls Tryd.prog 19 #[.agg #[.int .u8 1, .int .i64 (-(m : Int)), .string s]] w fun e w' => e = .returned (.string (⟨#[45]⟩ ++ ⟨(Lib.decDigits m).toArray⟩)) ∧ Gr w w' := by
  have hc := Lib.hid (digits_any m hm)
  have hl := digits_len 19 m (by omega) (by omega)
  have HL : (⟨(Lib.decDigits m).toArray⟩ : ByteArray).size ≤ 19 := by
    show (Lib.decDigits m).toArray.size ≤ 19
    simpa using hl
  have hd : decide (-(m : Int) < 0) = true := by simp; omega
  clear hl
  generalize (⟨(Lib.decDigits m).toArray⟩ : ByteArray) = ds at hc HL ⊢
  go_enter Tryd.func19, Tryd.ntmps19
  go_wp2_with (first | (go_at_call 15; refine (refRight_any _ _ _ _ hs).mono ?_; rintro e w' ⟨rfl, rfl⟩) | fail)
  refine (hc.out _).mono ?_
  rintro e w1 ⟨rfl, hg⟩
  go_wp2
  go_ret
  exact ⟨rfl, (((Gr.refl _).alloc _).alloc _).trans hg⟩

theorem rtext_pos (m : Nat) (s : ByteArray) (w : World) (hs : s.size ≤ maxLen) (hr : rightB 1 (m : Int) s = true) (hm : m ≤ 9223372036854775807) :
    Calls Tryd.prog 19 #[.agg #[.int .u8 1, .int .i64 (m : Int), .string s]] w fun e w' => e = .returned (.string ⟨(Lib.decDigits m).toArray⟩) ∧ Gr w w' := by
  have hc := Lib.hid (digits_any m (by omega))
  have hd : decide ((m : Int) < 0) = false := by simp
  generalize (⟨(Lib.decDigits m).toArray⟩ : ByteArray) = ds at hc ⊢
  go_enter Tryd.func19, Tryd.ntmps19
  go_wp2_with (first | (go_at_call 15; refine (refRight_any _ _ _ _ hs).mono ?_; rintro e w' ⟨rfl, rfl⟩) | fail)
  refine (hc.out _).mono ?_
  rintro e w1 ⟨rfl, hg⟩
  go_wp2
  go_ret
  exact ⟨rfl, (((Gr.refl _).alloc _).alloc _).trans hg⟩

theorem refText_all (k n : Int) (s : ByteArray) (w : World) (hs : s.size ≤ maxLen) (hn : In64 n) :
    Calls Tryd.prog 19 #[.agg #[.int .u8 k, .int .i64 n, .string s]] w fun e w' => e = .returned (.string (textS (k, n, s))) ∧ Gr w w' := by
  cases hr : rightB k n s with
  | false =>
    rw [show textS (k, n, s) = ⟨#[]⟩ from if_neg (by show ¬ rightB k n s = true; rw [hr]; simp)]
    exact rtext_wrong k n s w hs hr
  | true =>
    by_cases h2 : k = 2
    · subst h2
      rw [show textS (2, n, s) = ⟨#[39]⟩ ++ s from by unfold textS; rw [if_pos hr, if_pos rfl]]
      exact rtext_name n s w (right_two hr) hr
    · rw [show textS (k, n, s) = ⟨(Lib.itoa n).toArray⟩ from by unfold textS; rw [if_pos hr, if_neg h2]]
      obtain rfl := right_kind hr h2
      obtain ⟨n1, n2⟩ := hn
      rcases (by omega : n < 0 ∨ 0 ≤ n) with h | h
      · obtain ⟨m, hm⟩ : ∃ m : Nat, n = -(m : Int) := ⟨n.natAbs, by omega⟩
        rw [show (⟨(Lib.itoa n).toArray⟩ : ByteArray) = ⟨#[45]⟩ ++ ⟨(Lib.decDigits m).toArray⟩ from by
          rw [bytes_cons, Lib.itoa, if_pos h, show n.natAbs = m from by omega]]
        subst hm
        exact rtext_neg m s w hs hr (by omega) (by omega)
      · obtain ⟨m, rfl⟩ : ∃ m : Nat, n = (m : Int) := ⟨n.toNat, by omega⟩
        rw [show Lib.itoa (m : Int) = Lib.decDigits m from by rw [Lib.itoa, if_neg (by omega)]; rfl]
        exact rtext_pos m s w hs hr (by omega)
end Go.Proofs.YtcmbedopmkodmaaDoor
