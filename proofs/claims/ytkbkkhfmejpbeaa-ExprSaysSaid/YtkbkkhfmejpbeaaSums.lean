/- The walks of sums, differences, products, on both sides, and of the questions on operators. -/
import Derived.Test.YtkbkkhfmejpbeaaInts
namespace Go.Proofs.Ytkbkkhfmejpbeaa
open Go.RowKit

theorem ret_nb {n m : Int} {a b : Bool} (h : n = m) (h' : a = b) : Ending.returned (.tuple #[.int .i64 n, .bool a]) = .returned (.tuple #[.int .i64 m, .bool b]) := by rw [h, h']
theorem ret_b {a b : Bool} (h : a = b) : Ending.returned (.bool a) = .returned (.bool b) := by rw [h]

theorem sum_any (a b : Int) (w : World) (ha : In64 a) (hb : In64 b) :
    Calls Try.prog 74 #[.int .i64 a, .int .i64 b] w fun e w' => e = .returned (.tuple #[.int .i64 (wrap64 (a + b)), .bool (fitB (a + b))]) ∧ w = w' := by
  have HT := Lib.hid (sum_test a b ha hb)
  generalize fitB (a + b) = r at HT ⊢
  clear ha hb
  go_enter Try.func74, Try.ntmps74
  go_wp2
  go_ret2
  exact ⟨ret_nb rfl HT.out, rfl⟩

theorem difference_any (a b : Int) (w : World) (ha : In64 a) (hb : In64 b) :
    Calls Try.prog 76 #[.int .i64 a, .int .i64 b] w fun e w' => e = .returned (.tuple #[.int .i64 (wrap64 (a - b)), .bool (fitB (a - b))]) ∧ w = w' := by
  have HT := Lib.hid (diff_test a b ha hb)
  generalize fitB (a - b) = r at HT ⊢
  clear ha hb
  go_enter Try.func76, Try.ntmps76
  go_wp2
  go_ret2
  exact ⟨ret_nb rfl HT.out, rfl⟩

theorem product_any (a b : Int) (w : World) (ha : In64 a) (hb : In64 b) :
    Calls Try.prog 78 #[.int .i64 a, .int .i64 b] w fun e w' => e = .returned (.tuple #[.int .i64 (wrap64 (a * b)), .bool (fitB (a * b))]) ∧ w = w' := by
  by_cases ha0 : a = 0
  · subst ha0
    rw [show fitB (0 * b) = true from by rw [Int.zero_mul]; decide]
    go_enter Try.func78, Try.ntmps78
    go_wp2
    go_ret2
    exact ⟨ret_nb (by rw [Int.zero_mul]; decide +kernel) rfl, rfl⟩
  · by_cases hb0 : b = 0
    · subst hb0
      rw [show fitB (a * 0) = true from by rw [Int.mul_zero]; decide]
      have f1 : (a == 0) = false := by simpa using ha0
      clear ha0
      go_enter Try.func78, Try.ntmps78
      go_wp2
      go_ret2
      exact ⟨ret_nb (by rw [Int.mul_zero]; decide +kernel) rfl, rfl⟩
    · have HT := Lib.hid (prod_test a b ha hb ha0 hb0)
      have f1 : (a == 0) = false := by simpa using ha0
      have f2 : (b == 0) = false := by simpa using hb0
      have f3 : b ≠ 0 := hb0
      generalize fitB (a * b) = r at HT ⊢
      clear ha hb ha0 hb0
      cases hq : (wrap64 ((wrap64 (a * b)).tdiv b) == a) with
      | true =>
        have HU : Hid ((decide (wrap64 (a * b) < 0) == (decide (a < 0) != decide (b < 0))) = r) := by have h := HT.out; rw [hq] at h; exact h
        clear HT
        go_enter Try.func78, Try.ntmps78
        go_wp2
        go_ret2
        exact ⟨ret_nb rfl HU.out, rfl⟩
      | false =>
        have HU : Hid (false = r) := by have h := HT.out; rw [hq] at h; exact h
        clear HT
        go_enter Try.func78, Try.ntmps78
        go_wp2
        go_ret2
        exact ⟨ret_nb rfl HU.out, rfl⟩

def knownB (op : Int) : Bool := decide (1 ≤ op) && decide (op ≤ 11)
theorem known_any (op : Int) (w : World) :
    Calls Try.prog 52 #[.int .u8 op] w fun e w' => e = .returned (.bool (knownB op)) ∧ w = w' := by
  by_cases h1 : 1 ≤ op
  · by_cases h2 : op ≤ 11
    · rw [show knownB op = true from by simp [knownB, h1, h2]]
      go_enter Try.func52, Try.ntmps52
      go_wp2
      go_ret
      exact ⟨rfl, rfl⟩
    · rw [show knownB op = false from by simp [knownB, h2]]
      go_enter Try.func52, Try.ntmps52
      go_wp2
      go_ret
      exact ⟨rfl, rfl⟩
  · rw [show knownB op = false from by simp [knownB, h1]]
    go_enter Try.func52, Try.ntmps52
    go_wp2
    go_ret
    exact ⟨rfl, rfl⟩

def placesN (op : Int) : Int := if (op == 4 || op == 11) = true then 1 else 2
theorem places_any (op : Int) (w : World) :
    Calls Try.prog 53 #[.int .u8 op] w fun e w' => e = .returned (.int .i64 (placesN op)) ∧ w = w' := by
  cases h1 : (op == 4) with
  | true =>
    rw [show placesN op = 1 from by simp [placesN, h1]]
    go_enter Try.func53, Try.ntmps53
    go_wp2
    go_ret
    exact ⟨rfl, rfl⟩
  | false =>
    cases h2 : (op == 11) with
    | true =>
      rw [show placesN op = 1 from by simp [placesN, h2]]
      go_enter Try.func53, Try.ntmps53
      go_wp2
      go_ret
      exact ⟨rfl, rfl⟩
    | false =>
      rw [show placesN op = 2 from by simp [placesN, h1, h2]]
      go_enter Try.func53, Try.ntmps53
      go_wp2
      go_ret
      exact ⟨rfl, rfl⟩

def takesB (op : Int) : Bool := op == 5 || op == 6
theorem takesNames_any (op : Int) (w : World) :
    Calls Try.prog 56 #[.int .u8 op] w fun e w' => e = .returned (.bool (takesB op)) ∧ w = w' := by
  cases h1 : (op == 5) with
  | true =>
    rw [show takesB op = true from by simp [takesB, h1]]
    go_enter Try.func56, Try.ntmps56
    go_wp2
    go_ret
    exact ⟨rfl, rfl⟩
  | false =>
    cases h2 : (op == 6) with
    | true =>
      rw [show takesB op = true from by simp [takesB, h2]]
      go_enter Try.func56, Try.ntmps56
      go_wp2
      go_ret
      exact ⟨rfl, rfl⟩
    | false =>
      rw [show takesB op = false from by simp [takesB, h1, h2]]
      go_enter Try.func56, Try.ntmps56
      go_wp2
      go_ret
      exact ⟨rfl, rfl⟩

theorem refSum_fits (a b : Int) (w : World) (ha : In64 a) (hb : In64 b) (h : fitB (a + b) = true) :
    Calls Try.prog 50 #[.int .i64 a, .int .i64 b] w fun e w' => e = .returned (.tuple #[.int .i64 (a + b), .bool true]) ∧ w = w' := by
  obtain ⟨a1, a2⟩ := ha
  obtain ⟨b1, b2⟩ := hb
  obtain ⟨h1, h2⟩ := In64.of_fit h
  clear h
  by_cases hb : 0 < b
  · have f1 : decide (0 < b) = true := by simp; omega
    have f2 : decide (b < 0) = false := by simp; omega
    have f3 : decide (9223372036854775807 - b < a) = false := by simp; omega
    go_enter Try.func50, Try.ntmps50
    go_wp2
    go_ret2
    exact ⟨rfl, rfl⟩
  · by_cases hb' : b < 0
    · have f1 : decide (0 < b) = false := by simp; omega
      have f2 : decide (b < 0) = true := by simp; omega
      have f3 : decide (a < -9223372036854775808 - b) = false := by simp; omega
      go_enter Try.func50, Try.ntmps50
      go_wp2
      go_ret2
      exact ⟨rfl, rfl⟩
    · have f1 : decide (0 < b) = false := by simp; omega
      have f2 : decide (b < 0) = false := by simp; omega
      go_enter Try.func50, Try.ntmps50
      go_wp2
      go_ret2
      exact ⟨rfl, rfl⟩

theorem refSum_over (a b : Int) (w : World) (ha : In64 a) (hb : In64 b) (h : fitB (a + b) = false) :
    Calls Try.prog 50 #[.int .i64 a, .int .i64 b] w fun e w' => e = .returned (.tuple #[.int .i64 0, .bool false]) ∧ w = w' := by
  obtain ⟨a1, a2⟩ := ha
  obtain ⟨b1, b2⟩ := hb
  have h : a + b < -9223372036854775808 ∨ 9223372036854775807 < a + b := by
    simp [fitB] at h; omega
  rcases h with h | h
  · have f1 : decide (0 < b) = false := by simp; omega
    have f2 : decide (b < 0) = true := by simp; omega
    have f3 : decide (a < -9223372036854775808 - b) = true := by simp; omega
    have c1 : -9223372036854775808 ≤ -9223372036854775808 - b := by omega
    have c2 : -9223372036854775808 - b ≤ 9223372036854775807 := by omega
    go_enter Try.func50, Try.ntmps50
    go_wp2
    go_ret2
    exact ⟨rfl, rfl⟩
  · have f1 : decide (0 < b) = true := by simp; omega
    have f3 : decide (9223372036854775807 - b < a) = true := by simp; omega
    go_enter Try.func50, Try.ntmps50
    go_wp2
    go_ret2
    exact ⟨rfl, rfl⟩

theorem quo_test (a b : Int) (ha : In64 a) (hb : In64 b) (hb0 : b ≠ 0) (hb1 : b ≠ -1) : (wrap64 ((wrap64 (a * b)).tdiv b) == a) = fitB (a * b) := by
  apply bool_ext
  constructor
  · intro h
    exact quo_back a b ha hb hb0 (fun h => hb1 h.2) (by simpa using h)
  · intro h
    rw [wrap_fit h, tdiv_mul a b hb0, wrap_fit (by rw [fit_iff]; exact ha)]
    simp

theorem neg_test (b : Int) (hb : In64 b) : (b != -9223372036854775808) = fitB (-1 * b) := by
  obtain ⟨b1, b2⟩ := hb
  apply bool_ext
  rw [fit_iff, bne_iff_ne]
  constructor
  · intro h; constructor <;> omega
  · intro ⟨h1, h2⟩ h; omega

theorem refProduct_any (a b : Int) (w : World) (ha : In64 a) (hb : In64 b) :
    Calls Try.prog 51 #[.int .i64 a, .int .i64 b] w fun e w' => e = .returned (.tuple #[.int .i64 (wrap64 (a * b)), .bool (fitB (a * b))]) ∧ ∃ n, w.drewN n = w' := by
  by_cases ha0 : a = 0
  · subst ha0
    rw [show fitB (0 * b) = true from by rw [Int.zero_mul]; decide]
    go_enter Try.func51, Try.ntmps51
    go_wp2
    go_ret2
    exact ⟨ret_nb (by rw [Int.zero_mul]; decide +kernel) rfl, 0, rfl⟩
  · by_cases hb0 : b = 0
    · subst hb0
      rw [show fitB (a * 0) = true from by rw [Int.mul_zero]; decide]
      have f1 : (a == 0) = false := by simpa using ha0
      clear ha0
      go_enter Try.func51, Try.ntmps51
      go_wp2
      go_ret2
      exact ⟨ret_nb (by rw [Int.mul_zero]; decide +kernel) rfl, 0, rfl⟩
    · by_cases ha1 : a = -1
      · subst ha1
        have HT := Lib.hid (neg_test b hb)
        have f2 : (b == 0) = false := by simpa using hb0
        generalize fitB (-1 * b) = r at HT ⊢
        clear ha hb ha0 hb0
        go_enter Try.func51, Try.ntmps51
        go_wp2
        go_ret2
        exact ⟨ret_nb (by rw [Int.neg_mul, Int.one_mul]) HT.out, 0, rfl⟩
      · by_cases hb1 : b = -1
        · subst hb1
          have HT := Lib.hid (neg_test a ha)
          rw [Int.mul_comm a (-1)]
          have f1 : (a == 0) = false := by simpa using ha0
          have f2 : (a == -1) = false := by simpa using ha1
          generalize fitB (-1 * a) = r at HT ⊢
          clear ha hb ha0 hb0 ha1
          go_enter Try.func51, Try.ntmps51
          go_wp2
          go_ret2
          exact ⟨ret_nb (by rw [Int.neg_mul, Int.one_mul]) HT.out, 0, rfl⟩
        · have HT := Lib.hid (quo_test a b ha hb hb0 hb1)
          have f1 : (a == 0) = false := by simpa using ha0
          have f2 : (b == 0) = false := by simpa using hb0
          have f3 : (a == -1) = false := by simpa using ha1
          have f4 : (b == -1) = false := by simpa using hb1
          have f5 : b ≠ 0 := hb0
          generalize fitB (a * b) = r at HT ⊢
          clear ha hb ha0 hb0 ha1 hb1
          go_enter Try.func51, Try.ntmps51
          go_wp2
          go_quiet (fail)
          go_wp2
          go_ret2
          exact ⟨ret_nb rfl HT.out, _, rfl⟩

/-- What an operator of numbers makes, in the whole numbers. -/
def recN (op a b : Int) : Int := if op = 1 then a + b else if op = 2 then a - b else if op = 3 then a * b else -a

theorem neg_fit (a : Int) (h : fitB (-a) = true) : (a != -9223372036854775808) = true ∧ wrap64 (-a) = -a := by
  refine ⟨?_, wrap_fit h⟩
  obtain ⟨h1, h2⟩ := In64.of_fit h
  rw [bne_iff_ne]; intro e; omega

theorem neg_over (a : Int) (h : fitB (-a) = false) (ha : In64 a) : (a != -9223372036854775808) = false := by
  obtain ⟨a1, a2⟩ := ha
  simp [fitB] at h
  simp
  omega

theorem sub_least (a : Int) (ha : In64 a) : decide (a < 0) = fitB (a - -9223372036854775808) := by
  obtain ⟨a1, a2⟩ := ha
  apply bool_ext
  rw [fit_iff, decide_eq_true_iff]
  constructor
  · intro h; constructor <;> omega
  · intro ⟨h1, h2⟩; omega

theorem reckoned_any (op a b : Int) (w : World) (ha : In64 a) (hb : In64 b) :
    Calls Try.prog 36 #[.int .u8 op, .int .i64 a, .int .i64 b] w fun e w' => (∃ n, e = .returned (.tuple #[.int .i64 n, .bool (fitB (recN op a b))]) ∧ (fitB (recN op a b) = true → n = recN op a b)) ∧ Below w.heap.size w w' := by
  cases h1 : (op == 1) with
  | true =>
    rw [show recN op a b = a + b from by simp [recN, show op = 1 from by simpa using h1]]
    cases hf : fitB (a + b) with
    | true =>
      have hc := refSum_fits a b w ha hb hf
      clear hf ha hb
      go_enter Try.func36, Try.ntmps36
      go_wp2_with (go_at_call 50; refine hc.mono ?_; rintro e w' ⟨rfl, rfl⟩)
      go_ret2
      exact ⟨⟨_, rfl, fun _ => rfl⟩, Below.refl _ _⟩
    | false =>
      have hc := refSum_over a b w ha hb hf
      clear hf ha hb
      go_enter Try.func36, Try.ntmps36
      go_wp2_with (go_at_call 50; refine hc.mono ?_; rintro e w' ⟨rfl, rfl⟩)
      go_ret2
      exact ⟨⟨_, rfl, fun h => by cases h⟩, Below.refl _ _⟩
  | false =>
    cases h2 : (op == 2) with
    | true =>
      have h2' : op = 2 := by simpa using h2
      rw [show recN op a b = a - b from by simp [recN, h2']]
      clear h2'
      cases hl : (b == -9223372036854775808) with
      | true =>
        have hb' : b = -9223372036854775808 := by simpa using hl
        have HT := Lib.hid (sub_least a ha)
        have HF : Hid (fitB (a - b) = true → wrap64 (a - b) = a - b) := wrap_fit
        have HE : Hid (fitB (a - b) = fitB (a - -9223372036854775808)) := by rw [hb']; rfl
        clear hb' ha hb
        generalize fitB (a - -9223372036854775808) = r at HT HE
        generalize fitB (a - b) = r' at HE HF ⊢
        go_enter Try.func36, Try.ntmps36
        go_wp2
        go_ret2
        exact ⟨⟨_, ret_nb rfl (by rw [HE.out]; exact HT.out), HF.out⟩, Below.refl _ _⟩
      | false =>
        have hne : b ≠ -9223372036854775808 := by simpa using hl
        have hb' : In64 (-b) := ⟨by have := hb.lo; have := hb.hi; omega, by have := hb.lo; omega⟩
        obtain ⟨b1, b2⟩ := hb'
        rw [show a - b = a + -b from rfl]
        cases hf : fitB (a + -b) with
        | true =>
          have hc := refSum_fits a (-b) w ha ⟨b1, b2⟩ hf
          clear hf ha hb hne
          go_enter Try.func36, Try.ntmps36
          go_wp2_with (go_at_call 50; refine hc.mono ?_; rintro e w' ⟨rfl, rfl⟩)
          go_ret2
          exact ⟨⟨_, rfl, fun _ => rfl⟩, Below.refl _ _⟩
        | false =>
          have hc := refSum_over a (-b) w ha ⟨b1, b2⟩ hf
          clear hf ha hb hne
          go_enter Try.func36, Try.ntmps36
          go_wp2_with (go_at_call 50; refine hc.mono ?_; rintro e w' ⟨rfl, rfl⟩)
          go_ret2
          exact ⟨⟨_, rfl, fun h => by cases h⟩, Below.refl _ _⟩
    | false =>
      cases h3 : (op == 3) with
      | true =>
        have h3' : op = 3 := by simpa using h3
        rw [show recN op a b = a * b from by simp [recN, h3']]
        clear h3'
        have hc := refProduct_any a b w ha hb
        have HF : Hid (fitB (a * b) = true → wrap64 (a * b) = a * b) := wrap_fit
        generalize wrap64 (a * b) = n at hc HF
        generalize fitB (a * b) = r at hc HF ⊢
        clear ha hb
        go_enter Try.func36, Try.ntmps36
        go_wp2_with (go_at_call 51; refine hc.mono ?_; rintro e w' ⟨rfl, q, rfl⟩)
        go_ret2
        exact ⟨⟨_, rfl, HF.out⟩, below_drewN (Below.refl _ _) _⟩
      | false =>
        rw [show recN op a b = -a from by simp [recN, show op ≠ 1 from by simpa using h1, show op ≠ 2 from by simpa using h2, show op ≠ 3 from by simpa using h3]]
        have HF : Hid (fitB (-a) = true → wrap64 (-a) = -a) := wrap_fit
        have HT : Hid ((a != -9223372036854775808) = fitB (-a)) := by
          cases hf : fitB (-a) with
          | true => exact (neg_fit a hf).1
          | false => exact neg_over a hf ha
        generalize fitB (-a) = r at HF HT ⊢
        clear ha hb
        go_enter Try.func36, Try.ntmps36
        go_wp2
        go_ret2
        exact ⟨⟨_, ret_nb rfl HT.out, HF.out⟩, Below.refl _ _⟩
end Go.Proofs.Ytkbkkhfmejpbeaa
