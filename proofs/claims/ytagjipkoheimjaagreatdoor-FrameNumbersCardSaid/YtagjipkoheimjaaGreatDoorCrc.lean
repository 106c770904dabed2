/- The sum of bytes as a plain function; a burst of 32 bits, somewhere turned, makes another sum. -/
namespace Go.Proofs.YtagjipkoheimjaaGreatDoor

def polyN : Nat := 3988292384
/-- One bit goes. -/
def bitS (x : Nat) : Nat := x / 2 ^^^ (if x % 2 = 1 then polyN else 0)
def bitsS : Nat → Nat → Nat
  | 0, x => x
  | k + 1, x => bitsS k (bitS x)
/-- A word behind one byte more. -/
def byteS (x : Nat) (c : UInt8) : Nat := bitsS 8 (x ^^^ c.toNat)
def wordS (x : Nat) (l : List UInt8) : Nat := l.foldl byteS x
def sumN (l : List UInt8) : Nat := 4294967295 - wordS 4294967295 l

theorem xor_half (a b : Nat) : (a ^^^ b) / 2 = a / 2 ^^^ b / 2 := by
  have := Nat.shiftRight_xor_distrib (a := a) (b := b) (i := 1)
  simpa [Nat.shiftRight_eq_div_pow] using this
theorem xor_odd (a b : Nat) : (a ^^^ b) % 2 = (a % 2 + b % 2) % 2 := by
  have h := Nat.testBit_xor a b 0
  simp only [Nat.testBit_zero] at h
  have ha := Nat.mod_two_eq_zero_or_one a
  have hb := Nat.mod_two_eq_zero_or_one b
  have hc := Nat.mod_two_eq_zero_or_one (a ^^^ b)
  rcases ha with ha | ha <;> rcases hb with hb | hb <;> rcases hc with hc | hc <;> simp [ha, hb, hc] at h ⊢
theorem bitS_xor (a b : Nat) : bitS (a ^^^ b) = bitS a ^^^ bitS b := by
  unfold bitS
  rw [xor_half, xor_odd]
  have ha := Nat.mod_two_eq_zero_or_one a
  have hb := Nat.mod_two_eq_zero_or_one b
  have sw : ∀ x y z u : Nat, (x ^^^ y) ^^^ (z ^^^ u) = (x ^^^ z) ^^^ (y ^^^ u) := fun x y z u => by
    rw [Nat.xor_assoc, Nat.xor_assoc, ← Nat.xor_assoc y z u, Nat.xor_comm y z, Nat.xor_assoc z y u]
  rw [← sw (a / 2) (b / 2)]
  congr 1
  rcases ha with ha | ha <;> rcases hb with hb | hb <;> simp [ha, hb]
theorem bitS_zero : bitS 0 = 0 := rfl
theorem bitsS_xor (k a b : Nat) : bitsS k (a ^^^ b) = bitsS k a ^^^ bitsS k b := by
  induction k generalizing a b with
  | zero => rfl
  | succ k ih => simp only [bitsS]; rw [bitS_xor, ih]
theorem bitsS_zero (k : Nat) : bitsS k 0 = 0 := by
  induction k with
  | zero => rfl
  | succ k ih => simp only [bitsS]; rw [bitS_zero, ih]
theorem bitsS_add (j k x : Nat) : bitsS (j + k) x = bitsS k (bitsS j x) := by
  induction j generalizing x with
  | zero => rw [Nat.zero_add]; rfl
  | succ j ih => rw [Nat.succ_add]; simp only [bitsS]; rw [ih]
/-- Noughts go by. -/
theorem bitsS_shift (k x : Nat) : bitsS k (x * 2 ^ k) = x := by
  induction k generalizing x with
  | zero => simp [bitsS]
  | succ k ih =>
    have h1 : x * 2 ^ (k + 1) % 2 = 0 := by rw [Nat.pow_succ, ← Nat.mul_assoc]; omega
    have h2 : x * 2 ^ (k + 1) / 2 = x * 2 ^ k := by rw [Nat.pow_succ, ← Nat.mul_assoc]; omega
    simp only [bitsS, bitS]
    rw [h1, h2, if_neg (by decide), Nat.xor_zero, ih]

theorem poly_lt : polyN < 2 ^ 32 := by decide
theorem bitS_lt (x : Nat) (h : x < 2 ^ 32) : bitS x < 2 ^ 32 := by
  unfold bitS
  refine Nat.xor_lt_two_pow (by omega) ?_
  split
  · exact poly_lt
  · decide
/-- No word that is not 0 becomes 0. -/
theorem bitS_ne (x : Nat) (h : x < 2 ^ 32) (h0 : x ≠ 0) : bitS x ≠ 0 := by
  unfold bitS
  intro e
  split at e
  · have h1 : x / 2 = polyN := by
      have := congrArg (· ^^^ polyN) e
      simpa [Nat.xor_assoc] using this
    unfold polyN at h1
    omega
  · rw [Nat.xor_zero] at e
    omega
theorem bitsS_lt (k x : Nat) (h : x < 2 ^ 32) : bitsS k x < 2 ^ 32 := by
  induction k generalizing x with
  | zero => exact h
  | succ k ih => exact ih _ (bitS_lt x h)
theorem bitsS_ne (k x : Nat) (h : x < 2 ^ 32) (h0 : x ≠ 0) : bitsS k x ≠ 0 := by
  induction k generalizing x with
  | zero => exact h0
  | succ k ih => exact ih _ (bitS_lt x h) (bitS_ne x h h0)

theorem byteS_lt (x : Nat) (c : UInt8) (h : x < 2 ^ 32) : byteS x c < 2 ^ 32 :=
  bitsS_lt _ _ (Nat.xor_lt_two_pow h (Nat.lt_of_lt_of_le c.toNat_lt (by decide)))
theorem wordS_lt (l : List UInt8) (x : Nat) (h : x < 2 ^ 32) : wordS x l < 2 ^ 32 := by
  induction l generalizing x with
  | nil => exact h
  | cons c l ih => exact ih _ (byteS_lt x c h)
theorem sumN_lt (l : List UInt8) : sumN l < 2 ^ 32 := by unfold sumN; omega

/-- The number that bytes are, the lowest first. -/
def leN : List UInt8 → Nat
  | [] => 0
  | c :: l => c.toNat + 256 * leN l

theorem xor_high (a b : Nat) (h : a < 256) : a ^^^ (256 * b) = a + 256 * b := by
  have h1 := Nat.shiftLeft_add_eq_or_of_lt (i := 8) (b := a) (by simpa using h) b
  rw [Nat.shiftLeft_eq] at h1
  have h2 : a ^^^ (b * 2 ^ 8) = b * 2 ^ 8 ||| a := by
    apply Nat.eq_of_testBit_eq
    intro i
    rw [Nat.testBit_xor, Nat.testBit_or, ← Nat.shiftLeft_eq, Nat.testBit_shiftLeft]
    by_cases hi : 8 ≤ i
    · have : a.testBit i = false := Nat.testBit_lt_two_pow (Nat.lt_of_lt_of_le h (Nat.pow_le_pow_right (by decide) hi : 2 ^ 8 ≤ 2 ^ i))
      simp [this, hi]
    · simp [hi]
  rw [Nat.mul_comm 256 b]
  have : (2 : Nat) ^ 8 = 256 := rfl
  rw [this] at h1 h2
  rw [h2, ← h1, Nat.add_comm]

/-- All bits of all bytes at once. -/
theorem wordS_le (l : List UInt8) (x : Nat) : wordS x l = bitsS (8 * l.length) (x ^^^ leN l) := by
  induction l generalizing x with
  | nil => simp [wordS, leN, bitsS]
  | cons c l ih =>
    show wordS (byteS x c) l = _
    rw [ih, List.length_cons, show 8 * (l.length + 1) = 8 + 8 * l.length by omega, bitsS_add]
    congr 1
    have h8 : bitsS 8 (256 * leN l) = leN l := by
      have := bitsS_shift 8 (leN l)
      rwa [show (2 : Nat) ^ 8 = 256 from rfl, Nat.mul_comm] at this
    have h9 : leN (c :: l) = c.toNat ^^^ (256 * leN l) := (xor_high _ _ c.toNat_lt).symm
    rw [h9, ← Nat.xor_assoc, bitsS_xor 8 (x ^^^ c.toNat), h8]
    rfl

/-- A burst of 32 bits makes another word. -/
theorem burst (l m : List UInt8) (x t at_ : Nat) (hl : l.length = m.length) (ht : t < 2 ^ 32) (h0 : t ≠ 0) (ha : at_ ≤ 8 * l.length) (e : leN m = leN l ^^^ (t * 2 ^ at_)) : wordS x m ≠ wordS x l := by
  rw [wordS_le, wordS_le, e, ← Nat.xor_assoc, ← hl, bitsS_xor]
  have h1 : bitsS (8 * l.length) (t * 2 ^ at_) ≠ 0 := by
    obtain ⟨k, hk⟩ : ∃ k, 8 * l.length = at_ + k := ⟨8 * l.length - at_, by omega⟩
    rw [hk, bitsS_add, bitsS_shift]
    exact bitsS_ne _ _ ht h0
  intro e2
  apply h1
  have := congrArg (bitsS (8 * l.length) (x ^^^ leN l) ^^^ ·) e2
  simpa [← Nat.xor_assoc] using this

theorem burst_sum (l m : List UInt8) (k : UInt8) (t at_ : Nat) (hl : l.length = m.length) (ht : t < 2 ^ 32) (h0 : t ≠ 0) (ha : at_ ≤ 8 * l.length) (e : leN m = leN l ^^^ (t * 2 ^ at_)) : sumN (k :: m) ≠ sumN (k :: l) := by
  unfold sumN
  have h1 := wordS_lt (k :: l) 4294967295 (by decide)
  have h2 := wordS_lt (k :: m) 4294967295 (by decide)
  have h3 := burst l m (byteS 4294967295 k) t at_ hl ht h0 ha e
  have h4 : wordS 4294967295 (k :: l) = wordS (byteS 4294967295 k) l := rfl
  have h5 : wordS 4294967295 (k :: m) = wordS (byteS 4294967295 k) m := rfl
  omega

/-- One bit of a byte is turned. -/
theorem leN_set (l : List UInt8) (i b : Nat) (hb : b < 8) (hi : i < l.length) : leN (l.set i (UInt8.ofNat ((l[i]).toNat ^^^ 2 ^ b))) = leN l ^^^ 2 ^ (8 * i + b) := by
  induction l generalizing i with
  | nil => cases hi
  | cons c l ih =>
    have hb2 : 2 ^ b < 256 := Nat.lt_of_lt_of_le (Nat.pow_lt_pow_right (by decide) hb) (by decide)
    cases i with
    | zero =>
      have hx : c.toNat ^^^ 2 ^ b < 256 := Nat.xor_lt_two_pow (n := 8) c.toNat_lt hb2
      simp only [List.set_cons_zero, List.getElem_cons_zero, leN, Nat.mul_zero, Nat.zero_add]
      rw [UInt8.toNat_ofNat', Nat.mod_eq_of_lt hx, ← xor_high _ _ hx, ← xor_high _ _ c.toNat_lt, Nat.xor_assoc, Nat.xor_assoc, Nat.xor_comm (2 ^ b)]
    | succ i =>
      have hp : 2 ^ (8 * (i + 1) + b) = 256 * 2 ^ (8 * i + b) := by
        rw [show 8 * (i + 1) + b = 8 + (8 * i + b) by omega, Nat.pow_add]
      have hx : ∀ u v : Nat, 256 * (u ^^^ v) = 256 * u ^^^ 256 * v := fun u v => by
        have := Nat.shiftLeft_xor_distrib (a := u) (b := v) (i := 8)
        simpa [Nat.shiftLeft_eq, Nat.mul_comm] using this
      simp only [List.set_cons_succ, List.getElem_cons_succ, leN]
      rw [ih i (by simpa using hi), hp, ← xor_high _ _ c.toNat_lt, ← xor_high _ _ c.toNat_lt, hx, Nat.xor_assoc]

/-- The bits below k of a number, one bit more. -/
theorem low_succ (t k : Nat) : t % 2 ^ (k + 1) = t % 2 ^ k + (t / 2 ^ k % 2) * 2 ^ k := by
  rw [Nat.pow_succ, Nat.mod_mul]
  rw [Nat.mul_comm]
theorem low_xor (t k a : Nat) (h : t / 2 ^ k % 2 = 1) : t % 2 ^ (k + 1) * 2 ^ a = (t % 2 ^ k * 2 ^ a) ^^^ 2 ^ (a + k) := by
  have h1 : t % 2 ^ (k + 1) = t % 2 ^ k ^^^ 2 ^ k := by
    rw [low_succ, h, Nat.one_mul]
    apply Nat.eq_of_testBit_eq
    intro i
    have hlt : t % 2 ^ k < 2 ^ k := Nat.mod_lt _ (Nat.two_pow_pos k)
    rw [Nat.add_comm, Nat.testBit_xor]
    by_cases hi : i = k
    · subst hi
      rw [Nat.testBit_two_pow_add_eq, Nat.testBit_lt_two_pow hlt, Nat.testBit_two_pow_self]
      rfl
    · rw [Nat.testBit_two_pow_of_ne (fun e => hi e.symm), Bool.xor_false]
      by_cases hik : i < k
      · rw [Nat.testBit_two_pow_add_gt hik]
      · have hki : k < i := by omega
        have e1 : (2 ^ k + t % 2 ^ k).testBit i = false := Nat.testBit_lt_two_pow (Nat.lt_of_lt_of_le (by omega : 2 ^ k + t % 2 ^ k < 2 ^ (k + 1)) (Nat.pow_le_pow_right (by decide) hki))
        rw [e1, Nat.testBit_lt_two_pow (Nat.lt_of_lt_of_le hlt (Nat.pow_le_pow_right (by decide) (by omega)))]
  rw [h1]
  have := Nat.shiftLeft_xor_distrib (a := t % 2 ^ k) (b := 2 ^ k) (i := a)
  rw [Nat.shiftLeft_eq, Nat.shiftLeft_eq, Nat.shiftLeft_eq, ← Nat.pow_add, Nat.add_comm k a] at this
  exact this
theorem low_same (t k : Nat) (h : t / 2 ^ k % 2 = 0) : t % 2 ^ (k + 1) = t % 2 ^ k := by
  rw [low_succ, h, Nat.zero_mul, Nat.add_zero]
end Go.Proofs.YtagjipkoheimjaaGreatDoor
