/- The forms as plain functions: the bytes of numbers, texts, values, facts, commands, replies, entries; and what is read of bytes. -/
import Derived.Lib.Strings
import Derived.Lib.Hide
import Derived.WalkKit
namespace Go.Proofs.YtmocfielcllfmaaDoor
open Go.RowKit

abbrev V3 := Int × Int × ByteArray
abbrev F3 := Int × Int × List V3
/-- Kind, Text, Args, Num. -/
abbrev C4 := Int × ByteArray × List V3 × Int
abbrev R4 := Int × Int × List F3 × List V3
/-- Term, Kind, Session, Seq, Command, Voters. -/
abbrev E6 := Int × Int × Int × Int × C4 × List Int

structure In64 (x : Int) : Prop where
  lo : -9223372036854775808 ≤ x
  hi : x ≤ 9223372036854775807
structure In8 (x : Int) : Prop where
  lo : 0 ≤ x
  hi : x ≤ 255

/-- The number beside a number of 64 bits, from 0 on; and back. -/
def un (z : Int) : Nat := (z % 18446744073709551616).toNat
def sg (n : Nat) : Int := if n < 9223372036854775808 then (n : Int) else (n : Int) - 18446744073709551616

theorem un_lt (z : Int) : un z < 18446744073709551616 := by unfold un; omega
theorem sg_un {z : Int} (h : In64 z) : sg (un z) = z := by
  obtain ⟨h1, h2⟩ := h
  unfold sg un
  split <;> omega
theorem un_sg {n : Nat} (h : n < 18446744073709551616) : un (sg n) = n := by
  unfold sg un
  split <;> omega
theorem sg_in (n : Nat) (h : n < 18446744073709551616) : In64 (sg n) := by
  unfold sg
  constructor <;> split <;> omega

/-- The highest of k bytes first. -/
def beB : Nat → Nat → List UInt8
  | 0, _ => []
  | k + 1, n => UInt8.ofNat (n / 256 ^ k) :: beB k n

theorem beB_length : ∀ (k n : Nat), (beB k n).length = k
  | 0, _ => rfl
  | k + 1, n => by rw [beB, List.length_cons, beB_length k n]

def foldB : Nat → List UInt8 → Nat
  | a, [] => a
  | a, c :: l => foldB (a * 256 + c.toNat) l

theorem foldB_append (a : Nat) (l m : List UInt8) : foldB a (l ++ m) = foldB (foldB a l) m := by
  induction l generalizing a with
  | nil => rfl
  | cons c l ih => exact ih _

theorem foldB_lt : ∀ (l : List UInt8) (a : Nat), foldB a l < (a + 1) * 256 ^ l.length
  | [], a => by simp [foldB]
  | c :: l, a => by
    have h := foldB_lt l (a * 256 + c.toNat)
    have hc := c.toNat_lt
    rw [foldB, List.length_cons, Nat.pow_succ]
    calc foldB (a * 256 + c.toNat) l < (a * 256 + c.toNat + 1) * 256 ^ l.length := h
      _ ≤ ((a + 1) * 256) * 256 ^ l.length := Nat.mul_le_mul_right _ (by omega)
      _ = (a + 1) * (256 ^ l.length * 256) := by rw [Nat.mul_assoc, Nat.mul_comm 256]

theorem foldB_be : ∀ (k a n : Nat), foldB a (beB k n) = a * 256 ^ k + n % 256 ^ k
  | 0, a, n => by simp [beB, foldB, Nat.mod_one]
  | k + 1, a, n => by
    rw [beB, foldB, foldB_be k]
    have h1 : (UInt8.ofNat (n / 256 ^ k)).toNat = n / 256 ^ k % 256 := by simp
    rw [h1, Nat.pow_succ, Nat.mod_mul, Nat.add_mul, Nat.mul_assoc, Nat.mul_comm 256 (256 ^ k), Nat.mul_comm (n / 256 ^ k % 256)]
    omega

theorem be_foldB : ∀ (l : List UInt8) (a : Nat), beB l.length (foldB a l) = l
  | [], _ => rfl
  | c :: l, a => by
    rw [List.length_cons, beB, foldB, be_foldB l]
    congr 1
    have h1 := foldB_lt l (a * 256 + c.toNat)
    have h2 : (a * 256 + c.toNat) * 256 ^ l.length ≤ foldB (a * 256 + c.toNat) l := by
      clear h1
      generalize a * 256 + c.toNat = b
      induction l generalizing b with
      | nil => simp [foldB]
      | cons d l ih =>
        rw [foldB, List.length_cons, Nat.pow_succ]
        refine Nat.le_trans ?_ (ih _)
        rw [Nat.mul_comm (256 ^ l.length) 256, ← Nat.mul_assoc]
        exact Nat.mul_le_mul_right _ (by omega)
    have h3 : foldB (a * 256 + c.toNat) l / 256 ^ l.length = a * 256 + c.toNat := by
      have hp : 0 < 256 ^ l.length := Nat.pow_pos (by omega)
      exact Nat.div_eq_of_lt_le h2 h1
    rw [h3]
    have hc := c.toNat_lt
    apply UInt8.toNat_inj.1
    rw [UInt8.toNat_ofNat']
    omega

/-- A form's reader: what is said, and what is left. -/
abbrev Rd (α : Type) := List UInt8 → Option (α × List UInt8)

def takeP (n : Nat) : Rd (List UInt8) := fun l => if n ≤ l.length then some (l.take n, l.drop n) else none
def wordP (k : Nat) : Rd Nat := fun l => match takeP k l with
  | some (b, r) => some (foldB 0 b, r)
  | none => none
def numP : Rd Int := fun l => match wordP 8 l with
  | some (n, r) => some (sg n, r)
  | none => none
def octP : Rd Int := fun l => match wordP 1 l with
  | some (n, r) => some ((n : Int), r)
  | none => none
def countP : Rd Nat := fun l => match wordP 4 l with
  | some (n, r) => if 65536 < n then none else some (n, r)
  | none => none
def textP : Rd ByteArray := fun l => match countP l with
  | some (n, r) => match takeP n r with
    | some (b, r') => some (⟨b.toArray⟩, r')
    | none => none
  | none => none
def valueP : Rd V3 := fun l => match octP l with
  | some (k, r) =>
    if k = 1 then match numP r with
      | some (z, r') => some ((1, z, ⟨#[]⟩), r')
      | none => none
    else if k = 2 then match textP r with
      | some (s, r') => some ((2, 0, s), r')
      | none => none
    else none
  | none => none
def rowP {α : Type} (p : Rd α) : Nat → Rd (List α)
  | 0, l => some ([], l)
  | n + 1, l => match p l with
    | some (x, r) => match rowP p n r with
      | some (xs, r') => some (x :: xs, r')
      | none => none
    | none => none
def manyP {α : Type} (p : Rd α) : Rd (List α) := fun l => match countP l with
  | some (n, r) => rowP p n r
  | none => none
def valuesP : Rd (List V3) := manyP valueP
def factP : Rd F3 := fun l => match numP l with
  | some (i, r) => match numP r with
    | some (t, r1) => match valuesP r1 with
      | some (a, r2) => some ((i, t, a), r2)
      | none => none
    | none => none
  | none => none
def commandP : Rd C4 := fun l => match octP l with
  | some (k, r) => match textP r with
    | some (s, r1) => match numP r1 with
      | some (n, r2) => match valuesP r2 with
        | some (a, r3) => some ((k, s, a, n), r3)
        | none => none
      | none => none
    | none => none
  | none => none
def replyP : Rd R4 := fun l => match numP l with
  | some (e, r) => match numP r with
    | some (n, r1) => match manyP factP r1 with
      | some (f, r2) => match valuesP r2 with
        | some (s, r3) => some ((e, n, f, s), r3)
        | none => none
      | none => none
    | none => none
  | none => none
def entryP : Rd E6 := fun l => match numP l with
  | some (t, r) => match octP r with
    | some (k, r1) => match numP r1 with
      | some (s, r2) => match numP r2 with
        | some (q, r3) => match commandP r3 with
          | some (c, r4) => match manyP numP r4 with
            | some (v, r5) => some ((t, k, s, q, c, v), r5)
            | none => none
          | none => none
        | none => none
      | none => none
    | none => none
  | none => none

/-- What is written. -/
def numB (z : Int) : List UInt8 := beB 8 (un z)
def countB (n : Nat) : List UInt8 := beB 4 n
def octB (k : Int) : List UInt8 := [UInt8.ofNat k.toNat]
def textB (s : ByteArray) : List UInt8 := countB s.size ++ s.data.toList
def valB (v : V3) : List UInt8 := octB v.1 ++ (if v.1 = 1 then numB v.2.1 else if v.1 = 2 then textB v.2.2 else [])
def manyB {α : Type} (f : α → List UInt8) (l : List α) : List UInt8 := countB l.length ++ l.flatMap f
def valsB (l : List V3) : List UInt8 := manyB valB l
def factB (f : F3) : List UInt8 := numB f.1 ++ numB f.2.1 ++ valsB f.2.2
def commandB (c : C4) : List UInt8 := octB c.1 ++ textB c.2.1 ++ numB c.2.2.2 ++ valsB c.2.2.1
def replyB (r : R4) : List UInt8 := numB r.1 ++ numB r.2.1 ++ manyB factB r.2.2.1 ++ valsB r.2.2.2
def entryB (e : E6) : List UInt8 := numB e.1 ++ octB e.2.1 ++ numB e.2.2.1 ++ numB e.2.2.2.1 ++ commandB e.2.2.2.2.1 ++ manyB numB e.2.2.2.2.2

/-- What is wholly said by its bytes. -/
def BareV (v : V3) : Prop := (v.1 = 1 ∧ In64 v.2.1 ∧ v.2.2 = ⟨#[]⟩) ∨ (v.1 = 2 ∧ v.2.1 = 0 ∧ v.2.2.size ≤ 65536)
def BareVs (l : List V3) : Prop := l.length ≤ 65536 ∧ ∀ x, x ∈ l → BareV x
def BareF (f : F3) : Prop := In64 f.1 ∧ In64 f.2.1 ∧ BareVs f.2.2
def BareC (c : C4) : Prop := In8 c.1 ∧ c.2.1.size ≤ 65536 ∧ BareVs c.2.2.1 ∧ In64 c.2.2.2
def BareR (r : R4) : Prop := In64 r.1 ∧ In64 r.2.1 ∧ (r.2.2.1.length ≤ 65536 ∧ ∀ x, x ∈ r.2.2.1 → BareF x) ∧ BareVs r.2.2.2
def BareE (e : E6) : Prop := In64 e.1 ∧ In8 e.2.1 ∧ In64 e.2.2.1 ∧ In64 e.2.2.2.1 ∧ BareC e.2.2.2.2.1 ∧ (e.2.2.2.2.2.length ≤ 65536 ∧ ∀ x, x ∈ e.2.2.2.2.2 → In64 x)

/-- Written, it is read. -/
def Back {α : Type} (p : Rd α) (f : α → List UInt8) (ok : α → Prop) : Prop := ∀ x, ok x → ∀ r, p (f x ++ r) = some (x, r)
/-- Read, it is written as the same bytes. -/
def Forth {α : Type} (p : Rd α) (f : α → List UInt8) : Prop := ∀ l x r, p l = some (x, r) → l = f x ++ r

theorem takeP_app (a r : List UInt8) : takeP a.length (a ++ r) = some (a, r) := by
  unfold takeP
  rw [if_pos (by simp), List.take_left, List.drop_left]

theorem takeP_forth {n : Nat} {l b r : List UInt8} (h : takeP n l = some (b, r)) : l = b ++ r ∧ b.length = n := by
  unfold takeP at h
  split at h
  · rename_i hn
    simp only [Option.some.injEq, Prod.mk.injEq] at h
    obtain ⟨rfl, rfl⟩ := h
    exact ⟨(List.take_append_drop _ _).symm, by rw [List.length_take]; omega⟩
  · cases h

theorem wordP_be (k n : Nat) (r : List UInt8) : wordP k (beB k n ++ r) = some (n % 256 ^ k, r) := by
  have h := takeP_app (beB k n) r
  rw [beB_length] at h
  unfold wordP
  rw [h]
  simp [foldB_be]

theorem wordP_forth {k n : Nat} {l r : List UInt8} (h : wordP k l = some (n, r)) : l = beB k n ++ r ∧ n < 256 ^ k := by
  unfold wordP at h
  split at h
  · rename_i b r' ht
    obtain ⟨h1, h2⟩ := takeP_forth ht
    simp only [Option.some.injEq, Prod.mk.injEq] at h
    obtain ⟨rfl, rfl⟩ := h
    have h3 := be_foldB b 0
    have h4 := foldB_lt b 0
    rw [h2] at h3 h4
    exact ⟨by rw [h3]; exact h1, by simpa using h4⟩
  · cases h

theorem num_back : Back numP numB In64 := fun x hx r => by
  have h := wordP_be 8 (un x) r
  rw [Nat.mod_eq_of_lt (by have := un_lt x; omega)] at h
  unfold numP numB
  rw [h]
  simp only [sg_un hx]

theorem num_forth : Forth numP numB := fun l x r h => by
  unfold numP at h
  split at h
  · rename_i n r' hw
    obtain ⟨h1, h2⟩ := wordP_forth hw
    simp only [Option.some.injEq, Prod.mk.injEq] at h
    obtain ⟨rfl, rfl⟩ := h
    unfold numB
    rw [un_sg (by omega)]
    exact h1
  · cases h

theorem oct_back : Back octP octB In8 := fun x hx r => by
  obtain ⟨h1, h2⟩ := hx
  have h := wordP_be 1 x.toNat r
  unfold octP octB
  have hb : beB 1 x.toNat = [UInt8.ofNat x.toNat] := by simp [beB]
  rw [hb] at h
  rw [h]
  simp only [Option.some.injEq, Prod.mk.injEq, and_true]
  omega

theorem oct_forth : Forth octP octB := fun l x r h => by
  unfold octP at h
  split at h
  · rename_i n r' hw
    obtain ⟨h1, h2⟩ := wordP_forth hw
    simp only [Option.some.injEq, Prod.mk.injEq] at h
    obtain ⟨rfl, rfl⟩ := h
    rw [h1]
    simp [octB, beB]
  · cases h

theorem count_back : Back countP countB (· ≤ 65536) := fun x hx r => by
  have h := wordP_be 4 x r
  rw [Nat.mod_eq_of_lt (by simp at hx; omega)] at h
  unfold countP countB
  rw [h]
  simp only
  rw [if_neg (by simp at hx; omega)]

theorem count_forth {n : Nat} {l r : List UInt8} (h : countP l = some (n, r)) : l = countB n ++ r ∧ n ≤ 65536 := by
  unfold countP at h
  split at h
  · rename_i n r' hw
    obtain ⟨h1, h2⟩ := wordP_forth hw
    split at h
    · cases h
    · simp only [Option.some.injEq, Prod.mk.injEq] at h
      obtain ⟨rfl, rfl⟩ := h
      exact ⟨h1, by omega⟩
  · cases h

theorem text_back : Back textP textB (fun s => s.size ≤ 65536) := fun s hs r => by
  unfold textP textB
  rw [List.append_assoc, count_back _ hs]
  have h := takeP_app s.data.toList r
  rw [Array.length_toList] at h
  simp only [show s.size = s.data.size from rfl, h]

theorem text_forth : Forth textP textB := fun l x r h => by
  unfold textP at h
  split at h
  · rename_i n r1 hc
    split at h
    · rename_i b r2 ht
      obtain ⟨h1, h2⟩ := count_forth hc
      obtain ⟨h3, h4⟩ := takeP_forth ht
      simp only [Option.some.injEq, Prod.mk.injEq] at h
      obtain ⟨rfl, rfl⟩ := h
      unfold textB
      rw [h1, h3, List.append_assoc, ← h4]
      rfl
    · cases h
  · cases h

theorem val_back : Back valueP valB BareV := fun v hv r => by
  obtain ⟨k, n, s⟩ := v
  rcases hv with ⟨h1, h2, h3⟩ | ⟨h1, h2, h3⟩
  · simp only at h1 h2 h3
    subst h1; subst h3
    unfold valueP valB
    rw [List.append_assoc, oct_back _ ⟨by omega, by omega⟩]
    simp only [if_true]
    rw [num_back _ h2]
  · simp only at h1 h2 h3
    subst h1; subst h2
    unfold valueP valB
    rw [List.append_assoc, oct_back _ ⟨by omega, by omega⟩]
    simp only [if_true, show ¬ ((2 : Int) = 1) by omega, if_false]
    rw [text_back _ h3]

theorem val_forth : Forth valueP valB := fun l x r h => by
  unfold valueP at h
  split at h
  · rename_i k r1 hk
    have h1 := oct_forth _ _ _ hk
    split at h
    · rename_i hk1
      subst hk1
      split at h
      · rename_i z r2 hz
        have h2 := num_forth _ _ _ hz
        simp only [Option.some.injEq, Prod.mk.injEq] at h
        obtain ⟨rfl, rfl⟩ := h
        rw [h1, h2]
        simp [valB]
      · cases h
    · split at h
      · rename_i hk2
        subst hk2
        split at h
        · rename_i z r2 hz
          have h2 := text_forth _ _ _ hz
          simp only [Option.some.injEq, Prod.mk.injEq] at h
          obtain ⟨rfl, rfl⟩ := h
          rw [h1, h2]
          simp [valB]
        · cases h
      · cases h
  · cases h

theorem row_back {α : Type} {p : Rd α} {f : α → List UInt8} {ok : α → Prop} (hb : Back p f ok) : ∀ (l : List α), (∀ x, x ∈ l → ok x) → ∀ r, rowP p l.length (l.flatMap f ++ r) = some (l, r)
  | [], _, r => by simp [rowP]
  | x :: l, h, r => by
    rw [List.length_cons, rowP, List.flatMap_cons, List.append_assoc, hb x (h x (by simp))]
    simp only
    rw [row_back hb l (fun y hy => h y (by simp [hy]))]

theorem row_forth {α : Type} {p : Rd α} {f : α → List UInt8} (hf : Forth p f) : ∀ (n : Nat) (l : List UInt8) (xs : List α) (r : List UInt8), rowP p n l = some (xs, r) → l = xs.flatMap f ++ r ∧ xs.length = n
  | 0, l, xs, r, h => by
    simp only [rowP, Option.some.injEq, Prod.mk.injEq] at h
    obtain ⟨rfl, rfl⟩ := h
    simp
  | n + 1, l, xs, r, h => by
    rw [rowP] at h
    split at h
    · rename_i x r1 h1
      split at h
      · rename_i ys r2 h2
        simp only [Option.some.injEq, Prod.mk.injEq] at h
        obtain ⟨rfl, rfl⟩ := h
        obtain ⟨h3, h4⟩ := row_forth hf n r1 ys r2 h2
        rw [hf _ _ _ h1, h3]
        simp [h4]
      · cases h
    · cases h

theorem many_back {α : Type} {p : Rd α} {f : α → List UInt8} {ok : α → Prop} (hb : Back p f ok) : Back (manyP p) (manyB f) (fun l => l.length ≤ 65536 ∧ ∀ x, x ∈ l → ok x) := fun l hl r => by
  unfold manyP manyB
  rw [List.append_assoc, count_back _ hl.1]
  exact row_back hb l hl.2 r

theorem many_forth {α : Type} {p : Rd α} {f : α → List UInt8} (hf : Forth p f) : Forth (manyP p) (manyB f) := fun l x r h => by
  unfold manyP at h
  split at h
  · rename_i n r1 hc
    obtain ⟨h1, h2⟩ := count_forth hc
    obtain ⟨h3, h4⟩ := row_forth hf _ _ _ _ h
    unfold manyB
    rw [h1, h3, h4, List.append_assoc]
  · cases h

theorem vals_back : Back valuesP valsB BareVs := many_back val_back
theorem vals_forth : Forth valuesP valsB := many_forth val_forth

theorem fact_back : Back factP factB BareF := fun x hx r => by
  obtain ⟨h1, h2, h3⟩ := hx
  unfold factP factB
  simp only [List.append_assoc]
  rw [num_back _ h1]; simp only
  rw [num_back _ h2]; simp only
  rw [vals_back _ h3]

theorem fact_forth : Forth factP factB := fun l x r h => by
  unfold factP at h
  split at h
  · rename_i a r1 h1
    split at h
    · rename_i b r2 h2
      split at h
      · rename_i c r3 h3
        simp only [Option.some.injEq, Prod.mk.injEq] at h
        obtain ⟨rfl, rfl⟩ := h
        rw [num_forth _ _ _ h1, num_forth _ _ _ h2, vals_forth _ _ _ h3]
        simp [factB]
      · cases h
    · cases h
  · cases h

theorem command_back : Back commandP commandB BareC := fun x hx r => by
  obtain ⟨h1, h2, h3, h4⟩ := hx
  unfold commandP commandB
  simp only [List.append_assoc]
  rw [oct_back _ h1]; simp only
  rw [text_back _ h2]; simp only
  rw [num_back _ h4]; simp only
  rw [vals_back _ h3]

theorem command_forth : Forth commandP commandB := fun l x r h => by
  unfold commandP at h
  split at h
  · rename_i a r1 h1
    split at h
    · rename_i b r2 h2
      split at h
      · rename_i c r3 h3
        split at h
        · rename_i d r4 h4
          simp only [Option.some.injEq, Prod.mk.injEq] at h
          obtain ⟨rfl, rfl⟩ := h
          rw [oct_forth _ _ _ h1, text_forth _ _ _ h2, num_forth _ _ _ h3, vals_forth _ _ _ h4]
          simp [commandB]
        · cases h
      · cases h
    · cases h
  · cases h

theorem reply_back : Back replyP replyB BareR := fun x hx r => by
  obtain ⟨h1, h2, h3, h4⟩ := hx
  unfold replyP replyB
  simp only [List.append_assoc]
  rw [num_back _ h1]; simp only
  rw [num_back _ h2]; simp only
  rw [many_back fact_back _ h3]; simp only
  rw [vals_back _ h4]

theorem reply_forth : Forth replyP replyB := fun l x r h => by
  unfold replyP at h
  split at h
  · rename_i a r1 h1
    split at h
    · rename_i b r2 h2
      split at h
      · rename_i c r3 h3
        split at h
        · rename_i d r4 h4
          simp only [Option.some.injEq, Prod.mk.injEq] at h
          obtain ⟨rfl, rfl⟩ := h
          rw [num_forth _ _ _ h1, num_forth _ _ _ h2, many_forth fact_forth _ _ _ h3, vals_forth _ _ _ h4]
          simp [replyB]
        · cases h
      · cases h
    · cases h
  · cases h

theorem entry_back : Back entryP entryB BareE := fun x hx r => by
  obtain ⟨h1, h2, h3, h4, h5, h6⟩ := hx
  unfold entryP entryB
  simp only [List.append_assoc]
  rw [num_back _ h1]; simp only
  rw [oct_back _ h2]; simp only
  rw [num_back _ h3]; simp only
  rw [num_back _ h4]; simp only
  rw [command_back _ h5]; simp only
  rw [many_back num_back _ h6]

theorem entry_forth : Forth entryP entryB := fun l x r h => by
  unfold entryP at h
  split at h
  · rename_i a r1 h1
    split at h
    · rename_i b r2 h2
      split at h
      · rename_i c r3 h3
        split at h
        · rename_i d r4 h4
          split at h
          · rename_i e r5 h5
            split at h
            · rename_i g r6 h6
              simp only [Option.some.injEq, Prod.mk.injEq] at h
              obtain ⟨rfl, rfl⟩ := h
              rw [num_forth _ _ _ h1, oct_forth _ _ _ h2, num_forth _ _ _ h3, num_forth _ _ _ h4, command_forth _ _ _ h5, many_forth num_forth _ _ _ h6]
              simp [entryB]
            · cases h
          · cases h
        · cases h
      · cases h
    · cases h
  · cases h
end Go.Proofs.YtmocfielcllfmaaDoor
