/- Texts on both sides, as one plain function; only draws and new blocks. -/
import Derived.Test.YtcmbedopmkodmaaDoorCmp
namespace Go.Proofs.YtcmbedopmkodmaaDoor
open Go.RowKit

def textS (x : Int × Int × ByteArray) : ByteArray := if rightB x.1 x.2.1 x.2.2 = true then (if x.1 = 2 then ⟨#[39]⟩ ++ x.2.2 else ⟨(Lib.itoa x.2.1).toArray⟩) else ⟨#[]⟩

theorem digits_len : ∀ (k m : Nat), 0 < k → m < 10 ^ k → (Lib.decDigits m).length ≤ k
  | 0, _, h, _ => absurd h (Nat.lt_irrefl 0)
  | k + 1, m, _, h => by
    rw [Lib.decDigits]
    split
    · simp
    · rename_i h10
      rw [List.length_append, List.length_singleton]
      have hk : 0 < k := by
        rcases Nat.eq_zero_or_pos k with h0 | h0
        · subst h0; simp at h; omega
        · exact h0
      have := digits_len k (m / 10) hk (by rw [Nat.pow_succ] at h; omega)
      omega

theorem bytes_snoc (l : List UInt8) (c : UInt8) : ((⟨l.toArray⟩ : ByteArray) ++ (⟨#[c]⟩ : ByteArray)) = ⟨(l ++ [c]).toArray⟩ := by
  apply ByteArray.ext
  rw [ByteArray.data_append]
  simp

theorem bytes_cons (c : UInt8) (l : List UInt8) : ((⟨#[c]⟩ : ByteArray) ++ (⟨l.toArray⟩ : ByteArray)) = ⟨(c :: l).toArray⟩ := by
  apply ByteArray.ext
  rw [ByteArray.data_append]
  simp

theorem textg_wrong (k n : Int) (s : ByteArray) (w : World) (hs : s.size ≤ maxLen) (hr : rightB k n s = false) :
    Calls Tryd.prog 18 #[.agg #[.int .u8 k, .int .i64 n, .string s]] w fun e w' => e = .returned (.string ⟨#[]⟩) ∧ Gr w w' := by
  go_enter Tryd.func18, Tryd.ntmps18
  go_wp2_with (go_at_call 14; refine (right_any _ _ _ _ hs).mono ?_; rintro e w' ⟨rfl, rfl⟩)
  go_ret
  exact ⟨rfl, ((Gr.refl _).alloc _).alloc _⟩

theorem textg_name (n : Int) (s : ByteArray) (w : World) (hs : s.size ≤ 24) (hr : rightB 2 n s = true) :
    Calls Tryd.prog 18 #[.agg #[.int .u8 2, .int .i64 n, .string s]] w fun e w' => e = .returned (.string (⟨#[39]⟩ ++ s)) ∧ Gr w w' := by
  have hs' : s.size ≤ maxLen := by unfold maxLen; omega
  go_enter Tryd.func18, Tryd.ntmps18
  have h22 : ((2 : Int) == 2) = true := rfl
  go_wp2_with (first | (go_at_call 14; refine (right_any _ _ _ _ hs').mono ?_; rintro e w' ⟨rfl, rfl⟩) | (go_at_call 29; refine (isName_exact _ _ _ _).mono ?_; rintro e w' ⟨rfl, rfl⟩))
  go_ret
  exact ⟨rfl, (((Gr.refl _).alloc _).alloc _).alloc _⟩

theorem textg_num (n : Int) (s : ByteArray) (w : World) (hs : s.size ≤ maxLen) (hr : rightB 1 n s = true) (hn : In64 n) (ht : Lib.TabBelow Tryd.prog w.heap.size w "internal/strconv.uint64pow10" .u64 Lib.pow10Tab) :
    Calls Tryd.prog 18 #[.agg #[.int .u8 1, .int .i64 n, .string s]] w fun e w' => e = .returned (.string ⟨(Lib.itoa n).toArray⟩) ∧ Gr w w' := by
  obtain ⟨h0, h1⟩ := hn
  have hc := fun w' (hb : Below w.heap.size w w') => Tryd.strconv_FormatInt_10 n h0 h1 w' (ht w' hb)
  have HC := Lib.hid hc
  clear hc ht
  go_enter Tryd.func18, Tryd.ntmps18
  go_wp2_with (first | (go_at_call 14; refine (right_any _ _ _ _ hs).mono ?_; rintro e w' ⟨rfl, rfl⟩) | (go_at_call 29; refine (isName_exact _ _ _ _).mono ?_; rintro e w' ⟨rfl, rfl⟩) | (go_at_call 40; refine (HC.out _ (below3 _ _ _ _)).mono ?_; rintro e w' ⟨rfl, q, os, rfl⟩))
  go_ret
  exact ⟨rfl, ((((Gr.refl _).alloc _).alloc _).alloc _).trans ⟨q, os, rfl⟩⟩

theorem tmod_neg (m : Nat) : (-(m : Int)).tmod 10 = -((m : Int) % 10) := by
  rw [Int.neg_tmod]
  congr 1
theorem tdiv_neg (m : Nat) : (-(m : Int)).tdiv 10 = -(((m / 10 : Nat) : Int)) := by
  rw [Int.neg_tdiv]
  congr 1

theorem cell_new (w : World) (cs : Array Value) (t : TypeId) (j : Nat) : (w.alloc (.cells cs t)).cell? ⟨w.heap.size, j, none⟩ = cs[j]? := by
  show (match (w.heap.push (Obj.cells cs t))[w.heap.size]? with | some (.cells c _ _) => if (none : Option _).isSome then none else c[j]? | _ => none) = _
  rw [Array.getElem?_push_size]
  rfl

/-- One byte as a text. -/
theorem byte_text (w : World) (c : Int) (h0 : 0 ≤ c) (h1 : c ≤ 255) :
    (convert 73 9 (.slice (some ⟨w.heap.size, 0, none⟩) 1 1)).run Tryd.prog (w.alloc (.cells #[.int .u8 c] 5)) = .ok (.string ⟨#[UInt8.ofNat c.toNat]⟩) (w.alloc (.cells #[.int .u8 c] 5)) := by
  have hb : ((UInt8.ofNat c.toNat).toNat : Int) = c := by
    rw [UInt8.toNat_ofNat']; omega
  exact run_convert_bytes_back (P := Tryd.prog) (w.alloc (.cells #[.int .u8 c] 5)) 73 9 5 ⟨w.heap.size, 0, none⟩ 1 [UInt8.ofNat c.toNat] Tryd.underlying73 Tryd.underlying5 Tryd.underlying9 fun j hj => by
    have e : j = 0 := by simp at hj; omega
    subst e
    rw [show ([UInt8.ofNat c.toNat][0]'hj).toNat = (UInt8.ofNat c.toNat).toNat from rfl, hb]
    exact cell_new w _ _ 0

theorem digit_nat (m : Nat) : (48 + (m : Int) % 10).toNat = 48 + m % 10 := by omega

set_option maxHeartbeats 1000000 in
theorem digits_any : ∀ (m : Nat), m ≤ 9223372036854775808 → ∀ w : World,
    Calls Tryd.prog 41 #[.int .i64 (-(m : Int))] w fun e w' => e = .returned (.string ⟨(Lib.decDigits m).toArray⟩) ∧ Gr w w' := by
  intro m
  induction m using Nat.strongRecOn with
  | ind m ih =>
    intro hm w
    have hmod : (-(m : Int)).tmod 10 = -((m : Int) % 10) := tmod_neg m
    have hbt := byte_text w (48 + (m : Int) % 10) (by omega) (by omega)
    rw [digit_nat] at hbt
    by_cases h10 : m < 10
    · rw [Lib.decDigits_one h10]
      rw [Nat.mod_eq_of_lt h10] at hbt
      have hd : decide (-10 < -(m : Int)) = true := by simp; omega
      clear ih
      generalize UInt8.ofNat (48 + m) = c8 at hbt ⊢
      go_enter Tryd.func41, Tryd.ntmps41
      go_wp2_with fail
      go_ret
      exact ⟨rfl, (Gr.refl w).alloc _⟩
    · have hrec := fun W => ih (m / 10) (by omega) (by omega) W
      have hcast : ((m / 10 : Nat) : Int) = (m : Int) / 10 := by omega
      rw [hcast] at hrec
      have HREC := Lib.hid hrec
      have hd : decide (-10 < -(m : Int)) = false := by simp; omega
      have hdiv : (-(m : Int)).tdiv 10 = -((m : Int) / 10) := by rw [tdiv_neg, hcast]
      have hl := digits_len 19 (m / 10) (by omega) (by omega)
      have HE : Hid (((⟨(Lib.decDigits (m / 10)).toArray⟩ : ByteArray) ++ (⟨#[UInt8.ofNat (48 + m % 10)]⟩ : ByteArray)) = ⟨(Lib.decDigits m).toArray⟩) := by
        unfold Hid
        rw [bytes_snoc]
        conv => rhs; rw [Lib.decDigits, dif_neg h10]
      have HL : (⟨(Lib.decDigits (m / 10)).toArray⟩ : ByteArray).size ≤ 19 := by
        show (Lib.decDigits (m / 10)).toArray.size ≤ 19
        simpa using hl
      clear ih hrec hl hcast
      generalize (⟨(Lib.decDigits (m / 10)).toArray⟩ : ByteArray) = ds at HE HL HREC
      generalize (⟨(Lib.decDigits m).toArray⟩ : ByteArray) = dm at HE ⊢
      generalize UInt8.ofNat (48 + m % 10) = c8 at hbt HE
      go_enter Tryd.func41, Tryd.ntmps41
      go_wp2_with fail
      refine (HREC.out _).mono ?_
      rintro e w1 ⟨rfl, hg⟩
      go_wp2
      go_ret
      exact ⟨by rw [← HE.out]; rfl, ((Gr.refl w).alloc _).trans hg⟩
end Go.Proofs.YtcmbedopmkodmaaDoor
