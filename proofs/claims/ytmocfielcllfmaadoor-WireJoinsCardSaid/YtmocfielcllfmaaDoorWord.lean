/- The next word of a place. -/
import Derived.Test.YtmocfielcllfmaaDoorTake
import Derived.Laws.Bits64b
namespace Go.Proofs.YtmocfielcllfmaaDoor
open Go.RowKit

def wordS (k : Nat) (s : St) : Nat × St := (foldB 0 (takeS k s).1, (takeS k s).2)

theorem takeS_len (n : Nat) (s : St) : (takeS n s).1.length ≤ n := by
  unfold takeS
  split
  · simp only [List.length_take]; omega
  · simp

theorem foldB_bound (l : List UInt8) (k : Nat) (h : l.length ≤ k) : foldB 0 l < 256 ^ k := by
  have h1 := foldB_lt l 0
  have h2 : 256 ^ l.length ≤ 256 ^ k := Nat.pow_le_pow_right (by omega) h
  omega

theorem or_byte (n : Nat) (c : Nat) (hc : c < 256) : n * 256 ||| c = n * 256 + c := by
  have h := Nat.shiftLeft_add_eq_or_of_lt (i := 8) (b := c) (by simpa using hc) n
  rw [Nat.shiftLeft_eq] at h
  simpa using h.symm

theorem or_word (a c : Nat) (ha : a < 256 ^ 7) (hc : c < 256) : bits .or .u64 (IntKind.u64.wrap ((a : Int) * 256)) (IntKind.u64.wrap (c : Int)) = ((a * 256 + c : Nat) : Int) := by
  have h1 : IntKind.u64.wrap ((a : Int) * 256) = ((a * 256 : Nat) : Int) := by rw [IntKind.wrap_u64]; omega
  have h2 : IntKind.u64.wrap (c : Int) = ((c : Nat) : Int) := by rw [IntKind.wrap_u64]; omega
  rw [h1, h2, bits_or_u64_nat _ _ (by omega) (by omega), or_byte a c hc]

set_option maxRecDepth 100000 in
set_option maxHeartbeats 1000000 in
theorem word_any (pb B k : Nat) (s : St) (w : World) (hk : k ≤ 8) (h : PlS w pb B s) :
    Calls Tryd.prog 98 #[.pointer (some ⟨pb, 0, none⟩), .int .i64 k] w fun e w' => e = .returned (.int .u64 ((wordS k s).1 : Nat)) ∧ PlS w' pb B (wordS k s).2 ∧ Fr pb w w' := by
  have HT := Lib.hid (take_any pb B k s w (by omega) h)
  have hlen := takeS_len k s
  unfold wordS
  generalize takeS k s = r at HT hlen
  obtain ⟨l, s'⟩ := r
  simp only at hlen ⊢
  clear h
  go_enter Tryd.func98, Tryd.ntmps98
  go_wp2_with (go_at_call 99; refine (HT.out).mono ?_; rintro e w1 ⟨ao, c, rfl, hcut, hpl, hfr⟩; refine Hid.out ?_)
  have HP := Lib.hid hpl
  have HF := Lib.hid hfr
  have HC := Lib.hid hcut
  clear hpl hfr hcut HT
  refine Lib.hid ?_
  go_wp2_with fail
  go_loopw [5, 7, 12] (fun n b i wr => ∃ j : Nat, j ≤ l.length ∧ i = .int .i64 j ∧ n = .int .u64 ((foldB 0 (l.take j) : Nat) : Int) ∧ wr = w1) (fun _ _ i _ => l.length - (intOf i).toNat)
  case atStart => exact ⟨0, by omega, rfl, rfl, rfl⟩
  case round =>
    obtain ⟨j, hj, rfl, rfl, rfl⟩ := hrel
    by_cases hlt : j < l.length
    · obtain ⟨h1, h2, h3, h4⟩ := HC.out
      obtain ⟨sb, off, rfl, ne, lb, hcs⟩ := h4 (by omega)
      have hcj := hcs j hlt
      have hjn : l.take (j + 1) = l.take j ++ [l[j]] := by rw [List.take_add_one, List.getElem?_eq_getElem hlt]; rfl
      have hfold : foldB 0 (l.take (j + 1)) = foldB 0 (l.take j) * 256 + (l[j]).toNat := by rw [hjn, foldB_append]; rfl
      have hb : foldB 0 (l.take j) < 256 ^ 7 := foldB_bound _ 7 (by rw [List.length_take]; omega)
      have hc8 : (l[j]).toNat < 256 := (l[j]).toNat_lt
      generalize foldB 0 (l.take j) = a at hfold hb
      generalize (l[j]).toNat = cc at hfold hcj hc8
      have HFO := Lib.hid hfold
      have HB := Lib.hid hb
      have HC8 := Lib.hid hc8
      clear hfold hb hc8 hjn hcs h4 h3 h2
      go_wp2_with fail
      go_roundw
      case rel =>
        refine ⟨j + 1, by omega, by go_num, ?_, trivial⟩
        rw [or_word a cc HB.out HC8.out, HFO.out]
      case measure => simp [intOf]; omega
    · obtain rfl : j = l.length := by omega
      rw [List.take_length]
      go_wp2
      go_ret
      exact ⟨rfl, HP.out, HF.out⟩
end Go.Proofs.YtmocfielcllfmaaDoor
