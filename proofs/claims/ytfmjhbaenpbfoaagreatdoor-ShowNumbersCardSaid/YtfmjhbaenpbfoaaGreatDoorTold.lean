/- Sets of bytes; what is told; names; words. -/
import Derived.Test.YtfmjhbaenpbfoaaGreatDoorSkip
namespace Go.Proofs.YtfmjhbaenpbfoaaGreatDoor
open Go.RowKit

theorem all_bytes {f g : UInt8 → Bool} (h : (List.range 256).all (fun n => f (UInt8.ofNat n) == g (UInt8.ofNat n)) = true) : ∀ x, f x = g x := fun x => by
  have h1 := List.all_eq_true.1 h x.toNat (List.mem_range.2 x.toNat_lt)
  simpa using h1

abbrev lettersZ : ByteArray := ⟨#[97, 98, 99, 100, 101, 102, 103, 104, 105, 106, 107, 108, 109, 110, 111, 112, 113, 114, 115, 116, 117, 118, 119, 120, 121, 122]⟩
abbrev digitsZ : ByteArray := ⟨#[48, 49, 50, 51, 52, 53, 54, 55, 56, 57]⟩
abbrev lowZ : ByteArray := ⟨#[95]⟩
abbrev blanksZ : ByteArray := ⟨#[9, 10, 13, 32]⟩
abbrev hashZ : ByteArray := ⟨#[35]⟩
theorem among_blanks : ∀ x, amongB [blanksZ] x = blankB x := all_bytes (by decide +kernel)
theorem among_hash : ∀ x, amongB [hashZ] x = hashB x := all_bytes (by decide +kernel)
theorem among_letters : ∀ x, amongB [lettersZ] x = lowB x := all_bytes (by decide +kernel)
theorem among_digits : ∀ x, amongB [digitsZ] x = digB x := all_bytes (by decide +kernel)
theorem among_on : ∀ x, amongB [lettersZ, digitsZ, lowZ] x = onB x := all_bytes (by decide +kernel)
theorem among_lowOn : ∀ x, amongB [lettersZ, lowZ] x = lowOnB x := all_bytes (by decide +kernel)

theorem told_yes (k : Int) (t : ByteArray) (w : World) :
    Calls Tryz.prog 151 #[.int .u8 k, .string t, .bool true] w fun e w' => e = .returned (.tuple #[.agg #[.int .u8 k, .string t, .int .i64 0], .int .i64 0]) ∧ Below w.heap.size w w' := by
  go_enter Tryz.func151, Tryz.ntmps151
  go_wp2
  exact bodyPost_ret (v := .tuple #[.agg #[.int .u8 k, .string t, .int .i64 0], .int .i64 0]) (by simp [results, Tryz.results151, go_sem]) rfl ⟨rfl, below_own _⟩
theorem told_no (k : Int) (t : ByteArray) (w : World) :
    Calls Tryz.prog 151 #[.int .u8 k, .string t, .bool false] w fun e w' => e = .returned (.tuple #[.agg #[.int .u8 0, .string ⟨#[]⟩, .int .i64 0], .int .i64 201]) ∧ Below w.heap.size w w' := by
  go_enter Tryz.func151, Tryz.ntmps151
  go_wp2
  exact bodyPost_ret (v := .tuple #[.agg #[.int .u8 0, .string ⟨#[]⟩, .int .i64 0], .int .i64 201]) (by simp [results, Tryz.results151, go_sem]) rfl ⟨rfl, below_own _⟩

/-- A token as the program tells it, at a place. -/
def tkV (t : Tk) (a : Nat) : Value := .tuple #[.agg #[.int .u8 t.kind, .string ⟨t.text.toArray⟩, .int .i64 a], .int .i64 t.err]
theorem told_any (k : Int) (t rest : Bs) (b : Bool) (w : World) :
    Calls Tryz.prog 151 #[.int .u8 k, .string ⟨t.toArray⟩, .bool b] w fun e w' => e = .returned (tkV (tkOf k t rest b) 0) ∧ Below w.heap.size w w' := by
  cases b with
  | true => exact told_yes k _ w
  | false => exact told_no k _ w

set_option maxHeartbeats 1000000 in
theorem isName_any (t : Bs) (w : World) :
    Calls Tryz.prog 152 #[.string ⟨t.toArray⟩] w fun e w' => e = .returned (.bool (nameB t)) ∧ Below w.heap.size w w' := by
  cases t with
  | nil =>
    go_enter Tryz.func152, Tryz.ntmps152
    go_wp2
    go_ret
    exact ⟨rfl, Below.refl _ _⟩
  | cons c l =>
    have KA := Lib.hid (fun w' (h : Sets w' w.heap.size [lettersZ]) => among_any w.heap.size 1 1 [lettersZ] c w' h rfl (by decide))
    rw [among_letters] at KA
    obtain ⟨z, hz⟩ : ∃ z : ByteArray, z = ⟨(c :: l).toArray⟩ := ⟨_, rfl⟩
    have e1 : z.toList.isEmpty = false := by rw [hz, Lib.toList_data]; rfl
    have e2 : (z.toList = []) = False := by
      rw [hz, Lib.toList_data]
      simp
    have hsz : z.size = l.length + 1 := by rw [hz]; simp [ByteArray.size]
    have h0 : 0 < z.size := by omega
    have hc : c = z[0] := by subst hz; rfl
    have HL : Hid (z.size = l.length + 1) := hsz
    rw [← hz]
    have hnm : nameB (c :: l) = (lowB c && decide (z.size ≤ 24)) := by rw [hsz]; rfl
    rw [hnm]
    generalize lowB c = b at KA ⊢
    have KB : Hid (∀ w', Sets w' w.heap.size [lettersZ] → Calls Tryz.prog 148 #[.int .u8 (z[0].toNat : Int), .slice (some ⟨w.heap.size, 0, none⟩) 1 1] w' fun e w'' => e = .returned (.bool b) ∧ w' = w'') := by
      rw [← hc]
      exact KA
    have HS := Lib.hid (sets_made w [lettersZ] #[.string lettersZ] 9 rfl)
    have HB : Hid (Below w.heap.size w (w.alloc (.cells #[.string lettersZ] 9))) := below_own _
    have HE : Hid (decide ((z.size : Int) ≤ 24) = decide (z.size ≤ 24)) := by
      unfold Hid
      rw [decide_eq_decide]
      omega
    clear hz hsz hc hnm KA HL
    go_enter Tryz.func152, Tryz.ntmps152
    cases b with
    | true =>
      go_wp2_with (go_at_call 148; refine (KB.out _ HS.out).mono ?_; rintro e w1 ⟨rfl, rfl⟩)
      go_ret
      refine ⟨?_, HB.out⟩
      rw [Bool.true_and, ← HE.out]
      rfl
    | false =>
      go_wp2_with (go_at_call 148; refine (KB.out _ HS.out).mono ?_; rintro e w1 ⟨rfl, rfl⟩)
      go_ret
      exact ⟨rfl, HB.out⟩

abbrev wordsZ : List ByteArray := wordsB.map fun t => ⟨t.toArray⟩
abbrev wordsC : Array Value := #[.string ⟨#[102, 97, 99, 116]⟩, .string ⟨#[114, 117, 108, 101]⟩, .string ⟨#[115, 97, 108, 105, 101, 110, 99, 101]⟩, .string ⟨#[110, 111, 116]⟩, .string ⟨#[116, 101, 115, 116]⟩, .string ⟨#[97, 115, 115, 101, 114, 116]⟩, .string ⟨#[114, 101, 116, 114, 97, 99, 116]⟩, .string ⟨#[115, 97, 121]⟩, .string ⟨#[104, 97, 108, 116]⟩, .string ⟨#[97, 110, 100]⟩, .string ⟨#[111, 114]⟩]

theorem words_any (w : World) :
    Calls Tryz.prog 150 #[] w fun e w' => e = .returned (.slice (some ⟨w.heap.size, 0, none⟩) 11 11) ∧ w.alloc (.cells wordsC 9) = w' := by
  go_enter Tryz.func150, Tryz.ntmps150
  go_wp2
  go_ret
  exact ⟨rfl, rfl⟩

theorem bytes_inj {a b : Bs} : ((⟨a.toArray⟩ : ByteArray) = ⟨b.toArray⟩) ↔ a = b := by
  constructor
  · intro h
    have := congrArg (fun z : ByteArray => z.data.toList) h
    simpa using this
  · rintro rfl; rfl
theorem containsS_words (t : Bs) : Lib.containsS wordsZ ⟨t.toArray⟩ = wordsB.contains t := by
  rw [Bool.eq_iff_iff, Lib.containsS_iff, List.contains_iff_mem, List.mem_map]
  constructor
  · rintro ⟨a, ha, e⟩
    rwa [← bytes_inj.1 e]
  · intro h
    exact ⟨t, h, rfl⟩
theorem isWord_any (t : Bs) (w : World) :
    Calls Tryz.prog 82 #[.slice (some ⟨w.heap.size, 0, none⟩) 11 11, .string ⟨t.toArray⟩] (w.alloc (.cells wordsC 9)) fun e w' => e = .returned (.bool (wordsB.contains t)) ∧ w.alloc (.cells wordsC 9) = w' := by
  have hs := sets_made w wordsZ wordsC 9 rfl
  have h := Tryz.slices_Contains_string w.heap.size 0 11 11 wordsZ ⟨t.toArray⟩ (w.alloc (.cells wordsC 9)) (by decide) (by decide) (fun j hj => by
    rw [Nat.zero_add, hs.cell j hj, List.getD_eq_getElem?_getD, List.getElem?_eq_getElem hj]; rfl)
  rw [show List.take 11 wordsZ = wordsZ from rfl, containsS_words] at h
  exact h.mono fun _ _ ⟨h1, h2⟩ => ⟨h1, h2.symm⟩
end Go.Proofs.YtfmjhbaenpbfoaaGreatDoor
