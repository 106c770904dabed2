/- What the document asks of texts: among, name, number, operators. -/
import Derived.Test.YtfmjhbaenpbfoaaGreatDoorRefNm
import Derived.Test.YtfmjhbaenpbfoaaGreatDoorRefNum
import Derived.Test.YtfmjhbaenpbfoaaGreatDoorCountW
namespace Go.Proofs.YtfmjhbaenpbfoaaGreatDoor
open Go.RowKit

/-- A row of texts. -/
def strs (l : List ByteArray) : List Value := l.map Value.string
theorem toList_inj {a b : ByteArray} : a.toList = b.toList ↔ a = b := by
  rw [ByteArray.toList_eq, ByteArray.toList_eq]
  exact ⟨fun h => ByteArray.ext (Array.toList_inj.1 h), fun h => by rw [h]⟩

set_option maxRecDepth 100000 in
set_option maxHeartbeats 1000000 in
theorem refAmong_any (s : ByteArray) (l : List ByteArray) (b n c : Nat) (hn : n = l.length) (hm : n ≤ 1000) (w : World) (h : ∀ (j : Nat) (u : Value), (strs l)[j]? = some u → w.cell? ⟨b, j, none⟩ = some u) :
    Calls Tryz.prog 126 #[.string s, .slice (some ⟨b, 0, none⟩) n c] w fun e w' => e = .returned (.bool (l.any fun z => z.toList == s.toList)) ∧ w = w' := by
  have H := Lib.hid h
  have HN := Lib.hid hn
  clear h hn
  go_enter Tryz.func126, Tryz.ntmps126
  go_wp2_with fail
  go_loopw [5] (fun i wr => ∃ j : Nat, j ≤ n ∧ i = .int .i64 j ∧ Hid ((l.any fun z => z.toList == s.toList) = ((l.drop j).any fun z => z.toList == s.toList)) ∧ w = wr) (fun i _ => n - (intOf i).toNat)
  case atStart => exact ⟨0, by omega, rfl, rfl, rfl⟩
  case round =>
    obtain ⟨j, hj, rfl, HR, rfl⟩ := hrel
    by_cases hlt : j < n
    · have hjl : j < l.length := by have := HN.out; omega
      have hjn : (j : Int) < (n : Int) := by omega
      have d0 : w.cell? ⟨b, j, none⟩ = some (.string l[j]) := H.out j _ (by unfold strs; rw [List.getElem?_map, List.getElem?_eq_getElem hjl]; rfl)
      have HR1 : Hid ((l.any fun z => z.toList == s.toList) = ((l[j]).toList == s.toList || (l.drop (j + 1)).any fun z => z.toList == s.toList)) := by
        unfold Hid
        rw [HR.out, List.drop_eq_getElem_cons hjl, List.any_cons]
      generalize l[j] = z at d0 HR1
      cases hz : (z.toList == s.toList) with
      | true =>
        rw [hz, Bool.true_or] at HR1
        go_wp2_with fail
        go_ret
        rw [HR1.out]
        exact ⟨rfl, rfl⟩
      | false =>
        rw [hz, Bool.false_or] at HR1
        go_wp2_with fail
        go_roundw
        case rel => exact ⟨j + 1, by omega, by go_num, HR1, by first | rfl | trivial⟩
        case measure => simp [intOf]; omega
    · obtain rfl : j = n := by omega
      have HR1 : Hid ((l.any fun z => z.toList == s.toList) = false) := by
        unfold Hid
        rw [HR.out, HN.out, List.drop_length]
        rfl
      go_wp2_with fail
      go_ret
      rw [HR1.out]
      exact ⟨rfl, rfl⟩

theorem refWords_any (w : World) :
    Calls Tryz.prog 127 #[] w fun e w' => e = .returned (.slice (some ⟨w.heap.size, 0, none⟩) 11 11) ∧ w.alloc (.cells wordsC 9) = w' := by
  go_enter Tryz.func127, Tryz.ntmps127
  go_wp2
  go_ret
  exact ⟨rfl, rfl⟩
/-- A name that is no word. -/
def nameT (s : ByteArray) : Bool := Nm.namedB s.data.toList && !(wordsZ.any fun z => z.toList == s.toList)
theorem refName_any (s : ByteArray) (w : World) (hs : s.size ≤ maxLen) :
    Calls Tryz.prog 98 #[.string s] w fun e w' => e = .returned (.bool (nameT s)) ∧ Gr w w' := by
  have KN := Lib.hid (Nm.refNamed_any s w hs)
  have KW := Lib.hid (refWords_any w)
  have KA := Lib.hid (refAmong_any s wordsZ w.heap.size 11 11 rfl (by decide) (w.alloc (.cells wordsC 9)) (fun j u hu => cells_made w wordsC _ j u (by rw [← Array.getElem?_toList]; exact hu)))
  have HG : Hid (Gr w (w.alloc (.cells wordsC 9))) := box_gr _ _
  unfold nameT
  cases h1 : Nm.namedB s.data.toList with
  | false =>
    rw [h1] at KN
    go_enter Tryz.func98, Tryz.ntmps98
    go_wp2_with (go_at_call 101; go_must (refine (KN.out).mono ?_; rintro e w1 ⟨rfl, rfl⟩))
    go_ret
    exact ⟨rfl, Gr.refl _⟩
  | true =>
    rw [h1] at KN
    generalize (wordsZ.any fun z => z.toList == s.toList) = y at KA ⊢
    go_enter Tryz.func98, Tryz.ntmps98
    go_wp2_with (first
      | (go_at_call 101; go_must (refine (KN.out).mono ?_; rintro e w1 ⟨rfl, rfl⟩))
      | (go_at_call 127; go_must (refine (KW.out).mono ?_; rintro e w1 ⟨rfl, rfl⟩))
      | (go_at_call 126; go_must (refine (KA.out).mono ?_; rintro e w1 ⟨rfl, rfl⟩)))
    go_ret
    exact ⟨by cases y <;> rfl, HG.out⟩

/-- Operators with two sides. -/
abbrev twoC : Array Value := #[.string ⟨#[111, 114]⟩, .string ⟨#[97, 110, 100]⟩, .string ⟨#[61]⟩, .string ⟨#[33, 61]⟩, .string ⟨#[60]⟩, .string ⟨#[60, 61]⟩, .string ⟨#[62]⟩, .string ⟨#[62, 61]⟩, .string ⟨#[43]⟩, .string ⟨#[45]⟩, .string ⟨#[42]⟩]
def twoZ : List ByteArray := [⟨#[111, 114]⟩, ⟨#[97, 110, 100]⟩, ⟨#[61]⟩, ⟨#[33, 61]⟩, ⟨#[60]⟩, ⟨#[60, 61]⟩, ⟨#[62]⟩, ⟨#[62, 61]⟩, ⟨#[43]⟩, ⟨#[45]⟩, ⟨#[42]⟩]
def twoT (s : ByteArray) : Bool := twoZ.any fun z => z.toList == s.toList
theorem refTwo_any (s : ByteArray) (w : World) :
    Calls Tryz.prog 103 #[.string s] w fun e w' => e = .returned (.bool (twoT s)) ∧ Gr w w' := by
  have KA := Lib.hid (refAmong_any s twoZ w.heap.size 11 11 rfl (by decide) (w.alloc (.cells twoC 9)) (fun j u hu => cells_made w twoC _ j u (by rw [← Array.getElem?_toList]; exact hu)))
  have HG : Hid (Gr w (w.alloc (.cells twoC 9))) := box_gr _ _
  unfold twoT
  generalize (twoZ.any fun z => z.toList == s.toList) = y at KA ⊢
  go_enter Tryz.func103, Tryz.ntmps103
  go_wp2_with (go_at_call 126; go_must (refine (KA.out).mono ?_; rintro e w1 ⟨rfl, rfl⟩))
  go_ret
  exact ⟨rfl, HG.out⟩

/-- A number's text, perhaps with a - ahead. -/
def cutT (s : ByteArray) : List UInt8 := if s.data.toList.head? = some 45 then s.data.toList.drop 1 else s.data.toList
def numsT (s : ByteArray) : Bool := numB (cutT s)
theorem drop_one (s : ByteArray) : (s.extract 1 s.size).data.toList = s.data.toList.drop 1 := by
  rw [ByteArray.data_extract, Array.toList_extract, List.extract_eq_drop_take']
  rw [List.take_of_length_le (by rw [Array.length_toList]; exact Nat.le_refl _)]
theorem first_of (s : ByteArray) (h : 0 < s.size) : s.data.toList.head? = some s[0] := by
  have h' : 0 < s.data.toList.length := by simpa using h
  rw [List.head?_eq_getElem?, List.getElem?_eq_getElem h']
  rfl
set_option maxRecDepth 100000 in
theorem refNumT_any (s : ByteArray) (w : World) (hs : s.size ≤ 100000) :
    Calls Tryz.prog 102 #[.string s] w fun e w' => e = .returned (.bool (numsT s)) ∧ w = w' := by
  have KN := Lib.hid (fun (z : ByteArray) (hz : z.size ≤ 100000) => refNumber_any z w hz)
  by_cases h0 : 0 < s.size
  · have hne : s.toList ≠ [] := by
      rw [ByteArray.toList_eq]
      intro e
      have h1 : s.data.toList.length = 0 := by rw [e]; rfl
      have h2 : s.data.toList.length = s.size := by rw [Array.length_toList]; rfl
      omega
    have hem : s.toList.isEmpty = false := by simpa using hne
    have hf := first_of s h0
    by_cases hc : s[0] = 45
    · have hc' : (((s[0]).toNat : Int) == 45) = true := by rw [hc]; rfl
      have HE : Hid (numsT s = numB (s.extract 1 s.size).data.toList) := by
        unfold Hid numsT cutT
        rw [hf, hc, if_pos rfl, drop_one]
      have hsz : (s.extract 1 s.size).size ≤ 100000 := by simp; omega
      have K1 := Lib.hid (KN.out _ hsz)
      generalize numB (s.extract 1 s.size).data.toList = y at K1 HE
      generalize numI (s.extract 1 s.size).data.toList = x at K1
      clear hf hc hne KN hsz
      go_enter Tryz.func102, Tryz.ntmps102
      go_wp2_with (go_at_call 129; go_must (refine (K1.out).mono ?_; rintro e w1 ⟨rfl, rfl⟩))
      go_ret
      rw [HE.out]
      exact ⟨rfl, rfl⟩
    · have hc' : (((s[0]).toNat : Int) == 45) = false := by
        rw [beq_eq_false_iff_ne]
        intro e
        exact hc (UInt8.toNat_inj.1 (by show (s[0]).toNat = 45; omega))
      have HE : Hid (numsT s = numB s.data.toList) := by
        unfold Hid numsT cutT
        rw [hf, if_neg (fun e => hc (Option.some.inj e))]
      have K1 := Lib.hid (KN.out _ hs)
      clear hf hc hne KN
      go_enter Tryz.func102, Tryz.ntmps102
      go_wp2_with (go_at_call 129; go_must (refine (K1.out).mono ?_; rintro e w1 ⟨rfl, rfl⟩))
      go_ret
      rw [HE.out]
      exact ⟨rfl, rfl⟩
  · have hnil : s.data.toList = [] := List.eq_nil_of_length_eq_zero (by
      have : s.data.toList.length = s.size := by rw [Array.length_toList]; rfl
      omega)
    have hem : s.toList = [] := by rw [ByteArray.toList_eq, hnil]
    have HE : Hid (numsT s = numB s.data.toList) := by
      unfold Hid numsT cutT
      rw [hnil]
      rfl
    have K1 := Lib.hid (KN.out _ hs)
    clear KN hnil
    go_enter Tryz.func102, Tryz.ntmps102
    go_wp2_with (go_at_call 129; go_must (refine (K1.out).mono ?_; rintro e w1 ⟨rfl, rfl⟩))
    go_ret
    rw [HE.out]
    exact ⟨rfl, rfl⟩
end Go.Proofs.YtfmjhbaenpbfoaaGreatDoor
