/- skip goes by a text that stands next; skipOne by the first one of some. -/
import Derived.Test.YtfmjhbaenpbfoaaGreatDoorTake
namespace Go.Proofs.YtfmjhbaenpbfoaaGreatDoor
open Go.RowKit

theorem extract_all (s : ByteArray) (k : Nat) : (s.extract k s.size).data.toList = s.data.toList.drop k := by
  rw [extract_eq]
  simp
  rw [List.take_of_length_le (by simp)]

set_option maxRecDepth 100000 in
set_option maxHeartbeats 1000000 in
theorem skip_yes (R k : Nat) (s x : ByteArray) (hm : s.size ≤ 1000000) (w : World) (h : Rd w R s k) (hk : k ≤ s.size) (hx : x.data.toList.isPrefixOf (s.data.toList.drop k) = true) :
    Calls Tryz.prog 114 #[.pointer (some ⟨R, 0, none⟩), .string x] w fun e w' => e = .returned (.bool true) ∧ Went R s (k + x.data.toList.length) w w' := by
  have KH : Hid (∀ w', Calls Tryz.prog 153 #[.string (s.extract k s.size), .string x] w' fun e w'' => e = .returned (.bool true) ∧ w'' = w') := fun w' => by
    have := Tryz.strings_HasPrefix (s.extract k s.size) x w'
    rw [extract_all, show Lib.hasPrefix (s.data.toList.drop k) x.data.toList = true from hx] at this
    exact this
  have hxl : x.size ≤ s.size - k := by
    have h1 := (List.isPrefixOf_iff_prefix.1 hx).length_le
    simpa using h1
  have HE : Hid (x.data.toList.length = x.size) := by unfold Hid; simp
  rw [HE.out]
  have hp := h.pos
  have hsr := h.src
  have hf := h.froz
  have H := Lib.hid h
  have i1 : (k : Int) ≤ (s.size : Int) := by omega
  have i2 : (x.size : Int) ≤ (s.size : Int) := by omega
  have i3 : (s.size : Int) ≤ 1000000 := by omega
  clear hx h HE
  go_enter Tryz.func114, Tryz.ntmps114
  go_wp2_with fail
  go_quiet (first | (go_at_call 153; exact Calls.quiet_of_same (KH.out _)))
  go_wp2
  go_ret
  have h1 := fun m => (H.out.drewN m).set (k + x.size)
  refine ⟨rfl, ?_, ((Fr.refl R w).drewN _).set _ _⟩
  simpa using h1 _
set_option maxRecDepth 100000 in
set_option maxHeartbeats 1000000 in
theorem skip_no (R k : Nat) (s x : ByteArray) (w : World) (h : Rd w R s k) (hk : k ≤ s.size) (hx : x.data.toList.isPrefixOf (s.data.toList.drop k) = false) :
    Calls Tryz.prog 114 #[.pointer (some ⟨R, 0, none⟩), .string x] w fun e w' => e = .returned (.bool false) ∧ ∃ n, w.drewN n = w' := by
  have KH : Hid (∀ w', Calls Tryz.prog 153 #[.string (s.extract k s.size), .string x] w' fun e w'' => e = .returned (.bool false) ∧ w'' = w') := fun w' => by
    have := Tryz.strings_HasPrefix (s.extract k s.size) x w'
    rw [extract_all, show Lib.hasPrefix (s.data.toList.drop k) x.data.toList = false from hx] at this
    exact this
  have hp := h.pos
  have hsr := h.src
  have i1 : (k : Int) ≤ (s.size : Int) := by omega
  clear hx h
  go_enter Tryz.func114, Tryz.ntmps114
  go_wp2_with fail
  go_quiet (first | (go_at_call 153; exact Calls.quiet_of_same (KH.out _)))
  go_wp2
  go_ret
  exact ⟨rfl, _, rfl⟩

/-- Which text of a row stands first. -/
def firstOf (ts : List Bs) (l : Bs) : Option Bs := ts.find? fun t => t.isPrefixOf l

set_option maxRecDepth 100000 in
set_option maxHeartbeats 1000000 in
/-- A row of texts, one of which (the j-th) is the first that stands next. -/
theorem skipOne_yes (R k b n c : Nat) (zs : List ByteArray) (s : ByteArray) (hm : s.size ≤ 1000000) (w : World) (h : Rd w R s k) (hk : k ≤ s.size) (hs : Sets w b zs) (hn : zs.length = n) (hn' : n ≤ 1000)
    (j : Nat) (hj : j < zs.length) (hit : (zs[j]).data.toList.isPrefixOf (s.data.toList.drop k) = true) (miss : ∀ i, (hi : i < zs.length) → i < j → (zs[i]).data.toList.isPrefixOf (s.data.toList.drop k) = false) :
    Calls Tryz.prog 155 #[.pointer (some ⟨R, 0, none⟩), .slice (some ⟨b, 0, none⟩) n c] w fun e w' => e = .returned (.string zs[j]) ∧ Went R s (k + (zs[j]).data.toList.length) w w' := by
  have H := Lib.hid h
  have HS := Lib.hid hs
  have HN := Lib.hid hn
  have KY := Lib.hid (fun (w' : World) (h : Rd w' R s k) => skip_yes R k s zs[j] hm w' h hk hit)
  have KM : Hid (∀ (w' : World) (_ : Rd w' R s k) (i : Nat) (hi : i < zs.length), i < j → Calls Tryz.prog 114 #[.pointer (some ⟨R, 0, none⟩), .string zs[i]] w' fun e w'' => e = .returned (.bool false) ∧ ∃ n, w'.drewN n = w'') := fun w' h i hi hij => skip_no R k s zs[i] w' h hk (miss i hi hij)
  have hjn : j < n := by omega
  obtain ⟨z, hz⟩ : ∃ z, zs[j] = z := ⟨_, rfl⟩
  have HZ := Lib.hid hz
  rw [hz] at KY ⊢
  clear hit miss h hs hn hk hm hz
  go_enter Tryz.func155, Tryz.ntmps155
  go_wp2
  go_loopw [9] (fun i wr => ∃ (q m : Nat), q ≤ j ∧ i = .int .i64 q ∧ wr = w.drewN m) (fun i _ => n - (intOf i).toNat)
  case atStart => exact ⟨0, 0, Nat.zero_le _, rfl, rfl⟩
  case round =>
    obtain ⟨q, m, hq, rfl, rfl⟩ := hrel
    have hqn : q < n := by omega
    have hql : q < zs.length := by have := HN.out; omega
    have HSq := HS.out.drewN m
    have hc := HSq.cell q hql
    by_cases hqj : q = j
    · subst hqj
      have K := Lib.hid (KY.out _ (H.out.drewN m))
      rw [HZ.out] at hc
      clear HSq
      go_wp2_with (go_at_call 114; refine (K.out).mono ?_; rintro e w' ⟨rfl, hw⟩)
      go_ret
      exact ⟨rfl, hw.rd, ((Fr.refl R w).drewN m).trans hw.fr⟩
    · have K := Lib.hid (KM.out _ (H.out.drewN m) q hql (by omega))
      generalize zs[q] = z at K hc
      clear HSq
      go_wp2_with (go_at_call 114; refine (K.out).mono ?_; rintro e w' ⟨rfl, m', rfl⟩)
      go_roundw
      case rel => exact ⟨q + 1, m + m', by omega, by go_num, rfl⟩
      case measure => simp [intOf]; omega

set_option maxRecDepth 100000 in
set_option maxHeartbeats 1000000 in
theorem skipOne_no (R k b n c : Nat) (zs : List ByteArray) (s : ByteArray) (w : World) (h : Rd w R s k) (hk : k ≤ s.size) (hs : Sets w b zs) (hn : zs.length = n) (hn' : n ≤ 1000)
    (miss : ∀ i, (hi : i < zs.length) → (zs[i]).data.toList.isPrefixOf (s.data.toList.drop k) = false) :
    Calls Tryz.prog 155 #[.pointer (some ⟨R, 0, none⟩), .slice (some ⟨b, 0, none⟩) n c] w fun e w' => e = .returned (.string ⟨#[]⟩) ∧ ∃ n, w.drewN n = w' := by
  have H := Lib.hid h
  have HS := Lib.hid hs
  have HN := Lib.hid hn
  have KM : Hid (∀ (w' : World) (_ : Rd w' R s k) (i : Nat) (hi : i < zs.length), Calls Tryz.prog 114 #[.pointer (some ⟨R, 0, none⟩), .string zs[i]] w' fun e w'' => e = .returned (.bool false) ∧ ∃ n, w'.drewN n = w'') := fun w' h i hi => skip_no R k s zs[i] w' h hk (miss i hi)
  clear miss h hs hn hk
  go_enter Tryz.func155, Tryz.ntmps155
  go_wp2
  go_loopw [9] (fun i wr => ∃ (q m : Nat), q ≤ n ∧ i = .int .i64 q ∧ wr = w.drewN m) (fun i _ => n - (intOf i).toNat)
  case atStart => exact ⟨0, 0, Nat.zero_le _, rfl, rfl⟩
  case round =>
    obtain ⟨q, m, hq, rfl, rfl⟩ := hrel
    by_cases hqn : q < n
    · have hql : q < zs.length := by have := HN.out; omega
      have HSq := HS.out.drewN m
      have hc := HSq.cell q hql
      have K := Lib.hid (KM.out _ (H.out.drewN m) q hql)
      generalize zs[q] = z at K hc
      clear HSq
      go_wp2_with (go_at_call 114; refine (K.out).mono ?_; rintro e w' ⟨rfl, m', rfl⟩)
      go_roundw
      case rel => exact ⟨q + 1, m + m', by omega, by go_num, rfl⟩
      case measure => simp [intOf]; omega
    · obtain rfl : q = n := by omega
      go_wp2
      go_ret
      exact ⟨rfl, _, rfl⟩
end Go.Proofs.YtfmjhbaenpbfoaaGreatDoor
