/- The reader goes on: pass, passTo. -/
import Derived.Test.YtfmjhbaenpbfoaaGreatDoorLow
namespace Go.Proofs.YtfmjhbaenpbfoaaGreatDoor
open Go.RowKit

/-- The reader's place, read off the world. -/
def placeOf (R : Nat) (w : World) : Nat := (intOf ((w.cell? ⟨R, 1, none⟩).getD undef)).toNat
theorem Rd.place {w : World} {R : Nat} {s : ByteArray} {k : Nat} (h : Rd w R s k) : placeOf R w = k := by
  unfold placeOf
  rw [h.pos]
  simp [intOf]

/-- The reader went on to k, and nothing else turned. -/
structure Went (R : Nat) (s : ByteArray) (k : Nat) (w w' : World) : Prop where
  rd : Rd w' R s k
  fr : Fr R w w'

theorem takeWhile_hit (P : UInt8 → Bool) (s : ByteArray) (k : Nat) (h : k < s.size) (hp : P s[k] = true) : ((s.data.toList.drop k).takeWhile P).length = ((s.data.toList.drop (k + 1)).takeWhile P).length + 1 := by
  rw [drop_at s k h, List.takeWhile_cons_of_pos hp, List.length_cons]
theorem takeWhile_miss (P : UInt8 → Bool) (s : ByteArray) (k : Nat) (hp : nextB P (s.data.toList.drop k) = false) : ((s.data.toList.drop k).takeWhile P).length = 0 := by
  cases h : s.data.toList.drop k with
  | nil => rfl
  | cons c l =>
    rw [h] at hp
    rw [List.takeWhile_cons_of_neg (by rw [show P c = false from hp]; simp)]
    rfl
theorem takeWhile_len (P : UInt8 → Bool) (s : ByteArray) (k : Nat) : ((s.data.toList.drop k).takeWhile P).length ≤ s.size - k := by
  have := takeDrop_len P (s.data.toList.drop k)
  simp at this
  omega

set_option maxHeartbeats 1000000 in
theorem pass_any (R k b n c : Nat) (zs : List ByteArray) (P : UInt8 → Bool) (hP : ∀ x, amongB zs x = P x) (s : ByteArray) (hm : s.size ≤ 1000000) (w : World) (h : Rd w R s k) (hk : k ≤ s.size) (hs : Sets w b zs) (hb : b ≠ R) (hn : zs.length = n) (hn' : n ≤ 1000) :
    Calls Tryz.prog 146 #[.pointer (some ⟨R, 0, none⟩), .slice (some ⟨b, 0, none⟩) n c] w fun e w' => (∃ v, e = .returned v) ∧ Went R s (k + ((s.data.toList.drop k).takeWhile P).length) w w' := by
  have H := Lib.hid h
  have HS := Lib.hid hs
  have HM := Lib.hid hm
  have KN := Lib.hid (fun (j : Nat) (w' : World) (h : Rd w' R s j) (hj : j ≤ s.size) (hs : Sets w' b zs) => next_any R j b n c zs P hP s w' h hj hs hn hn')
  obtain ⟨K, hK⟩ : ∃ K, K = k + ((s.data.toList.drop k).takeWhile P).length := ⟨_, rfl⟩
  have HK := Lib.hid hK
  rw [← hK]
  clear hn hP h hs hm hK
  go_enter Tryz.func146, Tryz.ntmps146
  go_wp2
  go_loopw [] (fun wr => ∃ j : Nat, j ≤ s.size ∧ Hid (j + ((s.data.toList.drop j).takeWhile P).length = K) ∧ Hid (Rd wr R s j) ∧ Hid (Fr R w wr)) (fun wr => s.size - placeOf R wr)
  case atStart => exact ⟨k, hk, HK.out.symm, H, Lib.hid (Fr.refl R w)⟩
  case round =>
    obtain ⟨j, hj, HJ, HR, HF⟩ := hrel
    have HSj : Hid (Sets wr b zs) := HS.out.kept HF.out hb
    have KJ := Lib.hid (KN.out j wr HR.out hj HSj.out)
    cases hnx : nextB P (s.data.toList.drop j) with
    | true =>
      have hlt : j < s.size := by
        apply Classical.byContradiction
        intro hh
        rw [List.drop_of_length_le (by simp; omega)] at hnx
        cases hnx
      have hpj : P s[j] = true := by rw [drop_at s j hlt] at hnx; exact hnx
      have HJ' : Hid (j + 1 + ((s.data.toList.drop (j + 1)).takeWhile P).length = K) := by
        have h1 := takeWhile_hit P s j hlt hpj
        have h2 := HJ.out
        unfold Hid
        omega
      rw [hnx] at KJ
      have hp := HR.out.pos
      have hf := HR.out.froz
      have hm := HM.out
      have HPL : Hid (placeOf R wr = j) := HR.out.place
      clear hnx hpj HJ
      go_wp2_with (go_at_call 112; refine (KJ.out).mono ?_; rintro e w' ⟨rfl, m, rfl⟩)
      go_roundw
      case rel =>
        have h1 := (HR.out.drewN m).set (j + 1)
        refine ⟨j + 1, by omega, HJ', ?_, ?_⟩
        · unfold Hid
          simpa using h1
        · unfold Hid
          exact (HF.out.drewN m).set _ _
      case measure =>
        have h1 := ((HR.out.drewN m).set (j + 1)).place
        rw [HPL.out]
        have e : placeOf R ((wr.drewN m).setCell ⟨R, 1, none⟩ (.int .i64 ((j : Int) + 1))) = j + 1 := by simpa using h1
        rw [e]
        omega
    | false =>
      have HE : Hid (j = K) := by
        have h1 := takeWhile_miss P s j hnx
        have h2 := HJ.out
        unfold Hid
        omega
      rw [hnx] at KJ
      clear hnx HJ
      go_wp2_with (go_at_call 112; refine (KJ.out).mono ?_; rintro e w' ⟨rfl, m, rfl⟩)
      go_end0
      refine ⟨⟨_, rfl⟩, ?_, HF.out.drewN m⟩
      rw [← HE.out]
      exact HR.out.drewN m

set_option maxHeartbeats 1000000 in
theorem passTo_any (R k : Nat) (s : ByteArray) (hm : s.size ≤ 1000000) (w : World) (h : Rd w R s k) (hk : k ≤ s.size) :
    Calls Tryz.prog 147 #[.pointer (some ⟨R, 0, none⟩), .int .u8 10] w fun e w' => (∃ v, e = .returned v) ∧ Went R s (k + ((s.data.toList.drop k).takeWhile lineB).length) w w' := by
  have H := Lib.hid h
  have HM := Lib.hid hm
  obtain ⟨K, hK⟩ : ∃ K, K = k + ((s.data.toList.drop k).takeWhile lineB).length := ⟨_, rfl⟩
  have HK := Lib.hid hK
  rw [← hK]
  clear h hm hK
  go_enter Tryz.func147, Tryz.ntmps147
  go_wp2_with fail
  go_loopw [] (fun wr => ∃ j : Nat, j ≤ s.size ∧ Hid (j + ((s.data.toList.drop j).takeWhile lineB).length = K) ∧ Hid (Rd wr R s j) ∧ Hid (Fr R w wr)) (fun wr => s.size - placeOf R wr)
  case atStart => exact ⟨k, hk, HK.out.symm, H, Lib.hid (Fr.refl R w)⟩
  case round =>
    obtain ⟨j, hj, HJ, HR, HF⟩ := hrel
    have hp := HR.out.pos
    have hsr := HR.out.src
    by_cases hlt : j < s.size
    · have KE := Lib.hid (fun w' (h : Rd w' R s j) => ended_no R j s w' h hlt)
      cases hpj : lineB s[j] with
      | true =>
        have HJ' : Hid (j + 1 + ((s.data.toList.drop (j + 1)).takeWhile lineB).length = K) := by
          have h1 := takeWhile_hit lineB s j hlt hpj
          have h2 := HJ.out
          unfold Hid
          omega
        have hne : s[j].toNat ≠ 10 := by simpa [lineB] using hpj
        have q1 : ((s[j].toNat : Int) != 10) = true := by simp; omega
        have hf := HR.out.froz
        have hm := HM.out
        have HPL : Hid (placeOf R wr = j) := HR.out.place
        clear hpj HJ hne
        go_wp2_with fail
        go_quiet (first | (go_at_call 111; exact Calls.quiet_of ((KE.out _ (HR.out.drewN _)).mono fun _ _ ⟨h, m, h'⟩ => ⟨h, m, h'.symm⟩)))
        go_wp2
        go_roundw
        case rel =>
          refine ⟨j + 1, by omega, HJ', Lib.hid ?_, Lib.hid ((HF.out.drewN _).set _ _)⟩
          have h1 := fun m => (HR.out.drewN m).set (j + 1)
          exact h1 _
        case measure =>
          have e : ∀ m, placeOf R ((wr.drewN m).setCell ⟨R, 1, none⟩ (.int .i64 ((j : Int) + 1))) = j + 1 := fun m => ((HR.out.drewN m).set (j + 1)).place
          rw [HPL.out, e]
          omega
      | false =>
        have HE : Hid (j = K) := by
          have h1 := takeWhile_miss lineB s j (by rw [drop_at s j hlt]; exact hpj)
          have h2 := HJ.out
          unfold Hid
          omega
        have hne : s[j].toNat = 10 := by simpa [lineB] using hpj
        have q1 : ((s[j].toNat : Int) != 10) = false := by simp; omega
        clear hpj HJ hne
        go_wp2_with fail
        go_quiet (first | (go_at_call 111; exact Calls.quiet_of ((KE.out _ (HR.out.drewN _)).mono fun _ _ ⟨h, m, h'⟩ => ⟨h, m, h'.symm⟩)))
        go_wp2
        go_end0
        refine ⟨⟨_, rfl⟩, ?_, HF.out.drewN _⟩
        rw [← HE.out]
        exact HR.out.drewN _
    · obtain rfl : j = s.size := by omega
      have KE := Lib.hid (fun w' (h : Rd w' R s s.size) => ended_yes R s w' h)
      have HE : Hid (s.size = K) := by
        have h1 := takeWhile_miss lineB s s.size (by rw [List.drop_of_length_le (by simp)]; rfl)
        have h2 := HJ.out
        unfold Hid
        omega
      clear HJ
      go_wp2_with fail
      go_quiet (first | (go_at_call 111; exact Calls.quiet_of ((KE.out _ (HR.out.drewN _)).mono fun _ _ ⟨h, m, h'⟩ => ⟨h, m, h'.symm⟩)))
      go_wp2
      go_end0
      refine ⟨⟨_, rfl⟩, ?_, HF.out.drewN _⟩
      rw [← HE.out]
      exact HR.out.drewN _
end Go.Proofs.YtfmjhbaenpbfoaaGreatDoor
