/- take tells the bytes that it went by, as new memory; skip. -/
import Derived.Test.YtfmjhbaenpbfoaaGreatDoorPass
import Derived.StillTailTactics
namespace Go.Proofs.YtfmjhbaenpbfoaaGreatDoor
open Go.RowKit

theorem clone_any (s : ByteArray) (w : World) (hlim : s.size ≤ 281474976710656) :
    Calls Tryz.prog 176 #[.string s] w fun e w' => e = .returned (.string s) ∧ Below w.heap.size w w' := by
  go_enter Tryz.func176, Tryz.ntmps176
  go_wp2_with (go_at_call 188; refine (Tryz.stringslite_Clone s _ hlim).mono ?_; rintro e w1 ⟨rfl, hb⟩)
  go_ret
  exact ⟨rfl, hb⟩

theorem extract_eq (s : ByteArray) (a b : Nat) : s.extract a b = ⟨((s.data.toList.drop a).take (b - a)).toArray⟩ := by
  apply ByteArray.ext
  apply Array.ext'
  simp [ByteArray.data_extract, Array.toList_extract]

set_option maxRecDepth 100000 in
set_option maxHeartbeats 1000000 in
theorem take_any (R k b n c : Nat) (zs : List ByteArray) (P : UInt8 → Bool) (hP : ∀ x, amongB zs x = P x) (s : ByteArray) (hm : s.size ≤ 1000000) (w : World) (h : Rd w R s k) (hk : k ≤ s.size) (hs : Sets w b zs) (hb : b ≠ R) (hn : zs.length = n) (hn' : n ≤ 1000) :
    Calls Tryz.prog 154 #[.pointer (some ⟨R, 0, none⟩), .slice (some ⟨b, 0, none⟩) n c] w fun e w' => e = .returned (.string ⟨((s.data.toList.drop k).takeWhile P).toArray⟩) ∧ Went R s (k + ((s.data.toList.drop k).takeWhile P).length) w w' := by
  have KP := Lib.hid (pass_any R k b n c zs P hP s hm w h hk hs hb hn hn')
  have hp := h.pos
  have hle := takeWhile_len P s k
  obtain ⟨E, hE⟩ : ∃ E, E = k + ((s.data.toList.drop k).takeWhile P).length := ⟨_, rfl⟩
  have HT : Hid ((⟨((s.data.toList.drop k).takeWhile P).toArray⟩ : ByteArray) = s.extract k E) := by
    unfold Hid
    rw [extract_eq, show E - k = ((s.data.toList.drop k).takeWhile P).length by omega, takeWhile_take]
  have hke : k ≤ E := by omega
  have hes : E ≤ s.size := by omega
  rw [← hE] at KP ⊢
  rw [HT.out]
  have HM := Lib.hid hm
  clear hle hE HT hn hP h hs hm hk
  go_enter Tryz.func154, Tryz.ntmps154
  go_wp2_with (go_at_call 146; refine (KP.out).mono ?_; rintro e w1 ⟨⟨v, rfl⟩, hw⟩; refine Hid.out ?_)
  have HW := Lib.hid hw
  have hsr := hw.rd.src
  have hp1 := hw.rd.pos
  have KC : Hid (∀ w', Calls Tryz.prog 176 #[.string (s.extract k E)] w' fun e w'' => e = .returned (.string (s.extract k E)) ∧ Below w'.heap.size w' w'') := fun w' => clone_any _ w' (by have := HM.out; simp; omega)
  have i1 : (k : Int) ≤ (E : Int) := by omega
  have i2 : (E : Int) ≤ (s.size : Int) := by omega
  clear hw hp KP
  refine Lib.hid ?_
  go_wp2_with fail
  go_still_tail 10, (by kernel_rfl)
  change wpList _ _ _ _ _ w1.drew
  have HW2 : Hid (Went R s E w w1.drew) := ⟨HW.out.rd.drewN 1, HW.out.fr.drew⟩
  clear hsr hp1 HW
  generalize w1.drew = w2 at HW2 ⊢
  go_wp2_with (go_at_call 176; refine (KC.out _).mono ?_; rintro e w3 ⟨rfl, hb⟩)
  go_ret
  exact ⟨rfl, HW2.out.rd.below hb, HW2.out.fr.trans (Fr.of_below hb)⟩
end Go.Proofs.YtfmjhbaenpbfoaaGreatDoor
