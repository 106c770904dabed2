/- Number, on both sides. -/
import Derived.Test.YtfmjhbaenpbfoaaGreatDoorTold
import Derived.Test.YtfmjhbaenpbfoaaGreatDoorNumP
import Derived.Shelf.Strings.SlTrimAscii
namespace Go.Proofs.YtfmjhbaenpbfoaaGreatDoor
open Go.RowKit

/-- The two errors of the library lie where they lay. -/
structure Errs (w : World) : Prop where
  two : 5 ≤ w.heap.size
  syn : ∃ te pe, w.cell? ⟨3, 0, none⟩ = some (.iface te pe)
  rng : ∃ te pe, w.cell? ⟨4, 0, none⟩ = some (.iface te pe)
theorem Errs.below {w w' : World} (h : Errs w) (b : Below w.heap.size w w') : Errs w' := by
  obtain ⟨h2, ⟨a, c, h3⟩, ⟨d, e, h4⟩⟩ := h
  exact ⟨Nat.le_trans h2 b.size, ⟨a, c, (b.cell (p := ⟨3, 0, none⟩) (show 3 < w.heap.size by omega)).trans h3⟩, ⟨d, e, (b.cell (p := ⟨4, 0, none⟩) (show 4 < w.heap.size by omega)).trans h4⟩⟩
theorem Errs.fr {w w' : World} {R : Nat} (h : Errs w) (hR : 5 ≤ R) (b : Fr R w w') : Errs w' := by
  obtain ⟨h2, ⟨a, c, h3⟩, ⟨d, e, h4⟩⟩ := h
  exact ⟨Nat.le_trans h2 b.size, ⟨a, c, b.cell h3 (show (3 : Nat) ≠ R by omega)⟩, ⟨d, e, b.cell h4 (show (4 : Nat) ≠ R by omega)⟩⟩
theorem Errs.drewN {w : World} (h : Errs w) (n : Nat) : Errs (w.drewN n) := ⟨h.two, h.syn, h.rng⟩

theorem trim_any (s : ByteArray) (w : World) (hs : s.size ≤ 9223372036854775807) :
    Calls Tryz.prog 107 #[.string s, .string digitsZ] w fun e w' => e = .returned (.string ⟨(Lib.trimS s.data.toList digitsZ.data.toList).toArray⟩) ∧ Below w.heap.size w w' :=
  Any.strings_Trim_laid Tryz.lays160 (by kernel_rfl) s digitsZ w hs (by decide) (ascii_of_all (by decide))

theorem digits_all (t : Bs) : t.all (digitsZ.data.toList.contains ·) = t.all digB := by
  congr 1
  funext x
  have := among_digits x
  unfold amongB at this
  simpa using this

def numI (t : Bs) : Int := if numB t then ((numV 0 t : Nat) : Int) else 0

set_option maxRecDepth 100000 in
set_option maxHeartbeats 1000000 in
theorem number_any (s : ByteArray) (w : World) (hs : s.size ≤ 281474976710656) (he : Errs w) :
    Calls Tryz.prog 77 #[.string s] w fun e w' => e = .returned (.tuple #[.int .i64 (numI s.data.toList), .bool (numB s.data.toList)]) ∧ Below w.heap.size w w' := by
  have KT := Lib.hid (trim_any s w (by omega))
  have HE := Lib.hid he
  clear he
  by_cases hd : s.data.toList.all digB = true
  · have ht : Lib.trimS s.data.toList digitsZ.data.toList = [] := by rw [trim_nil, digits_all]; exact hd
    rw [ht] at KT
    by_cases h0 : s.data.toList = []
    · have hn : numB s.data.toList = false := by rw [h0]; rfl
      have hi : numI s.data.toList = 0 := by unfold numI; rw [hn]; rfl
      have KP : Hid (∀ w' : World, Errs w' → Calls Tryz.prog 108 #[.string s, .int .i64 10, .int .i64 64] w' fun e w'' => ∃ N, e = .returned (.tuple #[.int .i64 0, .iface 205 (.pointer (some ⟨N, 0, none⟩))]) ∧ Below w'.heap.size w' w'') := fun w' h => by
        obtain ⟨te, pe, hv⟩ := h.syn
        exact (Tryz.strconv_ParseInt_10_at64_none s hs (by rw [h0]) _ w' hv (Or.inr ⟨te, pe, rfl⟩)).mono fun _ _ ⟨N, h1, _, _, h2⟩ => ⟨N, h1, h2⟩
      rw [hn, hi]
      clear hd ht h0 hn hi
      go_enter Tryz.func77, Tryz.ntmps77
      go_wp2_with (first | (go_at_call 107; refine (KT.out).mono ?_; rintro e w1 ⟨rfl, hb1⟩; have HB1 := Lib.hid hb1; clear hb1) | (go_at_call 108; refine (KP.out _ (HE.out.below HB1.out)).mono ?_; rintro e w2 ⟨N, rfl, hb2⟩; have HB2 := Lib.hid hb2; clear hb2))
      go_ret2
      exact ⟨rfl, below_step HB1.out HB2.out⟩
    · cases hn : numB s.data.toList with
      | true =>
        have hi : numI s.data.toList = ((numV 0 s.data.toList : Nat) : Int) := by unfold numI; rw [hn]; rfl
        have KP : Hid (∀ w' : World, Calls Tryz.prog 108 #[.string s, .int .i64 10, .int .i64 64] w' fun e w'' => e = .returned (.tuple #[.int .i64 (numI s.data.toList), .nilIface]) ∧ Below w'.heap.size w' w'') := fun w' => by
          refine (Tryz.strconv_ParseInt_10_at64_ok s (by omega) (numI s.data.toList) (by rw [hi]; exact parseI_ok _ hn) w').mono fun _ _ ⟨h1, h2⟩ => ⟨h1, ?_⟩
          rcases h2 with rfl | ⟨t, rfl⟩
          · exact Below.refl _ _
          · exact Lib.bytesWorld_below _ _ _
        clear hd ht h0 hn hi
        generalize numI s.data.toList = v at KP ⊢
        go_enter Tryz.func77, Tryz.ntmps77
        go_wp2_with (first | (go_at_call 107; refine (KT.out).mono ?_; rintro e w1 ⟨rfl, hb1⟩; have HB1 := Lib.hid hb1; clear hb1) | (go_at_call 108; refine (KP.out _).mono ?_; rintro e w2 ⟨rfl, hb2⟩; have HB2 := Lib.hid hb2; clear hb2))
        go_ret2
        exact ⟨rfl, below_step HB1.out HB2.out⟩
      | false =>
        have hi : numI s.data.toList = 0 := by unfold numI; rw [hn]; rfl
        have KP : Hid (∀ w' : World, Errs w' → Calls Tryz.prog 108 #[.string s, .int .i64 10, .int .i64 64] w' fun e w'' => ∃ (N : Nat) (v : Int), e = .returned (.tuple #[.int .i64 v, .iface 205 (.pointer (some ⟨N, 0, none⟩))]) ∧ Below w'.heap.size w' w'') := fun w' h => by
          obtain ⟨te, pe, hv⟩ := h.rng
          exact (Tryz.strconv_ParseInt_10_at64_range s hs (parseI_range _ h0 hd hn) _ w' hv (Or.inr ⟨te, pe, rfl⟩)).mono fun _ _ ⟨N, h1, _, _, h2⟩ => ⟨N, _, h1, h2⟩
        rw [hi]
        clear hd ht h0 hn hi
        go_enter Tryz.func77, Tryz.ntmps77
        go_wp2_with (first | (go_at_call 107; refine (KT.out).mono ?_; rintro e w1 ⟨rfl, hb1⟩; have HB1 := Lib.hid hb1; clear hb1) | (go_at_call 108; refine (KP.out _ (HE.out.below HB1.out)).mono ?_; rintro e w2 ⟨N, v, rfl, hb2⟩; have HB2 := Lib.hid hb2; clear hb2))
        go_ret2
        exact ⟨rfl, below_step HB1.out HB2.out⟩
  · have ht : Lib.trimS s.data.toList digitsZ.data.toList ≠ [] := by rw [Ne, trim_nil, digits_all]; exact hd
    have hn : numB s.data.toList = false := by
      unfold numB
      rw [show s.data.toList.all digB = false by simpa using hd]
      simp
    have hi : numI s.data.toList = 0 := by unfold numI; rw [hn]; rfl
    rw [hn, hi]
    generalize Lib.trimS s.data.toList digitsZ.data.toList = z at KT ht
    obtain ⟨y, hy⟩ : ∃ y : ByteArray, y = ⟨z.toArray⟩ := ⟨_, rfl⟩
    rw [← hy] at KT
    have e1 : y.toList.isEmpty = false := by
      rw [hy, Lib.toList_data]
      cases z with
      | nil => exact absurd rfl ht
      | cons => rfl
    have e2 : (y.toList = []) = False := by
      rw [hy, Lib.toList_data]
      simpa using ht
    clear hd ht hn hi hy
    go_enter Tryz.func77, Tryz.ntmps77
    go_wp2_with (go_at_call 107; refine (KT.out).mono ?_; rintro e w1 ⟨rfl, hb1⟩; have HB1 := Lib.hid hb1; clear hb1)
    go_ret2
    exact ⟨rfl, HB1.out⟩
end Go.Proofs.YtfmjhbaenpbfoaaGreatDoor
