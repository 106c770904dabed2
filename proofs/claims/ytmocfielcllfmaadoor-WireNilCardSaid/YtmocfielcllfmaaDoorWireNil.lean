/- WireNil is true. -/
import Derived.Test.YtmocfielcllfmaaDoorNil
namespace Go.Proofs.YtmocfielcllfmaaDoor
open Go.RowKit

theorem sl0V (w : World) : SlV w.heap.size w none [] := fun h => absurd rfl h
theorem sl0I (w : World) : SlI w.heap.size w none [] := fun h => absurd h (Nat.lt_irrefl _)
theorem sl0F (w : World) : SlF w.heap.size w none [] := ⟨[], rfl, fun h => absurd rfl h, fun p hp => by cases hp⟩

theorem same0F (w : World) : Calls Tryd.prog 22 #[.agg #[.int .i64 0, .int .i64 0, .slice none 0 0], .agg #[.int .i64 0, .int .i64 0, .slice none 0 0]] w (YesP w) :=
  sameFact (0, 0, []) none none 0 0 (by decide) w (sl0V w) (sl0V w)
theorem same0C (w : World) : Calls Tryd.prog 24 #[.agg #[.int .u8 0, .string ⟨#[]⟩, .slice none 0 0, .int .i64 0], .agg #[.int .u8 0, .string ⟨#[]⟩, .slice none 0 0, .int .i64 0]] w (YesP w) :=
  sameCommand (0, ⟨#[]⟩, [], 0) none none 0 0 (by decide) w (sl0V w) (sl0V w)
theorem same0R (w : World) : Calls Tryd.prog 26 #[.agg #[.int .i64 0, .int .i64 0, .slice none 0 0, .slice none 0 0], .agg #[.int .i64 0, .int .i64 0, .slice none 0 0, .slice none 0 0]] w (YesP w) :=
  sameReply (0, 0, [], []) none none 0 0 none none 0 0 (by decide) (fun x hx => by cases hx) (by decide) w (sl0F w) (sl0F w) (sl0V w) (sl0V w)
theorem same0E (w : World) : Calls Tryd.prog 28 #[.agg #[.int .i64 0, .int .u8 0, .int .i64 0, .int .i64 0, .int .u8 0, .string ⟨#[]⟩, .slice none 0 0, .int .i64 0, .slice none 0 0], .agg #[.int .i64 0, .int .u8 0, .int .i64 0, .int .i64 0, .int .u8 0, .string ⟨#[]⟩, .slice none 0 0, .int .i64 0, .slice none 0 0]] w (YesP w) :=
  sameEntry (0, 0, 0, 0, (0, ⟨#[]⟩, [], 0), []) none none 0 0 none none 0 0 (by decide) (by decide) w (sl0V w) (sl0V w) (sl0I w) (sl0I w)

set_option maxRecDepth 100000 in
set_option maxHeartbeats 4000000 in
theorem wireNil_any (w : World) : Calls Tryd.prog 5 #[] w (YesP w) := by
  have H0 := Lib.hid (below_two w (.cells #[.pointer none] 40) (.cells #[.pointer none, .pointer (some ⟨w.heap.size, 0, none⟩)] 31))
  have HD : Hid (∀ j : Nat, j < 2 → ∃ r, ((w.alloc (.cells #[.pointer none] 40)).alloc (.cells #[.pointer none, .pointer (some ⟨w.heap.size, 0, none⟩)] 31)).cell? ⟨w.heap.size + 1, j, none⟩ = some r ∧ Dead ((w.alloc (.cells #[.pointer none] 40)).alloc (.cells #[.pointer none, .pointer (some ⟨w.heap.size, 0, none⟩)] 31)) r) := by
    intro j hj
    obtain ⟨h1, h2⟩ := two_boxes (w := w) (c1 := #[.pointer none]) (c2 := #[.pointer none, .pointer (some ⟨w.heap.size, 0, none⟩)]) (t1 := 40) (t2 := 31) (Below.refl _ _)
    match j, hj with
    | 0, _ => exact ⟨_, h2 0, Or.inl rfl⟩
    | 1, _ => exact ⟨_, h2 1, Or.inr ⟨_, rfl, by simp; omega, h1 0⟩⟩
  have HS : Hid (w.heap.size + 1 < ((w.alloc (.cells #[.pointer none] 40)).alloc (.cells #[.pointer none, .pointer (some ⟨w.heap.size, 0, none⟩)] 31)).heap.size) := by unfold Hid; simp
  have hg := eqGuardV
  have heq := fun W => neV 0 0 0 0 ⟨#[]⟩ ⟨#[]⟩ W
  rw [eqvB_self (0, 0, ⟨#[]⟩)] at heq
  go_enter Tryd.func5, Tryd.ntmps5
  go_wp2_with fail
  generalize hW0 : ((w.alloc (.cells #[.pointer none] 40)).alloc (.cells #[.pointer none, .pointer (some ⟨w.heap.size, 0, none⟩)] 31)) = W0 at *
  clear hW0
  go_loopw [2, 3] (fun i x wr => ∃ j : Nat, j ≤ 2 ∧ i = .int .i64 j ∧ Below W0.heap.size W0 wr) (fun i _ _ => 2 - (intOf i).toNat)
  case atStart => exact ⟨0, by omega, rfl, Below.refl _ _⟩
  case round =>
    obtain ⟨j, hj, rfl, hfr⟩ := hrel
    have HFr := Lib.hid hfr
    by_cases hlt : j < 2
    · obtain ⟨r, hr, hdead⟩ := HD.out j hlt
      have c0 : wr.cell? ⟨w.heap.size + 1, j, none⟩ = some r := (hfr.cell (p := ⟨w.heap.size + 1, j, none⟩) HS.out).trans hr
      have HDr := Lib.hid (hdead.below hfr)
      clear hr hdead hfr
      have HB0 := Lib.hid (Below.refl wr.heap.size wr)
      go_wp2_with (go_at_call 18; refine (noN r _ HDr.out).mono ?_; rintro e v1 ⟨rfl, hb⟩; refine Hid.out ?_)
      have HDn := Lib.hid (HDr.out.below hb)
      have HBn := Lib.hid (below_step HB0.out hb)
      clear hb HDr HB0 c0
      have HDr := Lib.hid HDn.out
      have HB0 := Lib.hid HBn.out
      clear HDn HBn
      refine Lib.hid ?_
      go_wp2_with (go_at_call 19; refine (noS r _ HDr.out).mono ?_; rintro e v2 ⟨rfl, hb⟩; refine Hid.out ?_)
      have HDn := Lib.hid (HDr.out.below hb)
      have HBn := Lib.hid (below_step HB0.out hb)
      clear hb HDr HB0 
      have HDr := Lib.hid HDn.out
      have HB0 := Lib.hid HBn.out
      clear HDn HBn
      refine Lib.hid ?_
      go_wp2_with (go_at_call 20; refine (noV r _ HDr.out).mono ?_; rintro e v3 ⟨rfl, hb⟩; refine Hid.out ?_)
      have HDn := Lib.hid (HDr.out.below hb)
      have HBn := Lib.hid (below_step HB0.out hb)
      clear hb HDr HB0 
      have HDr := Lib.hid HDn.out
      have HB0 := Lib.hid HBn.out
      clear HDn HBn
      refine Lib.hid ?_
      go_wp2_with (go_at_call 21; refine (noL r _ HDr.out).mono ?_; rintro e v4 ⟨rfl, hb⟩; refine Hid.out ?_)
      have HDn := Lib.hid (HDr.out.below hb)
      have HBn := Lib.hid (below_step HB0.out hb)
      clear hb HDr HB0 
      have HDr := Lib.hid HDn.out
      have HB0 := Lib.hid HBn.out
      clear HDn HBn
      refine Lib.hid ?_
      go_wp2_with (go_at_call 23; refine (noF r _ HDr.out).mono ?_; rintro e v5 ⟨rfl, hb⟩; refine Hid.out ?_)
      have HDn := Lib.hid (HDr.out.below hb)
      have HBn := Lib.hid (below_step HB0.out hb)
      clear hb HDr HB0 
      have HDr := Lib.hid HDn.out
      have HB0 := Lib.hid HBn.out
      clear HDn HBn
      refine Lib.hid ?_
      go_wp2_with (go_at_call 22; refine (same0F _).mono ?_; rintro e v6 ⟨rfl, hb⟩; refine Hid.out ?_)
      have HDn := Lib.hid (HDr.out.below hb)
      have HBn := Lib.hid (below_step HB0.out hb)
      clear hb HDr HB0
      have HDr := Lib.hid HDn.out
      have HB0 := Lib.hid HBn.out
      clear HDn HBn
      refine Lib.hid ?_
      go_wp2_with (go_at_call 25; refine (noC r _ HDr.out).mono ?_; rintro e v7 ⟨rfl, hb⟩; refine Hid.out ?_)
      have HDn := Lib.hid (HDr.out.below hb)
      have HBn := Lib.hid (below_step HB0.out hb)
      clear hb HDr HB0 
      have HDr := Lib.hid HDn.out
      have HB0 := Lib.hid HBn.out
      clear HDn HBn
      refine Lib.hid ?_
      go_wp2_with (go_at_call 24; refine (same0C _).mono ?_; rintro e v8 ⟨rfl, hb⟩; refine Hid.out ?_)
      have HDn := Lib.hid (HDr.out.below hb)
      have HBn := Lib.hid (below_step HB0.out hb)
      clear hb HDr HB0
      have HDr := Lib.hid HDn.out
      have HB0 := Lib.hid HBn.out
      clear HDn HBn
      refine Lib.hid ?_
      go_wp2_with (go_at_call 27; refine (noR r _ HDr.out).mono ?_; rintro e v9 ⟨rfl, hb⟩; refine Hid.out ?_)
      have HDn := Lib.hid (HDr.out.below hb)
      have HBn := Lib.hid (below_step HB0.out hb)
      clear hb HDr HB0 
      have HDr := Lib.hid HDn.out
      have HB0 := Lib.hid HBn.out
      clear HDn HBn
      refine Lib.hid ?_
      go_wp2_with (go_at_call 26; refine (same0R _).mono ?_; rintro e v10 ⟨rfl, hb⟩; refine Hid.out ?_)
      have HDn := Lib.hid (HDr.out.below hb)
      have HBn := Lib.hid (below_step HB0.out hb)
      clear hb HDr HB0
      have HDr := Lib.hid HDn.out
      have HB0 := Lib.hid HBn.out
      clear HDn HBn
      refine Lib.hid ?_
      go_wp2_with (go_at_call 29; refine (noE r _ HDr.out).mono ?_; rintro e v11 ⟨rfl, hb⟩; refine Hid.out ?_)
      have HDn := Lib.hid (HDr.out.below hb)
      have HBn := Lib.hid (below_step HB0.out hb)
      clear hb HDr HB0 
      have HDr := Lib.hid HDn.out
      have HB0 := Lib.hid HBn.out
      clear HDn HBn
      refine Lib.hid ?_
      go_wp2_with (go_at_call 28; refine (same0E _).mono ?_; rintro e v12 ⟨rfl, hb⟩; refine Hid.out ?_)
      have HDn := Lib.hid (HDr.out.below hb)
      have HBn := Lib.hid (below_step HB0.out hb)
      clear hb HDr HB0
      have HDr := Lib.hid HDn.out
      have HB0 := Lib.hid HBn.out
      clear HDn HBn
      refine Lib.hid ?_
      go_wp2_with (first
        | (go_at_call 15; refine (done_no r _ HDr.out).mono ?_; rintro e w' ⟨rfl, rfl⟩)
        | (go_at_call 14; refine (bad_no r _ HDr.out).mono ?_; rintro e w' ⟨rfl, rfl⟩))
      go_roundw
      case rel => exact ⟨j + 1, by omega, by go_num, below_step HFr.out HB0.out⟩
      case measure => simp [intOf]; omega
    · obtain rfl : j = 2 := by omega
      clear hfr heq
      go_wp2_with (go_at_call 7; refine (awake_any _).mono ?_; rintro e w' ⟨rfl, hb⟩)
      go_ret
      exact ⟨rfl, H0.out.trans ((below_step HFr.out hb).mono H0.out.size)⟩
end Go.Proofs.YtmocfielcllfmaaDoor
