/- The program's through: a whole expression. -/
import Derived.Test.YtkbkkhfmejpbeaaGoB9
import Derived.Deep.LoopGhost
namespace Go.Proofs.Ytkbkkhfmejpbeaa
open Go.RowKit

theorem Wait.held {vs : List V3} {t0 c : X} {sd0 sd : List V3} {ws : List Frm} (h : Wait vs t0 sd0 c ws sd) (h0 : Held t0) : Held c ∧ ∀ f, f ∈ ws → Held f.t := by
  induction h with
  | base => exact ⟨h0, fun f hf => by cases hf⟩
  | step a t c m rest pre q hk h3 he _ ih =>
    refine ⟨ih.1.kid (List.mem_of_getElem? hk), fun f hf => ?_⟩
    rcases List.mem_cons.1 hf with rfl | hf
    · exact ih.1
    · exact ih.2 f hf
theorem Going.held {vs : List V3} {t0 : X} {sd0 sd : List V3} {ws : List Frm} (h : Going vs t0 sd0 ws sd) (h0 : Held t0) : ∀ f, f ∈ ws → Held f.t := by
  cases h with
  | out v hv => intro f hf; cases hf
  | on a t n rest pre q hn h3 he hw =>
    intro f hf
    rcases List.mem_cons.1 hf with rfl | hf
    · exact (hw.held h0).1
    · exact (hw.held h0).2 f hf

/-- What through tells and leaves. -/
def ThP (B : Nat) (w0 : World) (R mb vb kb : Nat) (vo : Option Addr) (vc : Nat) (vs : List V3) (t0 : X) (sd0 : List V3) (e : Ending) (w' : World) : Prop :=
  ∃ err : Int, e = .returned (.int .i64 err) ∧ ((err = 0 ∧ (evalX vs t0).2 = 0 ∧ ∃ wv' sv' kn', WS B w0 w' R mb vb kb vo vc vs wv' sv' [] (sd0 ++ [(evalX vs t0).1]) kn' ∧ Kn B w0 vs [] kn') ∨ (err ≠ 0 ∧ evalX vs t0 = (zeroT, err) ∧ Below B w0 w'))
/-- Between two steps. -/
def LoopI (B : Nat) (w0 : World) (R mb vb kb : Nat) (vo : Option Addr) (vc : Nat) (vs : List V3) (t0 : X) (sd0 : List V3) (m : Nat) (err : Int) (w' : World) : Prop :=
  (err = 0 ∧ ∃ wv' sv' ws' sd' kn', WS B w0 w' R mb vb kb vo vc vs wv' sv' ws' sd' kn' ∧ Kn B w0 vs ws' kn' ∧ Going vs t0 sd0 ws' sd' ∧ muF ws' ≤ m ∧ sd'.length + muF ws' ≤ 1000000) ∨ (err ≠ 0 ∧ evalX vs t0 = (zeroT, err) ∧ Below B w0 w')

section
variable {B : Nat} {w0 w : World} {R mb vb kb : Nat} {vo : Option Addr} {vc : Nat} {vs : List V3} {wv sv : Value} {kn : List (Addr × V3)}

set_option maxRecDepth 100000 in
set_option maxHeartbeats 2000000 in
theorem through_any {sd0 : List V3} (h : WS B w0 w R mb vb kb vo vc vs wv sv [] sd0 kn) (k : Kn B w0 vs [] kn) (a : Addr) (t : X) (ha : At9 B w0 a t) (hh : Held t) (hN : sd0.length + 1 + t.wt ≤ 1000000) :
    Calls Try.prog 30 #[.pointer (some ⟨R, 0, none⟩), .pointer (some a)] w (ThP B w0 R mb vb kb vo vc vs t sd0) := by
  have HM := Lib.hid (meet_any h k a t ha hh (by omega) (by simp) (fun f hf => by cases hf))
  have hwhat := eval_what vs h.vrow.fine t hh
  have HS : Hid (∀ e w', MeetP B w0 R mb vb kb vo vc vs [] sd0 kn a t e w' → ∃ err : Int, e = .returned (.int .i64 err) ∧ LoopI B w0 R mb vb kb vo vc vs t sd0 1000000 err w') := fun e w' hm => by
    obtain ⟨err, rfl, hm⟩ := hm
    refine ⟨err, rfl, ?_⟩
    rcases hm with ⟨h0, h1, wv', sv', hw⟩ | ⟨h0, h3, hno, wv', sv', hw⟩ | ⟨h0, h1, hw⟩
    · exact Or.inl ⟨h0, wv', sv', [], _, kn, hw, k, .out _ (Prod.ext rfl h1), by simp [muF], by rw [List.length_append, List.length_singleton, muF]; omega⟩
    · refine Or.inl ⟨h0, wv', sv', _, _, _, hw, k.push ha hno, (Wait.base).push h3 a, ?_, ?_⟩
      · rw [X.wt_eq] at hN
        simp only [muF, List.drop_zero]
        omega
      · rw [X.wt_eq] at hN
        simp only [muF, List.drop_zero]
        omega
    · refine Or.inr ⟨h0, ?_, hw⟩
      rcases hwhat with ⟨h2, _⟩ | ⟨_, h2⟩
      · exact absurd (h1.trans h2) h0
      · rw [h1]
        exact Prod.ext h2 rfl
  have HH := Lib.hid hh
  clear h k ha hh hN hwhat
  go_enter Try.func30, Try.ntmps30
  go_wp2_with (go_at_call 45; go_must (refine (HM.out).mono ?_; intro e w1 hx; obtain ⟨err, rfl, hx2⟩ := HS.out e w1 hx; have HX := Lib.hid hx2; clear hx hx2))
  go_loopg [5] 1000000 (fun m s5 wr => ∃ err : Int, s5 = .int .i64 err ∧ Hid (LoopI B w0 R mb vb kb vo vc vs t sd0 m err wr))
  case atStart => exact ⟨err, rfl, HX⟩
  case round =>
    obtain ⟨err', rfl, HL⟩ := hrel
    clear HX HM HS
    rcases HL.out with ⟨rfl, wv', sv', ws', sd', kn', hW, hK, hG, hm, hN⟩ | ⟨h0, h1, hB⟩
    · have hr0 := Lib.cell_of_heap hW.box 1
      obtain ⟨ao, c, rfl⟩ := owns_slice hW.way
      cases ws' with
      | nil =>
        have HW := Lib.hid hW
        have HK := Lib.hid hK
        have HG := Lib.hid hG
        clear hW hK hG hm hN HL
        go_wp2_with fail
        go_ret
        cases HG.out with
        | out v hv => exact ⟨0, rfl, Or.inl ⟨rfl, by rw [hv], _, _, kn', by rw [hv]; exact HW.out, HK.out⟩⟩
      | cons f rest =>
        have HC := Lib.hid (goOn_any hW hK hG (by simp) (hG.held HH.out) hN)
        have hpos : (0 : Int) < ((f :: rest).length : Int) := by simp
        have HNm := Lib.hid (And.intro hm hN)
        clear hW hK hG hm hN HL
        generalize (f :: rest).length = n at hr0 hpos
        go_wp2_with (go_at_call 46; go_must (refine (HC.out).mono ?_; rintro e w2 ⟨err2, rfl, hx⟩; have HX := Lib.hid hx; clear hx))
        obtain ⟨hm, hN⟩ := HNm.out
        rcases HX.out with ⟨h0, wv2, sv2, ws2, sd2, kn2, hW2, hK2, hG2, hmu, hsum⟩ | ⟨h0, h1, hB⟩
        · go_roundg (muF ws2)
          case measure => omega
          case rel => exact ⟨err2, rfl, Or.inl ⟨h0, wv2, sv2, ws2, sd2, kn2, hW2, hK2, hG2, Nat.le_refl _, by omega⟩⟩
        · go_roundg 0
          case measure => rw [muF] at hm; omega
          case rel => exact ⟨err2, rfl, Or.inr ⟨h0, h1, hB⟩⟩
    · have hd : (err' == 0) = false := beq_eq_false_iff_ne.2 h0
      have HE := Lib.hid (And.intro h0 (And.intro h1 hB))
      clear h0 h1 hB HL
      go_wp2_with fail
      go_ret
      obtain ⟨h0, h1, hB⟩ := HE.out
      exact ⟨err', rfl, Or.inr ⟨h0, h1, hB⟩⟩
end
end Go.Proofs.Ytkbkkhfmejpbeaa
