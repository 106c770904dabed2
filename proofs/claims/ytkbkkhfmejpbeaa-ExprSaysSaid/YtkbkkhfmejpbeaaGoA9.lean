/- The program's goOn, asking a kid. -/
import Derived.Test.YtkbkkhfmejpbeaaMeetC9
namespace Go.Proofs.Ytkbkkhfmejpbeaa
open Go.RowKit

theorem muF_len : ∀ ws : List Frm, ws.length ≤ muF ws
  | [] => Nat.le_refl _
  | f :: l => by rw [muF, List.length_cons]; have := muF_len l; omega

/-- What goOn tells and leaves. -/
def GoP (B : Nat) (w0 : World) (R mb vb kb : Nat) (vo : Option Addr) (vc : Nat) (vs : List V3) (t0 : X) (sd0 : List V3) (ws : List Frm) (sd : List V3) (e : Ending) (w' : World) : Prop :=
  ∃ err : Int, e = .returned (.int .i64 err) ∧ ((err = 0 ∧ ∃ wv' sv' ws' sd' kn', WS B w0 w' R mb vb kb vo vc vs wv' sv' ws' sd' kn' ∧ Kn B w0 vs ws' kn' ∧ Going vs t0 sd0 ws' sd' ∧ muF ws' < muF ws ∧ sd'.length + muF ws' ≤ sd.length + muF ws) ∨ (err ≠ 0 ∧ evalX vs t0 = (zeroT, err) ∧ Below B w0 w'))

section
variable {B : Nat} {w0 w : World} {R mb vb kb : Nat} {vo : Option Addr} {vc : Nat} {vs : List V3} {wv sv : Value} {ws : List Frm} {sd : List V3} {kn : List (Addr × V3)}

/-- The last step on the way, where it lies. -/
theorem WS.top {f : Frm} (h : WS B w0 w R mb vb kb vo vc vs wv sv (f :: ws) sd kn) : ∃ g c, wv = .slice (some ⟨g, 0, none⟩) (ws.length + 1) c ∧ ws.length + 1 ≤ c ∧ c ≤ maxLen ∧ B ≤ g ∧ g < w.heap.size ∧ g ≠ R ∧ w.cell? ⟨g, ws.length * 2, none⟩ = some (.pointer (some f.a)) ∧ w.cell? ⟨g, ws.length * 2 + 1, none⟩ = some (.int .i64 f.n) ∧ ∀ j, w.frozen? ⟨g, j, none⟩ = false := by
  have ho := h.way
  rw [List.length_cons] at ho
  rcases ho.2 with ⟨_, h0⟩ | ⟨g, cap, cur, rfl, hb, hg, hn, hm, hs, ht⟩
  · omega
  · have hc := ho.cells (g := g) rfl
    refine ⟨g, cap, rfl, hn, hm, hb, lt_of_heap hg, tag_ne hg h.box (by decide), ?_, ?_, fun j => Lib.frozen_of_heap hg j⟩
    · have := hc (ws.length * 2) (.pointer (some f.a)) (by rw [cellsF, List.getElem?_append_right (by rw [cellsF_length]; omega), cellsF_length, Nat.sub_self]; rfl)
      rwa [Addr.add_lit, Nat.zero_add] at this
    · have := hc (ws.length * 2 + 1) (.int .i64 f.n) (by rw [cellsF, List.getElem?_append_right (by rw [cellsF_length]; omega), cellsF_length, show ws.length * 2 + 1 - ws.length * 2 = 1 by omega]; rfl)
      rwa [Addr.add_lit, Nat.zero_add] at this

theorem set_last {l : List Frm} {a : Value} {u v : Value} : (cellsF l ++ [a, u]).set (l.length * 2 + 1) v = cellsF l ++ [a, v] := by
  rw [List.set_append_right (h := by rw [cellsF_length]; omega), cellsF_length, show l.length * 2 + 1 - l.length * 2 = 1 by omega]
  rfl

set_option maxRecDepth 100000 in
set_option maxHeartbeats 4000000 in
theorem goOn_ask {a : Addr} {t : X} {n : Nat} {pre q : List V3} {t0 : X} {sd0 : List V3} (h : WS B w0 w R mb vb kb vo vc vs wv sv (⟨a, t, n⟩ :: ws) (pre ++ q) kn) (k : Kn B w0 vs (⟨a, t, n⟩ :: ws) kn) (hn : n < t.kids.length) (h3 : t.kind = 3) (he : evalL vs (t.kids.take n) = (q, 0)) (hw : Wait vs t0 sd0 t ws pre) (hh : Held t)
    (hN : (pre ++ q).length + muF (⟨a, t, n⟩ :: ws) ≤ 1000000) :
    Calls Try.prog 46 #[.pointer (some ⟨R, 0, none⟩)] w (GoP B w0 R mb vb kb vo vc vs t0 sd0 (⟨a, t, n⟩ :: ws) (pre ++ q)) := by
  obtain ⟨g, cap, rfl, hcap, hmax, hgB, hgl, hgR, p0, p1, pf⟩ := h.top
  have hAt := k.each ⟨a, t, n⟩ (List.mem_cons_self ..)
  have hat : At9 w.heap.size w a t := hAt.up h.base h.B_le
  obtain ⟨sb, o, ao, cc, kb', ko, ha, hb, c0, c1, c2, c3, c4, c5, c6, hl, hm, hao, hkid⟩ := hat.cells
  have hpos : 0 < t.kids.length := Nat.lt_of_le_of_lt (Nat.zero_le _) hn
  obtain rfl := hao hpos
  have hkat : At9 B w0 ⟨kb', ko + n * 7, none⟩ t.kids[n] := by
    have hc := hAt.cells
    obtain ⟨sb2, o2, ao2, cc2, kb2, ko2, ha2, hb2, d0, d1, d2, d3, d4, d5, d6, hl2, hm2, hao2, hkid2⟩ := hc
    rw [ha] at ha2
    simp only [Addr.mk.injEq, and_true] at ha2
    obtain ⟨rfl, rfl⟩ := ha2
    have e6 := (h.base.cell (p := ⟨sb, o + 6, none⟩) hb2).trans d6
    rw [c6] at e6
    obtain rfl := hao2 hpos
    simp only [Option.some.injEq, Value.slice.injEq, Addr.mk.injEq, true_and, and_true] at e6
    obtain ⟨⟨rfl, rfl⟩, rfl⟩ := e6
    exact hkid2 n hn
  have hget : t.kids[n]? = some t.kids[n] := List.getElem?_eq_getElem hn
  have hlt : SizeOf.sizeOf t.kids[n] < SizeOf.sizeOf t := X.lt_kids (List.getElem_mem hn)
  have hway : ∀ f, f ∈ (⟨a, t, n + 1⟩ : Frm) :: ws → f.t ≠ t.kids[n] := fun f hf e => by
    rcases List.mem_cons.1 hf with rfl | hf
    · have : SizeOf.sizeOf t.kids[n] < SizeOf.sizeOf t.kids[n] := by
        conv => rhs; rw [← e]
        exact hlt
      omega
    · have := hw.size f hf
      rw [e] at this
      omega
  have hheld := hh.kid (List.getElem_mem hn)
  have hmu : muF (⟨a, t, n⟩ :: ws) = 1 + (1 + (t.kids[n]).wt + wtL (t.kids.drop (n + 1))) + muF ws := by
    rw [muF, wtL_drop hget]
  have hws := muF_len (⟨a, t, n⟩ :: ws)
  have HM : Hid (∀ W, WS B w0 W R mb vb kb vo vc vs (.slice (some ⟨g, 0, none⟩) (ws.length + 1) cap) sv (⟨a, t, n + 1⟩ :: ws) (pre ++ q) kn → Calls Try.prog 45 #[.pointer (some ⟨R, 0, none⟩), .pointer (some ⟨kb', ko + n * 7, none⟩)] W (MeetP B w0 R mb vb kb vo vc vs (⟨a, t, n + 1⟩ :: ws) (pre ++ q) kn ⟨kb', ko + n * 7, none⟩ t.kids[n])) := fun W hW =>
    meet_any hW k.turn _ _ hkat hheld (by omega) (by rw [List.length_cons] at hws ⊢; omega) hway
  have HW : Hid (∀ m, WS B w0 ((w.drewN m).setCell ⟨g, ws.length * 2 + 1, none⟩ (.int .i64 ((n : Int) + 1))) R mb vb kb vo vc vs (.slice (some ⟨g, 0, none⟩) (ws.length + 1) cap) sv (⟨a, t, n + 1⟩ :: ws) (pre ++ q) kn) := fun m => by
    have h1 := h.up (RowKit_drewN (Below.refl _ w) m)
    refine h1.turnWay (ws' := ⟨a, t, n + 1⟩ :: ws) (Lib.grownBy_setCell _ g _ _) ?_
    have h2 := World.ownsRow.stored h1.way (ws.length * 2 + 1) (.int .i64 (n + 1 : Nat))
    rw [cellsF, set_last] at h2
    exact h2.1
  have b1 := Lib.cell_of_heap h.box 1
  have hRl := lt_of_heap h.box
  have hcl1 : (ws.length : Int) + 1 ≤ cap := by omega
  have hcl2 : (cap : Int) ≤ 9223372036854775807 := by unfold maxLen at hmax; omega
  have hnl : (n : Int) < (t.kids.length : Int) := by omega
  have hkl : (t.kids.length : Int) ≤ 9223372036854775807 := by unfold maxLen at hm; omega
  have hwn : IntKind.i64.wrap (n : Int) = n := IntWalk.i64_in _ (by omega)
  have HA := Lib.hid (And.intro ha (And.intro hget (And.intro h3 (And.intro he hw))))
  have HK := Lib.hid k
  have HKA := Lib.hid hkat
  have HMu := Lib.hid hmu
  have HN := Lib.hid hN
  have HEv := Lib.hid (eval_what vs h.vrow.fine _ hheld)
  have hRg : R ≠ g := hgR.symm
  subst ha
  have hsbg : sb < B := hAt.lt.1
  have hsg : sb ≠ g := by omega
  have hBb := hN
  clear h hAt hat hkat hget hlt hway hheld hmu hws k h3 he hw hh hN hBb hkid c0 c1 c2 c3 c4 c5 hmax
  go_enter Try.func46, Try.ntmps46
  go_wp2_with fail
  go_quiet (fail)
  go_wp2_with fail
  go_quiet (fail)
  go_wp2_with fail
  go_region_with (go_at_call 45; go_must (refine (HM.out _ ((HW.out _).up (RowKit_drewN (Below.refl _ _) 1))).mono ?_; rintro e w1 ⟨err, rfl, hx⟩; have HX := Lib.hid hx; clear hx))
  all_goals go_wp2_with fail
  all_goals
    go_ret
    obtain ⟨-, hget, h3, he, hw⟩ := HA.out
    have hstep := Wait.step (sd0 := sd0) (vs := vs) (t0 := t0) ⟨sb, o, none⟩ t t.kids[n] n ws pre q hget h3 he hw
    have hmu := HMu.out
    have hN := HN.out
    refine ⟨err, rfl, ?_⟩
    rcases HX.out with ⟨h0, h1, wv', sv', hW⟩ | ⟨h0, hk3, hno, wv', sv', hW⟩ | ⟨h0, h1, hW⟩
    · refine Or.inl ⟨h0, wv', sv', _, _, kn, hW, HK.out.turn, hstep.said (Prod.ext rfl h1), ?_, ?_⟩
      · rw [hmu, muF]
        simp only
        omega
      · rw [hmu, muF, List.length_append, List.length_singleton]
        simp only
        omega
    · refine Or.inl ⟨h0, wv', sv', _, _, _, hW, (HK.out.turn).push HKA.out hno, hstep.push hk3 _, ?_, ?_⟩
      · rw [hmu, muF, muF, X.wt_eq]
        simp only [List.drop_zero]
        omega
      · rw [hmu, muF, muF, X.wt_eq]
        simp only [List.drop_zero]
        omega
    · refine Or.inr ⟨h0, ?_, hW⟩
      rw [h1] at h0 ⊢
      refine hstep.err h0 ?_
      rcases HEv.out with ⟨h2, _⟩ | ⟨_, h2⟩
      · exact absurd h2 h0
      · exact Prod.ext h2 rfl
end
end Go.Proofs.Ytkbkkhfmejpbeaa
