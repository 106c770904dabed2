/- The program's goOn, behind the last kid; goOn whole. -/
import Derived.Test.YtkbkkhfmejpbeaaGoA9
namespace Go.Proofs.Ytkbkkhfmejpbeaa
open Go.RowKit

section
variable {B : Nat} {w0 w : World} {R mb vb kb : Nat} {vo : Option Addr} {vc : Nat} {vs : List V3} {wv sv : Value} {ws : List Frm} {sd : List V3} {kn : List (Addr × V3)}

/-- say of an operation whose kids were asked. -/
theorem say_op {q : List V3} (h : WS B w0 w R mb vb kb vo vc vs wv sv ws (sd ++ q) kn) (a : Addr) (t : X) (ha : At9 B w0 a t) (hk : t.kind = 3) (hh : Fine q) (hs : (sd ++ q).length ≤ 1000000) :
    Calls Try.prog 62 #[.pointer (some ⟨R, 0, none⟩), .pointer (some a), .int .i64 (q.length : Nat)] w (SayP B w0 R mb vb kb vo vc vs wv ws kn (doV t.op q) sd) := by
  rcases h.said.2 with ⟨rfl, hz⟩ | ⟨g, cap, cur, rfl, _⟩
  · have h0 := List.eq_nil_of_length_eq_zero hz
    obtain ⟨rfl, rfl⟩ := List.append_eq_nil_iff.1 h0
    exact say3_nil h a t ha hk
  · exact say3_row h a t ha hh hk hs

set_option maxRecDepth 100000 in
set_option maxHeartbeats 4000000 in
theorem goOn_pop {a : Addr} {t : X} {pre q : List V3} {t0 : X} {sd0 : List V3} (h : WS B w0 w R mb vb kb vo vc vs wv sv (⟨a, t, t.kids.length⟩ :: ws) (pre ++ q) kn) (k : Kn B w0 vs (⟨a, t, t.kids.length⟩ :: ws) kn) (h3 : t.kind = 3) (he : evalL vs t.kids = (q, 0)) (hw : Wait vs t0 sd0 t ws pre) (hh : Held t)
    (hN : (pre ++ q).length + muF (⟨a, t, t.kids.length⟩ :: ws) ≤ 1000000) :
    Calls Try.prog 46 #[.pointer (some ⟨R, 0, none⟩)] w (GoP B w0 R mb vb kb vo vc vs t0 sd0 (⟨a, t, t.kids.length⟩ :: ws) (pre ++ q)) := by
  obtain ⟨g, cap, rfl, hcap, hmax, hgB, hgl, hgR, p0, p1, pf⟩ := h.top
  have hAt := k.each ⟨a, t, t.kids.length⟩ (List.mem_cons_self ..)
  have hat : At9 w.heap.size w a t := hAt.up h.base h.B_le
  have hga := goodX hAt h.base
  have hql := evalL_length vs t.kids q he
  have hqf := evalL_fine vs h.vrow.fine t.kids q (fun k hk => hh.kid hk) he
  have hev : evalX vs t = doV t.op q := by
    rw [evalX_eq, if_neg (by rw [h3]; decide), if_neg (by rw [h3]; decide), if_pos h3, he, if_pos rfl]
  have hwhat := eval_what vs h.vrow.fine t hh
  rw [hev] at hwhat
  have HSay : Hid (∀ W, Below w.heap.size w W → Calls Try.prog 62 #[.pointer (some ⟨R, 0, none⟩), .pointer (some a), .int .i64 (t.kids.length : Nat)] W (SayP B w0 R mb vb kb vo vc vs (.slice (some ⟨g, 0, none⟩) (ws.length + 1) cap) (⟨a, t, t.kids.length⟩ :: ws) kn (doV t.op q) pre)) := fun W hW => by
    have := say_op (h.up hW) a t hAt h3 hqf (by omega)
    rwa [hql] at this
  obtain ⟨sb, o, ao, cc, kb', ko, ha, hb, c0, c1, c2, c3, c4, c5, c6, hl, hm, -⟩ := hat.cells
  have b1 := Lib.cell_of_heap h.box 1
  have hRl := lt_of_heap h.box
  have hcl1 : (ws.length : Int) + 1 ≤ cap := by omega
  have hcl2 : (cap : Int) ≤ 9223372036854775807 := by unfold maxLen at hmax; omega
  have hkl : (t.kids.length : Int) ≤ 9223372036854775807 := by unfold maxLen at hm; omega
  have HA := Lib.hid (And.intro hAt (And.intro h3 (And.intro hw (And.intro hev hwhat))))
  have HK := Lib.hid k
  have HH := Lib.hid h
  have HN := Lib.hid hN
  have hRg : R ≠ g := hgR.symm
  have hsbg : sb < B := by
    have := hAt.lt.1
    rw [ha] at this
    exact this
  have hsg : sb ≠ g := by omega
  have hBl := h.B_le
  subst ha
  unfold SayP at HSay
  clear h hAt hat hga hql hqf hev hwhat k h3 he hw hh hN c0 c1 c2 c3 c4 c5 hm
  generalize doV t.op q = r at HSay HA
  generalize hn : t.kids.length = n at *
  go_enter Try.func46, Try.ntmps46
  go_wp2_with fail
  go_quiet (fail)
  go_wp2_with fail
  go_quiet (fail)
  go_wp2_with (go_at_call 62; go_must (refine (HSay.out _ (RowKit_drewN (Below.refl _ w) _)).mono ?_; rintro e w1 ⟨rfl, hx⟩; have HX := Lib.hid hx; clear hx))
  obtain ⟨sv', sd', H1, hsd⟩ := HX.out
  obtain ⟨⟨r1, r2, r3⟩, r4⟩ := r
  have hzk := HK.out.onway ⟨⟨sb, o, none⟩, t, n⟩ (List.mem_cons_self ..)
  have H2 : WS B w0 ((w1.alloc (.cells #[.int .u8 r1, .int .i64 r2, .string r3] 25)).drew) R mb vb kb vo vc vs (.slice (some ⟨g, 0, none⟩) (ws.length + 1) cap) sv' (⟨⟨sb, o, none⟩, t, n⟩ :: ws) sd' kn := (H1.up (below_own _)).up (RowKit_drewN (Below.refl _ _) 1)
  obtain ⟨w6, l', hrun6, -, hgr6, hm6, -, -, hset6⟩ := update_any kPtr ⟨sb, o, none⟩ (aggV (r1, r2, r3)) 57 25 Try.underlying57 _ kb _ H2.known (goodX HA.out.1 H2.base) (HK.out.good H2.base)
  obtain ⟨i, hi, rfl⟩ := hset6 trivial (⟨sb, o, none⟩, aggV zeroT) (List.mem_map.2 ⟨_, hzk, rfl⟩) rfl
  have hi' : (kn[i]?).map Prod.fst = some ⟨sb, o, none⟩ := by
    rw [List.getElem?_map] at hi
    rw [← hi, Option.map_map]
    rfl
  have H6 := Lib.hid (H2.setKnown hgr6 (kn' := kn.set i (⟨sb, o, none⟩, (r1, r2, r3))) (by rw [List.map_set]; exact hm6))
  have hupd : (Instr.mapUpdate 57 (.map (some kb)) (.pointer (some ⟨sb, o, none⟩)) (.agg #[.int .u8 r1, .int .i64 r2, .string r3])).run Try.prog ((w1.alloc (.cells #[.int .u8 r1, .int .i64 r2, .string r3] 25)).drew) = .ok () w6 := hrun6
  have e3 := Lib.cell_of_heap H1.box 3
  have hRl1 := lt_of_heap H1.box
  have hR1 : R ≠ w1.heap.size := by omega
  have f1 := Lib.cell_of_heap H6.out.box 1
  have ff := fun j => Lib.frozen_of_heap H6.out.box j
  have HI := Lib.hid hi'
  have HSd := Lib.hid hsd
  clear hzk H2 hrun6 hgr6 hm6 hset6 hi hi' hsd H1 HX HSay b1 p0 p1 pf c6 HH
  go_region
  all_goals go_wp2_with fail
  all_goals go_region
  all_goals go_wp2_with fail
  all_goals
    go_ret
    obtain ⟨hAt, h3, hw, hev, hwhat⟩ := HA.out
    have hne : ∀ f, f ∈ ws → f.a ≠ ⟨sb, o, none⟩ := fun f hf e => by
      have h1 := HK.out.each f (List.mem_cons_of_mem _ hf)
      rw [e] at h1
      have h2 := hw.size f hf
      rw [h1.one hAt] at h2
      omega
    have hcut : (w6.setCell ⟨R, 1, none⟩ (.slice (some ⟨g, 0, none⟩) ws.length cap)).heap.size = w6.heap.size := by simp
    have ho := owns_cut (m := ws.length) (xs := cellsF ws) (ys := [.pointer (some ⟨sb, o, none⟩), .int .i64 (n : Nat)]) H6.out.way (cellsF_length ws) (Nat.le_succ _)
    have H8 := (H6.out.setWay (w' := w6) (ws' := ws) (World.grownBy.refl _ _) ho).up (RowKit_drewN (Below.refl _ _) 1)
    refine ⟨r4, rfl, ?_⟩
    rcases hwhat with ⟨h0, h1, _⟩ | ⟨h0, h1⟩
    · have hv : evalX vs t = ((r1, r2, r3), 0) := by rw [hev]; exact Prod.ext rfl h0
      have hsd := HSd.out h0
      refine Or.inl ⟨h0, _, _, ws, sd', _, H8, HK.out.pop hv h1 hne HI.out, ?_, ?_, ?_⟩
      · rw [hsd]
        exact hw.said hv
      · rw [muF]
        omega
      · have := HN.out
        rw [muF, hsd, List.length_append, List.length_append, List.length_singleton]
        simp only
        omega
    · exact Or.inr ⟨h0, hw.err (by rw [hev]; exact h0) (by rw [hev]; exact Prod.ext h1 rfl) |>.trans (by rw [hev]), H8.base⟩

/-- A step of the walk. -/
theorem goOn_any {t0 : X} {sd0 : List V3} (h : WS B w0 w R mb vb kb vo vc vs wv sv ws sd kn) (k : Kn B w0 vs ws kn) (hg : Going vs t0 sd0 ws sd) (hne : ws ≠ []) (hh : ∀ f, f ∈ ws → Held f.t) (hN : sd.length + muF ws ≤ 1000000) :
    Calls Try.prog 46 #[.pointer (some ⟨R, 0, none⟩)] w (GoP B w0 R mb vb kb vo vc vs t0 sd0 ws sd) := by
  cases hg with
  | out v hv => exact absurd rfl hne
  | on a t n rest pre q hn h3 he hw =>
    have hht := hh ⟨a, t, n⟩ (List.mem_cons_self ..)
    by_cases hlt : n < t.kids.length
    · exact goOn_ask h k hlt h3 he hw hht hN
    · obtain rfl : n = t.kids.length := by omega
      rw [List.take_length] at he
      exact goOn_pop h k h3 he hw hht hN
end
end Go.Proofs.Ytkbkkhfmejpbeaa
