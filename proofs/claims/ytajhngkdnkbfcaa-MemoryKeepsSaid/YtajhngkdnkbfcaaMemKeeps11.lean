/- MemoryKeeps: what was added is there, as it was, till it is dropped. -/
import Derived.Test.YtajhngkdnkbfcaaPlainK11
namespace Go.Proofs.Ytajhngkdnkbfcaa
open Go.RowKit

/-- What holds ahead of each step: the memory's facts are those that the law keeps beside it. -/
structure Ks (w : World) (mb rb : Nat) (ls : List F11) (nx last : Int) (tq : Option Addr) (tc k : Nat) (W : World) : Prop where
  aw : Aw w mb rb ls nx W
  row : RowF w.heap.size W ls (.slice tq ls.length tc)
  gd : Gd ls
  last : last < nx
  few : ls.length ≤ k
  nxt : nx ≤ k + 1
theorem Ks.old {w W W' : World} {mb rb : Nat} {ls : List F11} {nx last : Int} {tq : Option Addr} {tc k : Nat} (h : Ks w mb rb ls nx last tq tc k W) (b : Below W.heap.size W W') : Ks w mb rb ls nx last tq tc k W' := ⟨h.aw.old b, h.row.old b, h.gd, h.last, h.few, h.nxt⟩
theorem Ks.below {w W : World} {mb rb : Nat} {ls : List F11} {nx last : Int} {tq : Option Addr} {tc k : Nat} (h : Ks w mb rb ls nx last tq tc k W) : Below w.heap.size w W := h.aw.below
theorem rowF_at0 {base : Nat} {W : World} {ls : List F11} {tq : Option Addr} {tc : Nat} (h : RowF base W ls (.slice tq ls.length tc)) {j : Nat} (hj : j < ls.length) : ∃ g a d, tq = some ⟨g, 0, none⟩ ∧ g < W.heap.size ∧ W.cell? ⟨g, j * 3, none⟩ = some (.int .i64 (ls.getD j default).id) ∧ W.cell? ⟨g, j * 3 + 1, none⟩ = some (.int .i64 (ls.getD j default).kind) ∧ W.cell? ⟨g, j * 3 + 2, none⟩ = some (.slice a (ls.getD j default).args.length d) ∧ Sl10 W.heap.size W (ls.getD j default).args.length a d (cellsV (ls.getD j default).args) := by
  have htq : ∃ g, tq = some ⟨g, 0, none⟩ := by
    obtain ⟨ps, h1, h2, h3⟩ := h
    obtain ⟨g, cap, cur, e, -⟩ := owns_at h2 (by omega)
    cases e
    exact ⟨g, rfl⟩
  obtain ⟨g, rfl⟩ := htq
  obtain ⟨g', o, a, d, e, lt, x1, x2, x3, s1⟩ := h.frow.get hj
  cases e
  rw [Nat.zero_add] at x1 x2 x3
  exact ⟨g, a, d, rfl, lt, x1, x2, x3, s1⟩
/-- The j-th fact of it. -/
theorem Ks.get {w W : World} {mb rb : Nat} {ls : List F11} {nx last : Int} {tq : Option Addr} {tc k : Nat} (h : Ks w mb rb ls nx last tq tc k W) {j : Nat} (hj : j < ls.length) : ∃ g a d, tq = some ⟨g, 0, none⟩ ∧ g < W.heap.size ∧ W.cell? ⟨g, j * 3, none⟩ = some (.int .i64 (ls.getD j default).id) ∧ W.cell? ⟨g, j * 3 + 1, none⟩ = some (.int .i64 (ls.getD j default).kind) ∧ W.cell? ⟨g, j * 3 + 2, none⟩ = some (.slice a (ls.getD j default).args.length d) ∧ Sl10 W.heap.size W (ls.getD j default).args.length a d (cellsV (ls.getD j default).args) := rowF_at0 h.row hj
set_option maxRecDepth 100000 in
set_option maxHeartbeats 4000000 in
theorem memoryKeeps_any (l : List D11) (lo : Option Addr) (lc : Nat) (w : World) (hl : DRow w.heap.size w l lo lc) :
    Calls Try.prog 4 #[.slice lo l.length lc] w (YesP w) := by
  have HL := Lib.hid hl
  have hl9 := hl.fine
  clear hl
  have mixed : Try.prog.follows .mixedOrders = true := by kernel_rfl
  obtain ⟨i0, hi, hz0, hz1, hz2⟩ := info_parts infoA
  unfold YesP
  go_enter Try.func4, Try.ntmps4
  go_upto_region 7 with (first
    | (go_at_call 6; refine (awake_any _).mono ?_; rintro e w1 ⟨rfl, hb⟩; have HB1 := Lib.hid hb; clear hb)
    | (go_at_call 16; refine (new_aw _).mono ?_; rintro e w2 ⟨mb, rb, rfl, ha⟩; have HA := Lib.hid (Aw.low HB1.out ha); clear ha))
  clear HB1
  have HK0 : Hid (Ks w mb rb [] 1 0 none 0 0 w2) := ⟨HA.out, RowF.none _ _, Gd.nil, by decide, Nat.le_refl _, by decide⟩
  clear HA
  go_loopw [4, 5, 6] (fun s4 s5 i wr => ∃ (k : Nat) (ls : List F11) (nx last : Int) (tq : Option Addr) (tc : Nat), k ≤ l.length ∧ k ≤ 120 ∧ i = .int .i64 k ∧ s5 = .int .i64 last ∧ s4 = .slice tq ls.length tc ∧ Hid (Ks w mb rb ls nx last tq tc k wr)) (fun _ _ i _ => l.length - (intOf i).toNat)
  case atStart => exact ⟨0, [], 1, 0, none, 0, Nat.zero_le _, by decide, rfl, rfl, rfl, HK0⟩
  case round =>
    obtain ⟨k, ls, nx, last, tq, tc, hk, hk1, rfl, rfl, rfl, HK⟩ := hrel
    clear HK0
    by_cases hlt : k < l.length ∧ k < 120
    · obtain ⟨hlt, h120⟩ := hlt
      obtain ⟨g, o, p, d, rfl, lg, X1, X2, X3, X4, s1, hx⟩ := HL.out.get hlt
      have x1 := (HK.out.below.cell (p := ⟨g, o + k * 4, none⟩) lg).trans X1
      have x2 := (HK.out.below.cell (p := ⟨g, o + k * 4 + 1, none⟩) lg).trans X2
      have x3 := (HK.out.below.cell (p := ⟨g, o + k * 4 + 2, none⟩) lg).trans X3
      have x4 := (HK.out.below.cell (p := ⟨g, o + k * 4 + 3, none⟩) lg).trans X4
      clear X1 X2 X3 X4
      have hkn : (k : Int) < (l.length : Int) := by omega
      have hk120 : (k : Int) < 120 := by omega
      obtain ⟨x, hxe⟩ : ∃ x, x = l.getD k default := ⟨_, rfl⟩
      rw [← hxe] at x1 x2 x3 x4 s1 hx
      clear hxe
      obtain ⟨xop, xid, xki, xvs⟩ := x
      simp only at x1 x2 x3 x4 s1 hx
      have HXs := Lib.hid s1
      have HXx := Lib.hid hx
      clear s1 hx
      obtain ⟨an, han⟩ : ∃ an, an = xvs.length := ⟨_, rfl⟩
      rw [← han] at x4
      have HAn := Lib.hid han
      clear han
      obtain ⟨ln, hln⟩ : ∃ ln, ln = l.length := ⟨_, rfl⟩
      rw [← hln] at hl9 hkn hlt hk ⊢
      clear hln HL
      obtain ⟨tn, htn⟩ : ∃ tn, tn = ls.length := ⟨_, rfl⟩
      rw [← htn]
      have HTn := Lib.hid htn
      have htn9 : tn ≤ 120 := by have := HK.out.few; omega
      clear htn
      have hbn := below_own (w := wr) (.cells ([.int .i64 xop, .int .i64 xid, .int .i64 xki, .slice p an d] : List Value).toArray 51)
      have hbx := Box.new wr 51 [.int .i64 xop, .int .i64 xid, .int .i64 xki, .slice p an d]
      have H1 := Lib.hid hbn
      have H2 := Lib.hid hbx
      clear hbn hbx
      go_upto_region 10 with fail
      generalize hW3 : World.alloc _ _ = W3
      have HB3 : Hid (Below wr.heap.size wr W3) := by rw [← hW3]; exact H1.out
      have HX3 : Hid (Box W3 wr.heap.size 51 [.int .i64 xop, .int .i64 xid, .int .i64 xki, .slice p an d]) := by rw [← hW3]; exact H2.out
      clear hW3 H1 H2 x1 x2 x3 x4
      have HK3 := Lib.hid (HK.out.old HB3.out)
      clear HK HB3
      generalize wr.heap.size = xb at *
      have x1 := HX3.out.cell 0
      have x2 := HX3.out.cell 1
      have x3 := HX3.out.cell 2
      have x4 := HX3.out.cell 3
      simp only [List.getElem?_cons_zero, List.getElem?_cons_succ] at x1 x2 x3 x4
      by_cases h20 : 20 < an
      · have h20' : (20 : Int) < (an : Int) := by omega
        have HBe := Lib.hid HK3.out.below
        clear HK3 HX3 HXs HXx h20
        go_wp2_with fail
        go_ret
        exact ⟨rfl, HBe.out⟩
      · have h20' : ¬ (20 : Int) < (an : Int) := by omega
        have HPk := Lib.hid (pick_any xop 3 (by decide) W3)
        obtain ⟨pk, hpk⟩ : ∃ pk, pk = pickI xop 3 := ⟨_, rfl⟩
        rw [← hpk] at HPk
        clear hpk
        by_cases hd : pk = 2 ∧ 0 < tn
        · as_aux_lemma =>
          obtain ⟨rfl, htn0⟩ := hd
          have htn0' : (0 : Int) < (tn : Int) := by omega
          have HPi := Lib.hid (pick_any xid tn (by omega) W3)
          obtain ⟨pb1, pb2⟩ := pick_bounds xid tn htn0'
          obtain ⟨kk, hkk⟩ : ∃ kk : Nat, pickI xid tn = kk := ⟨(pickI xid tn).toNat, by omega⟩
          rw [hkk] at HPi pb1 pb2
          clear hkk
          have hkt : kk < tn := by omega
          obtain ⟨tg, ta, td, rfl, ltg, y1, y2, y3, sy⟩ := HK3.out.get (by rw [← HTn.out]; exact hkt)
          have HDr := Lib.hid (HK3.out.aw.dropK (ls.getD kk default).id)
          rw [drop_at HK3.out.aw.info.1 (by rw [← HTn.out]; exact hkt)] at HDr
          simp only at HDr
          generalize (ls.getD kk default).id = fid at *
          clear y2 y3 sy
          go_upto_region 16 with (first
            | (go_at_call 17; first | (refine (HPk.out).mono ?_; rintro e w4 ⟨rfl, rfl⟩; clear HPk) | (refine (HPi.out).mono ?_; rintro e w4 ⟨rfl, rfl⟩; clear HPi))
            | (go_at_call 11; refine (HDr.out).mono ?_; rintro e w5 ⟨rfl, ha, hkp⟩; have HA5 := Lib.hid ha; have HR5 := Lib.hid (HK3.out.row.kp hkp); clear ha hkp))
          have HFw : Hid (∀ f ∈ ls, f.args.length ≤ 100000) := fun f hf => Nat.le_trans (HK3.out.aw.info.2.2.2.1 f hf) (by decide)
          have HKo := HK3
          clear HXs HXx HX3 HK3 HDr x1 x2 x3 x4 y1
          obtain ⟨ps, r1, r2, r3⟩ := HR5.out
          have hpl : ps.length = ls.length := by rw [← r1]; simp
          obtain ⟨g9, cap9, cur9, e9, -, -, hc1, hc2, hcl⟩ := owns_at r2 (by rw [← HTn.out]; exact htn0)
          cases e9
          rw [← HTn.out] at hc1 hcl
          unfold maxLen at hc2
          have r2' := r2
          rw [← HTn.out] at r2'
          have hDl : (cells3 (ps.drop (kk + 1))).length = (tn - (kk + 1)) * 3 := by rw [cells3_length, List.length_drop, hpl, ← HTn.out]
          have HDl := Lib.hid hDl
          have HDo : Hid (∀ u ∈ cells3 (ps.drop (kk + 1)), u.oneCell' = true) := cells3_one fun p hp => by obtain ⟨x, y, h1, -⟩ := r3 p (List.mem_of_mem_drop hp); exact ⟨x, _, y, h1⟩
          have HD : Hid (∀ W, Below w5.heap.size w5 W → ∀ ad : Addr, (ad = ⟨tg, 0, none⟩ ∧ tc = kk + 1 ∨ ad = ⟨tg, (kk + 1) * 3, none⟩) → ∀ j u, (cells3 (ps.drop (kk + 1)))[j]? = some u → W.cell? (ad.add j) = some u) := fun W hb ad had j u hu => by
            rcases had with ⟨rfl, htc⟩ | rfl
            · have hj := (List.getElem?_eq_some_iff.1 hu).1
              rw [hDl] at hj
              omega
            · rw [Addr.add_lit]
              have hj := (List.getElem?_eq_some_iff.1 hu).1
              rw [hDl] at hj
              refine (hb.cell (p := ⟨tg, (kk + 1) * 3 + j, none⟩) (World.ownsRow.lt r2 tg rfl).2).trans ((hcl _ (by omega)).trans ?_)
              rw [← cells3_drop, List.getElem?_drop] at hu
              exact hu
          have HPs := Lib.hid (And.intro r1 (And.intro r3 hpl))
          have HLk : Hid ((ls.take kk).length = kk) := by show _ = _; rw [List.length_take, ← HTn.out]; omega
          have HCp : Hid (∀ W, Below w5.heap.size w5 W → Calls Try.prog 18 #[.slice (some ⟨tg, 0, none⟩) kk tc] W fun e w' => ∃ a c, e = .returned (.slice a kk c) ∧ RowF W.heap.size w' (ls.take kk) (.slice a kk c) ∧ Below W.heap.size W w') := fun W hb => by
            have hk9 : kk ≤ ls.length := by rw [← HTn.out]; omega
            have h1 := RowF.take (HR5.out.old hb).frow kk hk9
            have hlk : (ls.take kk).length = kk := by rw [List.length_take]; omega
            have h2 := copyFacts_any (ls.take kk) _ _ W h1 (by rw [hlk]; omega) (fun f hf => HFw.out f (List.mem_of_mem_take hf))
            unfold AllP at h2
            rwa [hlk] at h2
          clear hcl r1 r2 r2' r3 hpl hDl
          have b1 : (0 : Int) ≤ (kk : Int) := by omega
          have b2 : (kk : Int) ≤ (tc : Int) := by omega
          have b3 : (kk : Int) ≤ (tn : Int) := by omega
          have b4 : (kk : Int) + 1 ≤ (tn : Int) := by omega
          have b5 : (tn : Int) ≤ (tc : Int) := by omega
          have b6 : (0 : Int) ≤ (kk : Int) + 1 := by omega
          have b7 : (kk : Int) + 1 ≤ (tc : Int) := by omega
          have bw : IntKind.i64.wrap ((kk : Int) + 1) = (kk : Int) + 1 := (IntWalk.i64_left _).trans (by unfold wrap64; omega)
          have HBw5 := Lib.hid HA5.out.below
          have HTc : Hid (kk + 1 = tc ∨ ¬ tc = kk + 1) := by show _ ∨ _; omega
          rcases HTc.out with htc | htc
          all_goals
            as_aux_lemma =>
            go_region_held3 (fun _ => True) (exact trivial)
              ((first
                | (go_at_call 18; refine (HCp.out _ (below_drew (Below.refl _ _))).mono ?_; rintro e w6 ⟨a6, c6, rfl, ⟨ps6, hr1, hr2, hr3⟩, hb⟩; have HR6 := Lib.hid (And.intro hr1 (And.intro hr2 hr3)); have HB6 := Lib.hid (show Below w5.heap.size w5 w6 from (below_drew (Below.refl _ _)).trans (hb.mono (Nat.le_refl _))); clear hr1 hr2 hr3 hb)
                | (have hown6 : w6.ownsRow w.heap.size 37 3 (.slice a6 kk c6) kk (cells3 ps6) := (by have := owns_mono HR6.out.2.1 HBw5.out.size; rwa [HLk.out] at this); have HO6 := Lib.hid hown6; refine step_append_any rfl (.tmp 65) (.tmp 69) 44 rfl w.heap.size 37 i0 (.agg #[.int .i64 0, .int .i64 0, .slice none 0 0]) 3 40 Try.underlying44 hi hz0 hz1 hz2 rfl (by decide) (.slice a6 kk c6) kk (cells3 ps6) rfl hown6 _ _ _ (cells3 (ps.drop (kk + 1))) rfl (by have := HDl.out; omega) (fun h => by cases h) (fun ad h j u hu => HD.out _ HB6.out ad (by cases h; first | exact Or.inl ⟨rfl, htc.symm⟩ | exact Or.inr rfl) j u hu) HDo.out (by unfold maxLen; omega) (by omega) (Nat.le_trans HBw5.out.size HB6.out.size) ?_; intro v' w7 hown' hgrow'; obtain ⟨a7, c7, rfl⟩ := owns_slice hown'; have HO7 := Lib.hid hown'; have HG7 := Lib.hid hgrow'; clear hown' hgrow' hown6)))
            clear b1 b2 b3 b4 b5 b6 b7 bw HCp HD HDo HDl
            obtain ⟨r1, r3, hpl⟩ := HPs.out
            obtain ⟨hr1, hr2, hr3⟩ := HR6.out
            have hp6 : ps6.length = kk := by have := congrArg List.length hr1; rw [List.length_map, HLk.out] at this; exact this
            have hB56 := HB6.out
            have hn1 : tn - 1 = ps6.length + (ps.drop (kk + 1)).length := by rw [hp6, List.length_drop, hpl, ← HTn.out]; omega
            have ho7 : w7.ownsRow w.heap.size 37 3 (.slice a7 (tn - 1) c7) (tn - 1) (cells3 ps6 ++ cells3 (ps.drop (kk + 1))) := by
              have h9 := HO7.out
              first
                | (have e : kk + (tn - (kk + 1)) = tn - 1 := (by omega); rw [e] at h9; exact h9)
                | (have e : kk + 0 = tn - 1 := (by omega); rw [e] at h9; exact h9)
            have hrf := RowF.join (base := w.heap.size) (by rw [hp6]; exact HO6.out) (fun p hp => (by obtain ⟨x, y, e1, e2⟩ := hr3 p hp; exact ⟨x, y, e1, owns_mono e2 HBw5.out.size⟩)) (fun p hp => (r3 p (List.mem_of_mem_drop hp)).old hB56) hn1 ho7 HG7.out
            rw [hr1, List.map_drop, r1] at hrf
            have hlen : (ls.take kk ++ ls.drop (kk + 1)).length = tn - 1 := by rw [List.length_append, List.length_take, List.length_drop, ← HTn.out]; omega
            rw [← hlen] at hrf
            have haw := (HA5.out.old hB56).grown HG7.out (fun q hq => ⟨(World.ownsRow.lt HO6.out q hq).1, owns_tag HO6.out q hq⟩)
            have HK7 : Hid (Ks w mb rb (ls.take kk ++ ls.drop (kk + 1)) nx last a7 c7 (k + 1) w7) := ⟨haw, hrf, HKo.out.gd.less kk, HKo.out.last, by rw [hlen]; have := HKo.out.few; rw [← HTn.out] at this; omega, by have := HKo.out.nxt; omega⟩
            clear r1 r3 hpl hr1 hr2 hr3 hp6 hB56 hn1 ho7 hrf haw HPs HR6 HO6 HO7 HG7 HA5 HR5 HKo HFw
            go_wp2_with fail
            go_roundw
            case rel => exact ⟨k + 1, ls.take kk ++ ls.drop (kk + 1), nx, last, a7, c7, by omega, by omega, by go_num, rfl, by rw [hlen]; congr 1; omega, HK7⟩
            case measure => simp [intOf]; omega
        · have hex : (pk == 2) = false ∨ (pk = 2 ∧ tn = 0) := by
            by_cases h : pk = 2
            · exact Or.inr ⟨h, by omega⟩
            · exact Or.inl (beq_eq_false_iff_ne.2 h)
          clear hd
          have HPt := Lib.hid (pick_any xki 3 (by decide) W3)
          obtain ⟨kd, hkd⟩ : ∃ kd, kd = pickI xki 3 := ⟨_, rfl⟩
          rw [← hkd] at HPt
          clear hkd
          have HXw := Lib.hid (fun W (b : Below w.heap.size w W) => HXs.out.up b b.size)
          have HAdd := Lib.hid (HK3.out.aw.addK kd xvs p d (HXw.out _ HK3.out.below) HXx.out (by rw [← HAn.out]; omega))
          have hcs := add_cases HK3.out.gd kd xvs (by rw [← HTn.out]; omega) (nx := nx) (by have := HK3.out.nxt; omega)
          obtain ⟨ai, er, her⟩ := add_tells ls nx kd xvs
          obtain ⟨m, hm⟩ : ∃ m, m = addM ls nx kd xvs := ⟨_, rfl⟩
          rw [← hm] at HAdd her hcs
          rw [her] at HAdd
          have HCs : Hid ((ai = nx ∧ er = 0 ∧ m.facts = ls ++ [⟨nx, kd, xvs⟩] ∧ m.next = nx + 1 ∧ atN ls kd xvs tn = -1) ∨ (∃ j, j < tn ∧ ai = (ls.getD j default).id ∧ er = 7 ∧ m.facts = ls ∧ m.next = nx ∧ atN ls kd xvs tn = j) ∨ (er = 2 ∧ m.facts = ls ∧ m.next = nx ∧ atN ls kd xvs tn = -1)) := by
            show _ ∨ _ ∨ _
            rw [HTn.out]
            rcases hcs with ⟨rfl, h2⟩ | ⟨j, h1, rfl, h2⟩ | ⟨rfl, h2⟩
            · simp at her
              exact Or.inl ⟨her.1.symm, her.2.symm, rfl, rfl, h2⟩
            · simp at her
              exact Or.inr (Or.inl ⟨j, h1, by simpa using her.1.symm, her.2.symm, rfl, rfl, h2⟩)
            · simp at her
              exact Or.inr (Or.inr ⟨her.2.symm, rfl, rfl, h2⟩)
          rw [← HAn.out] at HAdd
          have HGm := Lib.hid (HK3.out.gd.add HK3.out.aw.lo kd xvs)
          rw [← hm] at HGm
          clear hcs her hm
          generalize hm1 : m.facts = mf at *
          generalize hm2 : m.next = mn at *
          clear hm1 hm2 m
          rcases hex with hp2 | ⟨rfl, htn0⟩
          all_goals
            try (have htn0' : ¬ (0 : Int) < (tn : Int) := by omega)
            try clear htn0
            as_aux_lemma =>
            go_upto_region 21 with (first
              | (go_at_call 17; first | (refine (HPk.out).mono ?_; rintro e w4 ⟨rfl, rfl⟩; clear HPk) | (refine (HPt.out).mono ?_; rintro e w4 ⟨rfl, rfl⟩; clear HPt))
              | (go_at_call 7; refine (HAdd.out).mono ?_; rintro e w5 ⟨rfl, ha, hkp⟩; have HA5 := Lib.hid ha; have HR5 := Lib.hid (HK3.out.row.kp hkp); have HX5 := Lib.hid (hkp.box HX3.out (by decide) (by decide)); clear ha hkp))
            clear HAdd x1 x2 x3 x4 HX3
            go_loopw [12, 13] (fun s12 i wr => ∃ j : Nat, j ≤ tn ∧ i = .int .i64 j ∧ s12 = .int .i64 (atN ls kd xvs j) ∧ Hid (Below w5.heap.size w5 wr)) (fun _ i _ => tn - (intOf i).toNat)
            case atStart => exact ⟨0, Nat.zero_le _, rfl, rfl, Below.refl _ _⟩
            case round =>
              as_aux_lemma =>
              obtain ⟨j, hj, rfl, rfl, HG⟩ := hrel
              by_cases hlt2 : j < tn
              · try (exfalso; omega)
                all_goals
                  have HG2 := Lib.hid (HA5.out.below.trans (HG.out.mono HA5.out.below.size))
                  obtain ⟨tg, ta, td, rfl, ltg, y1, y2, y3, sy⟩ := rowF_at0 (HR5.out.old HG.out) (by rw [← HTn.out]; exact hlt2)
                  clear y1
                  have hjn : (j : Int) < (tn : Int) := by omega
                  have HS := Lib.hid (fun W (b : Below wr.heap.size wr W) => sameV_any (ls.getD j default).args xvs ta td p d W (sy.up b b.size) (HXw.out _ (HG2.out.trans (b.mono HG2.out.size))))
                  unfold SaysP at HS
                  rw [← HAn.out] at HS
                  obtain ⟨fk, hfk⟩ : ∃ fk, fk = (ls.getD j default).kind := ⟨_, rfl⟩
                  obtain ⟨fa, hfa⟩ : ∃ fa, fa = (ls.getD j default).args := ⟨_, rfl⟩
                  have HAt : Hid (atN ls kd xvs (j + 1) = if fk = kd ∧ fa = xvs then (j : Int) else atN ls kd xvs j) := by
                    show _ = _
                    rw [hfk, hfa]
                    rfl
                  rw [← hfk] at y2
                  rw [← hfa] at y3 HS
                  clear hfk hfa sy
                  obtain ⟨fn, hfn⟩ : ∃ fn, fn = fa.length := ⟨_, rfl⟩
                  rw [← hfn] at y3 HS
                  clear hfn
                  have z3 : wr.cell? ⟨xb, 3, none⟩ = some (.slice p an d) := ((HX5.out.old HG.out).cell 3).trans rfl
                  have HK2 := Lib.hid (fun W (b : Below wr.heap.size wr W) => (⟨(b.cell (p := ⟨tg, j * 3 + 1, none⟩) ltg).trans y2, (b.cell (p := ⟨tg, j * 3 + 2, none⟩) ltg).trans y3, (((HX5.out.old HG.out).old b).cell 3).trans rfl⟩ : W.cell? ⟨tg, j * 3 + 1, none⟩ = some (.int .i64 fk) ∧ W.cell? ⟨tg, j * 3 + 2, none⟩ = some (.slice ta fn td) ∧ W.cell? ⟨xb, 3, none⟩ = some (.slice p an d)))
                  have HBd : Hid (Below wr.heap.size wr wr.drew) := below_drew (Below.refl _ _)
                  go_upto_region 23 with fail
                  obtain ⟨b, hb⟩ : ∃ b, b = decide (fa = xvs) := ⟨_, rfl⟩
                  rw [← hb] at HS
                  clear y2 y3 z3
                  by_cases hkk : fk = kd
                  · have hk3 : (fk == kd) = true := by rw [beq_iff_eq]; exact hkk
                    have HAt2 : Hid (atN ls kd xvs (j + 1) = if b = true then (j : Int) else atN ls kd xvs j) := by
                      show _ = _
                      rw [HAt.out, hb]
                      by_cases h : fa = xvs
                      · rw [if_pos ⟨hkk, h⟩, if_pos (decide_eq_true h)]
                      · rw [if_neg (fun e => h e.2), if_neg (by simp [h])]
                    clear hkk HAt hb
                    go_region_held3 (fun W => W.cell? ⟨tg, j * 3 + 1, none⟩ = some (.int .i64 fk) ∧ W.cell? ⟨tg, j * 3 + 2, none⟩ = some (.slice ta fn td) ∧ W.cell? ⟨xb, 3, none⟩ = some (.slice p an d))
                      (first | exact HK2.out _ HBd.out | exact HK2.out _ HB6.out)
                      ((first | (go_at_call 19; refine (HS.out _ HBd.out).mono ?_; rintro e w6 ⟨rfl, hb⟩; have HB6 := Lib.hid (HBd.out.trans (hb.mono HBd.out.size)); clear hb)))
                    have HG6 := Lib.hid (HG.out.trans (HB6.out.mono HG.out.size))
                    clear HK2 HBd HS HB6 HG HG2 hk3
                    cases b with
                    | true =>
                      have HAt3 : Hid (atN ls kd xvs (j + 1) = (j : Int)) := by show _ = _; rw [HAt2.out, if_pos rfl]
                      clear HAt2
                      go_wp2_with fail
                      go_roundw
                      case rel => exact ⟨j + 1, by omega, by go_num, by rw [HAt3.out], HG6⟩
                      case measure => simp [intOf]; omega
                    | false =>
                      have HAt3 : Hid (atN ls kd xvs (j + 1) = atN ls kd xvs j) := by show _ = _; rw [HAt2.out, if_neg (by decide)]
                      clear HAt2
                      go_wp2_with fail
                      go_roundw
                      case rel => exact ⟨j + 1, by omega, by go_num, by rw [HAt3.out], HG6⟩
                      case measure => simp [intOf]; omega
                  · have hk3 : (fk == kd) = false := by rw [beq_eq_false_iff_ne]; exact hkk
                    have HAt2 : Hid (atN ls kd xvs (j + 1) = atN ls kd xvs j) := by
                      show _ = _
                      rw [HAt.out, if_neg (fun e => hkk e.1)]
                    clear hkk HAt hb HS
                    obtain ⟨y2, y3, z3⟩ := HK2.out _ (Below.refl _ _)
                    go_quiet (fail)
                    go_wp2
                    have HG6 : Hid (Below w5.heap.size w5 (wr.drewN nq)) := RowKit_drewN HG.out nq
                    clear HK2 HBd HG HG2 hk3 y2 y3 z3
                    go_roundw
                    case rel => exact ⟨j + 1, by omega, by go_num, by rw [HAt2.out], HG6⟩
                    case measure => simp [intOf]; omega
              · have ej : tn = j := by omega
                subst ej
                rcases HCs.out with ⟨e1, e2, hf, hn, hat⟩ | ⟨jj, hjj, e1, e2, hf, hn, hat⟩ | ⟨e2, hf, hn, hat⟩
                · as_aux_lemma =>
                  have e1' := e1.symm
                  subst e1' e2 hf hn
                  rw [hat]
                  have HA6 := Lib.hid (HA5.out.old HG.out)
                  have HR6 := Lib.hid (HR5.out.old HG.out)
                  have x3 : wr.cell? ⟨xb, 3, none⟩ = some (.slice p an d) := ((HX5.out.old HG.out).cell 3).trans rfl
                  have hlast : ¬ nx ≤ last := by have := HK3.out.last; omega
                  have HCv := Lib.hid (copyV_any xvs p d wr (HXw.out _ HA6.out.below) (by rw [← HAn.out]; omega))
                  rw [← HAn.out] at HCv
                  have HL8 : Hid (ls.length ≤ k ∧ nx ≤ k + 1) := ⟨HK3.out.few, HK3.out.nxt⟩
                  clear HK3 HA5 HR5 HX5 HG HCs hat HXx e1
                  go_upto_region 36 with (first
                    | (go_at_call 20; refine (HCv.out).mono ?_; rintro e w6 ⟨v3, rfl, ho, hb⟩; obtain ⟨a3, d3, rfl⟩ := owns_slice ho; have HO := Lib.hid (owns_mono ho HA6.out.below.size); have HA7 := Lib.hid (HA6.out.old hb); have HR7 := Lib.hid (HR6.out.old hb); clear ho hb)
                    | (at_builtin; have hbn := below_own (w := w6) (.cells #[.int .i64 nx, .int .i64 kd, .slice a3 an d3] 37); obtain ⟨ps, q1, q2, q3⟩ := HR7.out.old hbn; have q4 := owns_below HO.out hbn; have q2' := q2; rw [← HTn.out] at q2'; have HQ := Lib.hid (And.intro q1 (And.intro q2 (And.intro q3 q4))); have HA8 := Lib.hid (HA7.out.old hbn); clear hbn q1 q3 q4 q2; refine wpList_append_apart _ rfl (.tmp 117) (.tmp 124) 44 rfl w.heap.size 37 i0 (.agg #[.int .i64 0, .int .i64 0, .slice none 0 0]) 3 40 Try.underlying44 hi hz0 hz1 hz2 rfl (by decide) (.slice tq tn tc) tn (cells3 ps) rfl q2' (some ⟨w6.heap.size, 0, none⟩) 1 1 [.int .i64 nx, .int .i64 kd, .slice a3 an d3] rfl rfl (fun h => by cases h) (fun ad h j u hu => by cases h; rw [Addr.add_lit, Nat.zero_add]; exact (Lib.cell_of_heap (alloc_at rfl _) j).trans (by simpa using hu)) (by intro u hu; simp at hu; rcases hu with rfl | rfl | rfl <;> rfl) (by unfold maxLen; omega) (by omega) HA8.out.below.size ?_; intro v' w7 hown' hgrow' hor; obtain ⟨a7, c7, rfl⟩ := owns_slice hown'; have HO7 := Lib.hid hown'; have HG7 := Lib.hid hgrow'; have HQ2 := Lib.hid q2'; clear hown' hgrow' hor q2'))
                  obtain ⟨q1, q2, q3, q4⟩ := HQ.out
                  have hpush : RowF w.heap.size w7 (ls ++ [⟨nx, kd, xvs⟩]) (.slice a7 (tn + 1) c7) := RowF.push (f := ⟨nx, kd, xvs⟩) (ao := a3) (c := d3) q1 q2 q3 (by simp only; rw [← HAn.out]; exact q4) (by rw [← HTn.out]; simp only; rw [← HAn.out]; exact HO7.out) (by have h := HG7.out; rwa [HTn.out] at h)
                  have haw := HA8.out.grown HG7.out (fun q hq => ⟨(World.ownsRow.lt HQ2.out q hq).1, owns_tag HQ2.out q hq⟩)
                  have hln : (ls ++ [(⟨nx, kd, xvs⟩ : F11)]).length = tn + 1 := by simp [HTn.out]
                  rw [← hln] at hpush
                  have HK7 : Hid (Ks w mb rb (ls ++ [⟨nx, kd, xvs⟩]) (nx + 1) nx a7 c7 (k + 1) w7) := ⟨haw, hpush, HGm.out, by omega, by rw [hln]; have := HL8.out.1; rw [← HTn.out] at this; omega, by have := HL8.out.2; omega⟩
                  clear q1 q2 q3 q4 hpush haw HQ HQ2 HO7 HG7 HA8 HO HA7 HR7 HA6 HR6 HCv x3 hlast HGm HL8
                  obtain ⟨ls7, hls7⟩ : ∃ ls7, ls7 = ls ++ [(⟨nx, kd, xvs⟩ : F11)] := ⟨_, rfl⟩
                  rw [← hls7] at HK7 hln
                  have HLn7 := Lib.hid hln
                  clear hls7 hln
                  obtain ⟨tn7, htn7⟩ : ∃ tn7, tn7 = tn + 1 := ⟨_, rfl⟩
                  rw [← htn7] at HLn7 ⊢
                  have htn8 : tn7 ≤ 121 := by omega
                  clear htn7
                  go_loopw [14] (fun i wr => ∃ j : Nat, j ≤ tn7 ∧ i = .int .i64 j ∧ Hid (Ks w mb rb ls7 (nx+1) nx a7 c7 (k + 1) wr)) (fun i _ => tn7 - (intOf i).toNat)
                  case atStart => exact ⟨0, Nat.zero_le _, rfl, HK7⟩
                  case round =>
                    obtain ⟨j, hj, rfl, HJ⟩ := hrel
                    clear HK7
                    by_cases hlt3 : j < tn7
                    · as_aux_lemma =>
                      have hlt4 : j < ls7.length := by rw [HLn7.out]; exact hlt3
                      obtain ⟨tg, ta, td, htg, ltg, y1, y2, y3, sy⟩ := HJ.out.get hlt4
                      cases htg
                      have hjn : (j : Int) < (tn7 : Int) := by omega
                      have HGt : Hid (Calls Try.prog 9 #[.pointer (some ⟨mb, 0, none⟩), .int .i64 (ls7.getD j default).id] wr fun e w' => ∃ ao c, e = .returned (.tuple #[.agg #[.int .i64 (ls7.getD j default).id, .int .i64 (ls7.getD j default).kind, .slice ao (ls7.getD j default).args.length c], .bool true]) ∧ Sl10 w'.heap.size w' (ls7.getD j default).args.length ao c (cellsV (ls7.getD j default).args) ∧ Below wr.heap.size wr w') := by
                        refine (HJ.out.aw.getK (ls7.getD j default).id).mono ?_
                        rintro e w' ⟨hb, ⟨h0, -⟩ | ⟨f, v, h1, rfl, ao, c, rfl, ho⟩⟩
                        · rw [get_at HJ.out.aw.info.1 hlt4] at h0
                          cases h0
                        · rw [get_at HJ.out.aw.info.1 hlt4] at h1
                          obtain rfl := Option.some.inj h1
                          exact ⟨ao, c, rfl, sl_of_own ho, hb⟩
                      have HFd : Hid (∀ W, Below wr.heap.size wr W → Calls Try.prog 10 #[.pointer (some ⟨mb, 0, none⟩), .int .i64 (ls7.getD j default).kind, .slice ta (ls7.getD j default).args.length td] W fun e w' => e = .returned (.tuple #[.int .i64 (ls7.getD j default).id, .bool true]) ∧ Below W.heap.size W w') := fun W b => by
                        have h9 := (HJ.out.old b).aw.findK (ls7.getD j default).kind (ls7.getD j default).args ta td (sy.up b b.size) (HJ.out.aw.info.2.2.1 _ (getD_mem11 hlt4)) (Nat.le_trans (HJ.out.aw.info.2.2.2.1 _ (getD_mem11 hlt4)) (by decide))
                        rw [find_at HJ.out.gd hlt4] at h9
                        exact h9
                      have HSm : Hid (∀ W, Below wr.heap.size wr W → ∀ a c, Sl10 W.heap.size W (ls7.getD j default).args.length a c (cellsV (ls7.getD j default).args) → Calls Try.prog 12 #[.agg #[.int .i64 (ls7.getD j default).id, .int .i64 (ls7.getD j default).kind, .slice a (ls7.getD j default).args.length c], .agg #[.int .i64 (ls7.getD j default).id, .int .i64 (ls7.getD j default).kind, .slice ta (ls7.getD j default).args.length td]] W fun e w' => e = .returned (.bool true) ∧ Below W.heap.size W w') := fun W b a c s => by
                        have h9 := sameFact_any (ls7.getD j default) (ls7.getD j default) _ _ W ⟨a, c, rfl, s⟩ ⟨ta, td, rfl, sy.up b b.size⟩
                        rw [same_self] at h9
                        exact h9
                      clear sy
                      generalize ls7.getD j default = f at *
                      obtain ⟨fi, fk, fa⟩ := f
                      simp only at y1 y2 y3 HGt HFd HSm
                      obtain ⟨fn, hfn⟩ : ∃ fn, fn = fa.length := ⟨_, rfl⟩
                      rw [← hfn] at y3 HGt HFd HSm
                      clear hfn
                      have hne : (fi != fi) = false := by simp
                      go_upto_region 39 with (go_at_call 9; refine (HGt.out).mono ?_; rintro e w8 ⟨ao8, c8, rfl, hs, hb⟩; have HS8 := Lib.hid hs; have HB8 := Lib.hid hb; clear hs hb)
                      have hbn := below_own (w := w8) (.cells ([.int .i64 fi, .int .i64 fk, .slice ao8 fn c8] : List Value).toArray 37)
                      have hbx := Box.new w8 37 [.int .i64 fi, .int .i64 fk, .slice ao8 fn c8]
                      have H1 := Lib.hid hbn
                      have H2 := Lib.hid hbx
                      clear hbn hbx
                      generalize hW9 : World.alloc _ _ = W9
                      have HN9 : Hid (Below w8.heap.size w8 W9) := by rw [← hW9]; exact H1.out
                      have HX9 : Hid (Box W9 w8.heap.size 37 [.int .i64 fi, .int .i64 fk, .slice ao8 fn c8]) := by rw [← hW9]; exact H2.out
                      clear hW9 H1 H2
                      have HB9 := Lib.hid (HB8.out.trans (HN9.out.mono HB8.out.size))
                      have HS9 := Lib.hid (HS8.out.up HN9.out HN9.out.size)
                      have HKy := Lib.hid (fun W (b : Below wr.heap.size wr W) => (⟨(b.cell (p := ⟨tg, j * 3, none⟩) ltg).trans y1, (b.cell (p := ⟨tg, j * 3 + 1, none⟩) ltg).trans y2, (b.cell (p := ⟨tg, j * 3 + 2, none⟩) ltg).trans y3⟩ : W.cell? ⟨tg, j * 3, none⟩ = some (.int .i64 fi) ∧ W.cell? ⟨tg, j * 3 + 1, none⟩ = some (.int .i64 fk) ∧ W.cell? ⟨tg, j * 3 + 2, none⟩ = some (.slice ta fn td)))
                      clear HB8 HS8 HN9 HGt y1 y2 y3
                      generalize w8.heap.size = fb at *
                      have HBd : Hid (Below wr.heap.size wr W9.drew) := below_drew HB9.out
                      have HXd : Hid (Box W9.drew fb 37 [.int .i64 fi, .int .i64 fk, .slice ao8 fn c8]) := HX9
                      have HSd : Hid (Sl10 W9.drew.heap.size W9.drew fn ao8 c8 (cellsV fa)) := HS9.out.up (below_drew (Below.refl _ _)) (Nat.le_refl _)
                      go_region_held3 (fun W => W.cell? ⟨tg, j * 3, none⟩ = some (.int .i64 fi) ∧ W.cell? ⟨tg, j * 3 + 1, none⟩ = some (.int .i64 fk) ∧ W.cell? ⟨tg, j * 3 + 2, none⟩ = some (.slice ta fn td))
                        (first | exact HKy.out _ HBd.out | exact HKy.out _ HB10.out)
                        ((first | (go_at_call 10; refine (HFd.out _ HBd.out).mono ?_; rintro e w10 ⟨rfl, hb⟩; have HB10 := Lib.hid (HBd.out.trans (hb.mono HBd.out.size)); have HX10 := Lib.hid (HXd.out.old hb); have HS10 := Lib.hid (HSd.out.up hb hb.size); clear hb)))
                      clear HBd HXd HSd HB9 HX9 HS9 HFd
                      have HBe : Hid (Below wr.heap.size wr w10.drew) := below_drew HB10.out
                      have HXe : Hid (Box w10.drew fb 37 [.int .i64 fi, .int .i64 fk, .slice ao8 fn c8]) := HX10
                      have HSe : Hid (Sl10 w10.drew.heap.size w10.drew fn ao8 c8 (cellsV fa)) := HS10.out.up (below_drew (Below.refl _ _)) (Nat.le_refl _)
                      have HKz := Lib.hid (fun W (b : Below wr.heap.size wr W) (hx : Box W fb 37 [.int .i64 fi, .int .i64 fk, .slice ao8 fn c8]) => (⟨(HKy.out W b).1, (HKy.out W b).2.1, (HKy.out W b).2.2, (hx.cell 0).trans rfl, (hx.cell 1).trans rfl, (hx.cell 2).trans rfl⟩ : W.cell? ⟨tg, j * 3, none⟩ = some (.int .i64 fi) ∧ W.cell? ⟨tg, j * 3 + 1, none⟩ = some (.int .i64 fk) ∧ W.cell? ⟨tg, j * 3 + 2, none⟩ = some (.slice ta fn td) ∧ W.cell? ⟨fb, 0, none⟩ = some (.int .i64 fi) ∧ W.cell? ⟨fb, 1, none⟩ = some (.int .i64 fk) ∧ W.cell? ⟨fb, 2, none⟩ = some (.slice ao8 fn c8)))
                      clear HB10 HX10 HS10 HKy
                      go_upto_region 40 with fail
                      go_region_held3 (fun W => W.cell? ⟨tg, j * 3, none⟩ = some (.int .i64 fi) ∧ W.cell? ⟨tg, j * 3 + 1, none⟩ = some (.int .i64 fk) ∧ W.cell? ⟨tg, j * 3 + 2, none⟩ = some (.slice ta fn td) ∧ W.cell? ⟨fb, 0, none⟩ = some (.int .i64 fi) ∧ W.cell? ⟨fb, 1, none⟩ = some (.int .i64 fk) ∧ W.cell? ⟨fb, 2, none⟩ = some (.slice ao8 fn c8))
                        (first | exact HKz.out _ HBe.out HXe.out | exact HKz.out _ HB11.out HX11.out)
                        ((first | (go_at_call 12; refine (HSm.out _ HBe.out _ _ HSe.out).mono ?_; rintro e w11 ⟨rfl, hb⟩; have HB11 := Lib.hid (HBe.out.trans (hb.mono HBe.out.size)); have HX11 := Lib.hid (HXe.out.old hb); clear hb)))
                      have HJ11 := Lib.hid (HJ.out.old HB11.out)
                      clear HKz HBe HXe HSe HSm HB11 HX11 HJ
                      go_wp2_with fail
                      go_roundw
                      case rel => exact ⟨j + 1, by omega, by go_num, HJ11⟩
                      case measure => simp [intOf]; omega
                    · have ej : tn7 = j := by omega
                      subst ej
                      go_wp2_with fail
                      go_roundw
                      case rel => exact ⟨k + 1, ls7, (nx+1), nx, a7, c7, by omega, by omega, by go_num, rfl, by rw [HLn7.out], HJ⟩
                      case measure => simp [intOf]; omega
                · try (exfalso; omega)
                  all_goals
                    as_aux_lemma =>
                    subst e2 hf hn
                    rw [hat]
                    obtain ⟨tg, ta, td, rfl, ltg, y1, y2, y3, sy⟩ := rowF_at0 (HR5.out.old HG.out) (by rw [← HTn.out]; exact hjj)
                    rw [← e1] at y1
                    have hjn : (jj : Int) < (tn : Int) := by omega
                    have hj0 : ¬ (jj : Int) < 0 := by omega
                    have hne : (ai != ai) = false := by simp
                    have hln := HTn.out.symm
                    have HK7 : Hid (Ks w mb rb mf mn last (some ⟨tg, 0, none⟩) tc (k + 1) wr) := ⟨HA5.out.old HG.out, HR5.out.old HG.out, HGm.out, HK3.out.last, by have := HK3.out.few; omega, by have := HK3.out.nxt; omega⟩
                    clear HK3 HA5 HR5 HX5 HG HCs hat HXx e1 y2 y3 sy HGm
                    go_upto_region 36 with fail
                    obtain ⟨ls7, hls7⟩ : ∃ ls7, ls7 = mf := ⟨_, rfl⟩
                    rw [← hls7] at HK7 hln
                    have HLn7 := Lib.hid hln
                    clear hls7 hln y1 hjn hj0 hne
                    obtain ⟨tn7, htn7⟩ : ∃ tn7, tn7 = tn := ⟨_, rfl⟩
                    rw [← htn7] at HLn7 ⊢
                    have htn8 : tn7 ≤ 121 := by omega
                    clear htn7
                    go_loopw [14] (fun i wr => ∃ j : Nat, j ≤ tn7 ∧ i = .int .i64 j ∧ Hid (Ks w mb rb ls7 mn last (some ⟨tg, 0, none⟩) tc (k + 1) wr)) (fun i _ => tn7 - (intOf i).toNat)
                    case atStart => exact ⟨0, Nat.zero_le _, rfl, HK7⟩
                    case round =>
                      obtain ⟨j, hj, rfl, HJ⟩ := hrel
                      clear HK7
                      by_cases hlt3 : j < tn7
                      · as_aux_lemma =>
                        have hlt4 : j < ls7.length := by rw [HLn7.out]; exact hlt3
                        obtain ⟨tg, ta, td, htg, ltg, y1, y2, y3, sy⟩ := HJ.out.get hlt4
                        cases htg
                        have hjn : (j : Int) < (tn7 : Int) := by omega
                        have HGt : Hid (Calls Try.prog 9 #[.pointer (some ⟨mb, 0, none⟩), .int .i64 (ls7.getD j default).id] wr fun e w' => ∃ ao c, e = .returned (.tuple #[.agg #[.int .i64 (ls7.getD j default).id, .int .i64 (ls7.getD j default).kind, .slice ao (ls7.getD j default).args.length c], .bool true]) ∧ Sl10 w'.heap.size w' (ls7.getD j default).args.length ao c (cellsV (ls7.getD j default).args) ∧ Below wr.heap.size wr w') := by
                          refine (HJ.out.aw.getK (ls7.getD j default).id).mono ?_
                          rintro e w' ⟨hb, ⟨h0, -⟩ | ⟨f, v, h1, rfl, ao, c, rfl, ho⟩⟩
                          · rw [get_at HJ.out.aw.info.1 hlt4] at h0
                            cases h0
                          · rw [get_at HJ.out.aw.info.1 hlt4] at h1
                            obtain rfl := Option.some.inj h1
                            exact ⟨ao, c, rfl, sl_of_own ho, hb⟩
                        have HFd : Hid (∀ W, Below wr.heap.size wr W → Calls Try.prog 10 #[.pointer (some ⟨mb, 0, none⟩), .int .i64 (ls7.getD j default).kind, .slice ta (ls7.getD j default).args.length td] W fun e w' => e = .returned (.tuple #[.int .i64 (ls7.getD j default).id, .bool true]) ∧ Below W.heap.size W w') := fun W b => by
                          have h9 := (HJ.out.old b).aw.findK (ls7.getD j default).kind (ls7.getD j default).args ta td (sy.up b b.size) (HJ.out.aw.info.2.2.1 _ (getD_mem11 hlt4)) (Nat.le_trans (HJ.out.aw.info.2.2.2.1 _ (getD_mem11 hlt4)) (by decide))
                          rw [find_at HJ.out.gd hlt4] at h9
                          exact h9
                        have HSm : Hid (∀ W, Below wr.heap.size wr W → ∀ a c, Sl10 W.heap.size W (ls7.getD j default).args.length a c (cellsV (ls7.getD j default).args) → Calls Try.prog 12 #[.agg #[.int .i64 (ls7.getD j default).id, .int .i64 (ls7.getD j default).kind, .slice a (ls7.getD j default).args.length c], .agg #[.int .i64 (ls7.getD j default).id, .int .i64 (ls7.getD j default).kind, .slice ta (ls7.getD j default).args.length td]] W fun e w' => e = .returned (.bool true) ∧ Below W.heap.size W w') := fun W b a c s => by
                          have h9 := sameFact_any (ls7.getD j default) (ls7.getD j default) _ _ W ⟨a, c, rfl, s⟩ ⟨ta, td, rfl, sy.up b b.size⟩
                          rw [same_self] at h9
                          exact h9
                        clear sy
                        generalize ls7.getD j default = f at *
                        obtain ⟨fi, fk, fa⟩ := f
                        simp only at y1 y2 y3 HGt HFd HSm
                        obtain ⟨fn, hfn⟩ : ∃ fn, fn = fa.length := ⟨_, rfl⟩
                        rw [← hfn] at y3 HGt HFd HSm
                        clear hfn
                        have hne : (fi != fi) = false := by simp
                        go_upto_region 39 with (go_at_call 9; refine (HGt.out).mono ?_; rintro e w8 ⟨ao8, c8, rfl, hs, hb⟩; have HS8 := Lib.hid hs; have HB8 := Lib.hid hb; clear hs hb)
                        have hbn := below_own (w := w8) (.cells ([.int .i64 fi, .int .i64 fk, .slice ao8 fn c8] : List Value).toArray 37)
                        have hbx := Box.new w8 37 [.int .i64 fi, .int .i64 fk, .slice ao8 fn c8]
                        have H1 := Lib.hid hbn
                        have H2 := Lib.hid hbx
                        clear hbn hbx
                        generalize hW9 : World.alloc _ _ = W9
                        have HN9 : Hid (Below w8.heap.size w8 W9) := by rw [← hW9]; exact H1.out
                        have HX9 : Hid (Box W9 w8.heap.size 37 [.int .i64 fi, .int .i64 fk, .slice ao8 fn c8]) := by rw [← hW9]; exact H2.out
                        clear hW9 H1 H2
                        have HB9 := Lib.hid (HB8.out.trans (HN9.out.mono HB8.out.size))
                        have HS9 := Lib.hid (HS8.out.up HN9.out HN9.out.size)
                        have HKy := Lib.hid (fun W (b : Below wr.heap.size wr W) => (⟨(b.cell (p := ⟨tg, j * 3, none⟩) ltg).trans y1, (b.cell (p := ⟨tg, j * 3 + 1, none⟩) ltg).trans y2, (b.cell (p := ⟨tg, j * 3 + 2, none⟩) ltg).trans y3⟩ : W.cell? ⟨tg, j * 3, none⟩ = some (.int .i64 fi) ∧ W.cell? ⟨tg, j * 3 + 1, none⟩ = some (.int .i64 fk) ∧ W.cell? ⟨tg, j * 3 + 2, none⟩ = some (.slice ta fn td)))
                        clear HB8 HS8 HN9 HGt y1 y2 y3
                        generalize w8.heap.size = fb at *
                        have HBd : Hid (Below wr.heap.size wr W9.drew) := below_drew HB9.out
                        have HXd : Hid (Box W9.drew fb 37 [.int .i64 fi, .int .i64 fk, .slice ao8 fn c8]) := HX9
                        have HSd : Hid (Sl10 W9.drew.heap.size W9.drew fn ao8 c8 (cellsV fa)) := HS9.out.up (below_drew (Below.refl _ _)) (Nat.le_refl _)
                        go_region_held3 (fun W => W.cell? ⟨tg, j * 3, none⟩ = some (.int .i64 fi) ∧ W.cell? ⟨tg, j * 3 + 1, none⟩ = some (.int .i64 fk) ∧ W.cell? ⟨tg, j * 3 + 2, none⟩ = some (.slice ta fn td))
                          (first | exact HKy.out _ HBd.out | exact HKy.out _ HB10.out)
                          ((first | (go_at_call 10; refine (HFd.out _ HBd.out).mono ?_; rintro e w10 ⟨rfl, hb⟩; have HB10 := Lib.hid (HBd.out.trans (hb.mono HBd.out.size)); have HX10 := Lib.hid (HXd.out.old hb); have HS10 := Lib.hid (HSd.out.up hb hb.size); clear hb)))
                        clear HBd HXd HSd HB9 HX9 HS9 HFd
                        have HBe : Hid (Below wr.heap.size wr w10.drew) := below_drew HB10.out
                        have HXe : Hid (Box w10.drew fb 37 [.int .i64 fi, .int .i64 fk, .slice ao8 fn c8]) := HX10
                        have HSe : Hid (Sl10 w10.drew.heap.size w10.drew fn ao8 c8 (cellsV fa)) := HS10.out.up (below_drew (Below.refl _ _)) (Nat.le_refl _)
                        have HKz := Lib.hid (fun W (b : Below wr.heap.size wr W) (hx : Box W fb 37 [.int .i64 fi, .int .i64 fk, .slice ao8 fn c8]) => (⟨(HKy.out W b).1, (HKy.out W b).2.1, (HKy.out W b).2.2, (hx.cell 0).trans rfl, (hx.cell 1).trans rfl, (hx.cell 2).trans rfl⟩ : W.cell? ⟨tg, j * 3, none⟩ = some (.int .i64 fi) ∧ W.cell? ⟨tg, j * 3 + 1, none⟩ = some (.int .i64 fk) ∧ W.cell? ⟨tg, j * 3 + 2, none⟩ = some (.slice ta fn td) ∧ W.cell? ⟨fb, 0, none⟩ = some (.int .i64 fi) ∧ W.cell? ⟨fb, 1, none⟩ = some (.int .i64 fk) ∧ W.cell? ⟨fb, 2, none⟩ = some (.slice ao8 fn c8)))
                        clear HB10 HX10 HS10 HKy
                        go_upto_region 40 with fail
                        go_region_held3 (fun W => W.cell? ⟨tg, j * 3, none⟩ = some (.int .i64 fi) ∧ W.cell? ⟨tg, j * 3 + 1, none⟩ = some (.int .i64 fk) ∧ W.cell? ⟨tg, j * 3 + 2, none⟩ = some (.slice ta fn td) ∧ W.cell? ⟨fb, 0, none⟩ = some (.int .i64 fi) ∧ W.cell? ⟨fb, 1, none⟩ = some (.int .i64 fk) ∧ W.cell? ⟨fb, 2, none⟩ = some (.slice ao8 fn c8))
                          (first | exact HKz.out _ HBe.out HXe.out | exact HKz.out _ HB11.out HX11.out)
                          ((first | (go_at_call 12; refine (HSm.out _ HBe.out _ _ HSe.out).mono ?_; rintro e w11 ⟨rfl, hb⟩; have HB11 := Lib.hid (HBe.out.trans (hb.mono HBe.out.size)); have HX11 := Lib.hid (HXe.out.old hb); clear hb)))
                        have HJ11 := Lib.hid (HJ.out.old HB11.out)
                        clear HKz HBe HXe HSe HSm HB11 HX11 HJ
                        go_wp2_with fail
                        go_roundw
                        case rel => exact ⟨j + 1, by omega, by go_num, HJ11⟩
                        case measure => simp [intOf]; omega
                      · have ej : tn7 = j := by omega
                        subst ej
                        go_wp2_with fail
                        go_roundw
                        case rel => exact ⟨k + 1, ls7, mn, last, (some ⟨tg, 0, none⟩), tc, by omega, by omega, by go_num, rfl, by rw [HLn7.out], HJ⟩
                        case measure => simp [intOf]; omega
                · as_aux_lemma =>
                  subst e2 hf hn
                  rw [hat]
                  have hln := HTn.out.symm
                  have HK7 : Hid (Ks w mb rb mf mn last tq tc (k + 1) wr) := ⟨HA5.out.old HG.out, HR5.out.old HG.out, HGm.out, HK3.out.last, by have := HK3.out.few; omega, by have := HK3.out.nxt; omega⟩
                  clear HK3 HA5 HR5 HX5 HG HCs hat HXx HGm
                  go_upto_region 36 with fail
                  obtain ⟨ls7, hls7⟩ : ∃ ls7, ls7 = mf := ⟨_, rfl⟩
                  rw [← hls7] at HK7 hln
                  have HLn7 := Lib.hid hln
                  clear hls7 hln
                  obtain ⟨tn7, htn7⟩ : ∃ tn7, tn7 = tn := ⟨_, rfl⟩
                  rw [← htn7] at HLn7 ⊢
                  have htn8 : tn7 ≤ 121 := by omega
                  clear htn7
                  go_loopw [14] (fun i wr => ∃ j : Nat, j ≤ tn7 ∧ i = .int .i64 j ∧ Hid (Ks w mb rb ls7 mn last tq tc (k + 1) wr)) (fun i _ => tn7 - (intOf i).toNat)
                  case atStart => exact ⟨0, Nat.zero_le _, rfl, HK7⟩
                  case round =>
                    obtain ⟨j, hj, rfl, HJ⟩ := hrel
                    clear HK7
                    by_cases hlt3 : j < tn7
                    · as_aux_lemma =>
                      have hlt4 : j < ls7.length := by rw [HLn7.out]; exact hlt3
                      obtain ⟨tg, ta, td, htg, ltg, y1, y2, y3, sy⟩ := HJ.out.get hlt4
                      cases htg
                      have hjn : (j : Int) < (tn7 : Int) := by omega
                      have HGt : Hid (Calls Try.prog 9 #[.pointer (some ⟨mb, 0, none⟩), .int .i64 (ls7.getD j default).id] wr fun e w' => ∃ ao c, e = .returned (.tuple #[.agg #[.int .i64 (ls7.getD j default).id, .int .i64 (ls7.getD j default).kind, .slice ao (ls7.getD j default).args.length c], .bool true]) ∧ Sl10 w'.heap.size w' (ls7.getD j default).args.length ao c (cellsV (ls7.getD j default).args) ∧ Below wr.heap.size wr w') := by
                        refine (HJ.out.aw.getK (ls7.getD j default).id).mono ?_
                        rintro e w' ⟨hb, ⟨h0, -⟩ | ⟨f, v, h1, rfl, ao, c, rfl, ho⟩⟩
                        · rw [get_at HJ.out.aw.info.1 hlt4] at h0
                          cases h0
                        · rw [get_at HJ.out.aw.info.1 hlt4] at h1
                          obtain rfl := Option.some.inj h1
                          exact ⟨ao, c, rfl, sl_of_own ho, hb⟩
                      have HFd : Hid (∀ W, Below wr.heap.size wr W → Calls Try.prog 10 #[.pointer (some ⟨mb, 0, none⟩), .int .i64 (ls7.getD j default).kind, .slice ta (ls7.getD j default).args.length td] W fun e w' => e = .returned (.tuple #[.int .i64 (ls7.getD j default).id, .bool true]) ∧ Below W.heap.size W w') := fun W b => by
                        have h9 := (HJ.out.old b).aw.findK (ls7.getD j default).kind (ls7.getD j default).args ta td (sy.up b b.size) (HJ.out.aw.info.2.2.1 _ (getD_mem11 hlt4)) (Nat.le_trans (HJ.out.aw.info.2.2.2.1 _ (getD_mem11 hlt4)) (by decide))
                        rw [find_at HJ.out.gd hlt4] at h9
                        exact h9
                      have HSm : Hid (∀ W, Below wr.heap.size wr W → ∀ a c, Sl10 W.heap.size W (ls7.getD j default).args.length a c (cellsV (ls7.getD j default).args) → Calls Try.prog 12 #[.agg #[.int .i64 (ls7.getD j default).id, .int .i64 (ls7.getD j default).kind, .slice a (ls7.getD j default).args.length c], .agg #[.int .i64 (ls7.getD j default).id, .int .i64 (ls7.getD j default).kind, .slice ta (ls7.getD j default).args.length td]] W fun e w' => e = .returned (.bool true) ∧ Below W.heap.size W w') := fun W b a c s => by
                        have h9 := sameFact_any (ls7.getD j default) (ls7.getD j default) _ _ W ⟨a, c, rfl, s⟩ ⟨ta, td, rfl, sy.up b b.size⟩
                        rw [same_self] at h9
                        exact h9
                      clear sy
                      generalize ls7.getD j default = f at *
                      obtain ⟨fi, fk, fa⟩ := f
                      simp only at y1 y2 y3 HGt HFd HSm
                      obtain ⟨fn, hfn⟩ : ∃ fn, fn = fa.length := ⟨_, rfl⟩
                      rw [← hfn] at y3 HGt HFd HSm
                      clear hfn
                      have hne : (fi != fi) = false := by simp
                      go_upto_region 39 with (go_at_call 9; refine (HGt.out).mono ?_; rintro e w8 ⟨ao8, c8, rfl, hs, hb⟩; have HS8 := Lib.hid hs; have HB8 := Lib.hid hb; clear hs hb)
                      have hbn := below_own (w := w8) (.cells ([.int .i64 fi, .int .i64 fk, .slice ao8 fn c8] : List Value).toArray 37)
                      have hbx := Box.new w8 37 [.int .i64 fi, .int .i64 fk, .slice ao8 fn c8]
                      have H1 := Lib.hid hbn
                      have H2 := Lib.hid hbx
                      clear hbn hbx
                      generalize hW9 : World.alloc _ _ = W9
                      have HN9 : Hid (Below w8.heap.size w8 W9) := by rw [← hW9]; exact H1.out
                      have HX9 : Hid (Box W9 w8.heap.size 37 [.int .i64 fi, .int .i64 fk, .slice ao8 fn c8]) := by rw [← hW9]; exact H2.out
                      clear hW9 H1 H2
                      have HB9 := Lib.hid (HB8.out.trans (HN9.out.mono HB8.out.size))
                      have HS9 := Lib.hid (HS8.out.up HN9.out HN9.out.size)
                      have HKy := Lib.hid (fun W (b : Below wr.heap.size wr W) => (⟨(b.cell (p := ⟨tg, j * 3, none⟩) ltg).trans y1, (b.cell (p := ⟨tg, j * 3 + 1, none⟩) ltg).trans y2, (b.cell (p := ⟨tg, j * 3 + 2, none⟩) ltg).trans y3⟩ : W.cell? ⟨tg, j * 3, none⟩ = some (.int .i64 fi) ∧ W.cell? ⟨tg, j * 3 + 1, none⟩ = some (.int .i64 fk) ∧ W.cell? ⟨tg, j * 3 + 2, none⟩ = some (.slice ta fn td)))
                      clear HB8 HS8 HN9 HGt y1 y2 y3
                      generalize w8.heap.size = fb at *
                      have HBd : Hid (Below wr.heap.size wr W9.drew) := below_drew HB9.out
                      have HXd : Hid (Box W9.drew fb 37 [.int .i64 fi, .int .i64 fk, .slice ao8 fn c8]) := HX9
                      have HSd : Hid (Sl10 W9.drew.heap.size W9.drew fn ao8 c8 (cellsV fa)) := HS9.out.up (below_drew (Below.refl _ _)) (Nat.le_refl _)
                      go_region_held3 (fun W => W.cell? ⟨tg, j * 3, none⟩ = some (.int .i64 fi) ∧ W.cell? ⟨tg, j * 3 + 1, none⟩ = some (.int .i64 fk) ∧ W.cell? ⟨tg, j * 3 + 2, none⟩ = some (.slice ta fn td))
                        (first | exact HKy.out _ HBd.out | exact HKy.out _ HB10.out)
                        ((first | (go_at_call 10; refine (HFd.out _ HBd.out).mono ?_; rintro e w10 ⟨rfl, hb⟩; have HB10 := Lib.hid (HBd.out.trans (hb.mono HBd.out.size)); have HX10 := Lib.hid (HXd.out.old hb); have HS10 := Lib.hid (HSd.out.up hb hb.size); clear hb)))
                      clear HBd HXd HSd HB9 HX9 HS9 HFd
                      have HBe : Hid (Below wr.heap.size wr w10.drew) := below_drew HB10.out
                      have HXe : Hid (Box w10.drew fb 37 [.int .i64 fi, .int .i64 fk, .slice ao8 fn c8]) := HX10
                      have HSe : Hid (Sl10 w10.drew.heap.size w10.drew fn ao8 c8 (cellsV fa)) := HS10.out.up (below_drew (Below.refl _ _)) (Nat.le_refl _)
                      have HKz := Lib.hid (fun W (b : Below wr.heap.size wr W) (hx : Box W fb 37 [.int .i64 fi, .int .i64 fk, .slice ao8 fn c8]) => (⟨(HKy.out W b).1, (HKy.out W b).2.1, (HKy.out W b).2.2, (hx.cell 0).trans rfl, (hx.cell 1).trans rfl, (hx.cell 2).trans rfl⟩ : W.cell? ⟨tg, j * 3, none⟩ = some (.int .i64 fi) ∧ W.cell? ⟨tg, j * 3 + 1, none⟩ = some (.int .i64 fk) ∧ W.cell? ⟨tg, j * 3 + 2, none⟩ = some (.slice ta fn td) ∧ W.cell? ⟨fb, 0, none⟩ = some (.int .i64 fi) ∧ W.cell? ⟨fb, 1, none⟩ = some (.int .i64 fk) ∧ W.cell? ⟨fb, 2, none⟩ = some (.slice ao8 fn c8)))
                      clear HB10 HX10 HS10 HKy
                      go_upto_region 40 with fail
                      go_region_held3 (fun W => W.cell? ⟨tg, j * 3, none⟩ = some (.int .i64 fi) ∧ W.cell? ⟨tg, j * 3 + 1, none⟩ = some (.int .i64 fk) ∧ W.cell? ⟨tg, j * 3 + 2, none⟩ = some (.slice ta fn td) ∧ W.cell? ⟨fb, 0, none⟩ = some (.int .i64 fi) ∧ W.cell? ⟨fb, 1, none⟩ = some (.int .i64 fk) ∧ W.cell? ⟨fb, 2, none⟩ = some (.slice ao8 fn c8))
                        (first | exact HKz.out _ HBe.out HXe.out | exact HKz.out _ HB11.out HX11.out)
                        ((first | (go_at_call 12; refine (HSm.out _ HBe.out _ _ HSe.out).mono ?_; rintro e w11 ⟨rfl, hb⟩; have HB11 := Lib.hid (HBe.out.trans (hb.mono HBe.out.size)); have HX11 := Lib.hid (HXe.out.old hb); clear hb)))
                      have HJ11 := Lib.hid (HJ.out.old HB11.out)
                      clear HKz HBe HXe HSe HSm HB11 HX11 HJ
                      go_wp2_with fail
                      go_roundw
                      case rel => exact ⟨j + 1, by omega, by go_num, HJ11⟩
                      case measure => simp [intOf]; omega
                    · have ej : tn7 = j := by omega
                      subst ej
                      go_wp2_with fail
                      go_roundw
                      case rel => exact ⟨k + 1, ls7, mn, last, tq, tc, by omega, by omega, by go_num, rfl, by rw [HLn7.out], HJ⟩
                      case measure => simp [intOf]; omega
    · have hex : (k : Int) < (l.length : Int) ∧ ¬ (k : Int) < 120 ∨ ¬ (k : Int) < (l.length : Int) := by omega
      have HAl : Hid (Calls Try.prog 13 #[.pointer (some ⟨mb, 0, none⟩)] wr (AllP ls wr)) := HK.out.aw.all
      have HLe := Lib.hid (fun W (b : Below wr.heap.size wr W) => (HK.out.aw.old b).lenK)
      have hls : (ls.length == ls.length) = true := by simp
      have hls2 : ((ls.length : Int) == (ls.length : Int)) = true := by simp
      clear hlt
      rcases hex with ⟨hex, hex2⟩ | hex
      all_goals
        go_wp2_with (first
          | (go_at_call 13; refine (HAl.out).mono ?_; rintro e w8 ⟨ao1, c1, rfl, hr, hb⟩; have HF1 := Lib.hid (sameFacts_yes _ ao1 c1 tq tc _ hr.frow (HK.out.row.old hb).frow); have HB1 := Lib.hid hb; clear hr hb)
          | (go_at_call 21; refine (HF1.out).mono ?_; rintro e w9 ⟨rfl, hb⟩; have HB2 := Lib.hid (HB1.out.trans (hb.mono HB1.out.size)); have HLn := Lib.hid (HLe.out _ HB2.out); clear hb)
          | (go_at_call 15; refine (HLn.out).mono ?_; rintro e w10 ⟨rfl, rfl⟩))
        go_ret
        exact ⟨rfl, HK.out.below.trans (HB2.out.mono HK.out.below.size)⟩
end Go.Proofs.Ytajhngkdnkbfcaa
