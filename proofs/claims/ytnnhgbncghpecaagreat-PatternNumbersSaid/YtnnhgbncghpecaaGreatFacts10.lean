/- Facts lent, facts looked at again. -/
import Derived.Test.YtnnhgbncghpecaaGreatFact10
import Derived.Test.YtnnhgbncghpecaaGreatIndex10
import Derived.Test.YtnnhgbncghpecaaGreatLent10
namespace Go.Proofs.YtnnhgbncghpecaaGreat
open Go.RowKit

theorem infoF : (Tryz.prog.info? 36).map (fun i => (i.zero, i.size, i.bytes)) = some (some (.agg #[.int .i64 0, .int .i64 0, .slice none 0 0]), 3, 40) := by kernel_rfl
theorem LentF.addr {base : Nat} {w : World} {f : F10} {v : Value} (h : LentF base w f v) : ∃ g, v = .slice (some ⟨g, 0, none⟩) f.args.length (f.args.length + 12) ∧ base ≤ g ∧ g < w.heap.size := by
  obtain ⟨g, h1, h2, h3, -⟩ := h.ex
  exact ⟨g, h1, h2, h3⟩
def mkF (n : Nat) : List (F10 × Value) := (List.range n).map fun (i : Nat) => (markF i, .slice none 0 0)
theorem mkF_succ (n : Nat) : mkF (n + 1) = mkF n ++ [(markF n, .slice none 0 0)] := by
  unfold mkF
  rw [List.range_succ, List.map_append]
  rfl
/-- A list of facts, lent: at a block. -/
structure LentFs (g : Nat) (w : World) (fl : List F10) (ps : List (F10 × Value)) : Prop where
  fst : ps.map Prod.fst = fl
  row : ∃ cur, w.heap[g]? = some (.cells cur 36 (0, 0)) ∧ cur.toList = cellsF (ps ++ mkF 12)
  each : ∀ p, p ∈ ps → LentF g w p.1 p.2
set_option maxRecDepth 100000 in
set_option maxHeartbeats 2000000 in
theorem lentFact_any (f : F10) (ao : Option Addr) (c : Nat) (w : World) (h : Sl10 w.heap.size w f.args.length ao c (cellsV f.args)) (hs : f.args.length ≤ 60) :
    Calls Tryz.prog 8 #[aggF f ao c] w fun e w' => ∃ v', e = .returned (.agg #[.int .i64 f.id, .int .i64 f.type, v']) ∧ LentF w.heap.size w' f v' ∧ Below w.heap.size w w' := by
  have HB := Lib.hid (below_two w (.cells #[.int .i64 f.id, .int .i64 f.type, .slice ao f.args.length c] 36) (.cells #[.int .i64 0, .int .i64 0, .slice none 0 0] 36))
  have h' := h.up HB.out HB.out.size
  have HV := Lib.hid (lentW_any ao f.args.length c f.args _ rfl hs (h'.rowAt rfl).1 (h'.rowAt rfl).2)
  obtain ⟨fi, ft, fl⟩ := f
  unfold aggF
  simp only at HB HV ⊢
  have HL : Hid (∀ base W g, base ≤ g → g < W.heap.size → RowAt W g 0 (fl ++ marksV 12) → LentF base W ⟨fi, ft, fl⟩ (.slice (some ⟨g, 0, none⟩) fl.length (fl.length + 12))) := fun base W g h1 h2 h3 => ⟨g, rfl, h1, h2, h3⟩
  clear h h' hs
  generalize hn : fl.length = n at *
  go_enter Tryz.func8, Tryz.ntmps8
  go_wp2_with (go_at_call 9; go_must (refine (HV.out).mono ?_; rintro e w1 ⟨rfl, hlt, hr, hb⟩; obtain ⟨b1, b2⟩ := two_boxes hb; obtain ⟨b3, b4⟩ := two_frozen hb; have HG := Lib.hid hr; have HBb := Lib.hid hb; have HLt := Lib.hid hlt; clear hb hr hlt))
  have hz : ((w.alloc (.cells #[.int .i64 fi, .int .i64 ft, .slice ao n c] 36)).alloc (.cells #[.int .i64 0, .int .i64 0, .slice none 0 0] 36)).heap.size = w.heap.size + 1 + 1 := by simp
  have hG := HL.out (w.heap.size + 1 + 1) w1 (w.heap.size + 1 + 1) (Nat.le_refl _) (by have := HLt.out; rw [hz] at this; exact this) (by have := HG.out; rw [hz] at this; exact this)
  have hB1 : Below w.heap.size w w1 := HB.out.trans (HBb.out.mono HB.out.size)
  refine bodyPost_ret (v := .agg #[.int .i64 fi, .int .i64 ft, .slice (some ⟨w.heap.size + 1 + 1, 0, none⟩) n (n + 12)]) (by simp [results, Tryz.results8, go_sem, b2]) rfl ⟨_, rfl, ?_, ?_⟩
  · have step : ∀ (W : World) (q i : Nat) (x : Value) (u : Value), LentF (w.heap.size + 1 + 1) W ⟨fi, ft, fl⟩ u → q < w.heap.size + 1 + 1 → LentF (w.heap.size + 1 + 1) (W.setCell ⟨q, i, none⟩ x) ⟨fi, ft, fl⟩ u := fun W q i x u h hq => h.apart (Lib.grownBy_setCell W q i x) hq
    exact ((step _ _ _ _ _ (step _ _ _ _ _ (step _ _ _ _ _ (step _ _ _ _ _ hG (by omega)) (by omega)) (by omega)) (by omega))).mono (by omega)
  · exact (((hB1.setCell (p := ⟨w.heap.size, 2, none⟩) (Nat.le_refl _) _).setCell (p := ⟨w.heap.size + 1, 0, none⟩) (Nat.le_succ _) _).setCell (p := ⟨w.heap.size + 1, 1, none⟩) (Nat.le_succ _) _).setCell (p := ⟨w.heap.size + 1, 2, none⟩) (Nat.le_succ _) _
set_option maxRecDepth 100000 in
set_option maxHeartbeats 4000000 in
theorem lentFacts_any (fl : List F10) (a1 : Option Addr) (c1 : Nat) (w : World) (hF : Facts10 w.heap.size w fl a1 c1) (hl : fl.length ≤ 100000) (hsm : ∀ f, f ∈ fl → f.args.length ≤ 60) :
    Calls Tryz.prog 35 #[.slice a1 fl.length c1] w fun e w' => ∃ ps : List (F10 × Value), e = .returned (.slice (some ⟨w.heap.size, 0, none⟩) fl.length (fl.length + 12)) ∧ LentFs w.heap.size w' fl ps ∧ Below w.heap.size w w' := by
  obtain ⟨i0, hi, hz0, hz1, hz2⟩ := info_parts infoF
  have HS := Lib.hid hF
  have HSm := Lib.hid hsm
  clear hF hsm
  go_enter Tryz.func35, Tryz.ntmps35
  go_wp2_with (at_make; go_must (refine wpList_make_own _ rfl _ _ 79 rfl w.heap.size 36 i0 (.agg #[.int .i64 0, .int .i64 0, .slice none 0 0]) 3 Tryz.underlying79 hi hz0 hz1 .i64 .i64 _ (fl.length + 12) rfl rfl (by omega) (by rw [hz2]; omega) (by unfold maxLen; omega) (Nat.le_refl _) ?_; intro w0 hown0 hgrow0))
  have HB0 : Hid (Below w.heap.size w w0) := (Below.refl _ _).grown hgrow0 (Nat.le_refl _) (fun k h => by cases h)
  have HO0 : Hid (w0.ownsRow w.heap.size 36 3 (.slice (some ⟨w.heap.size, 0, none⟩) 0 (fl.length + 12)) 0 (cellsF [])) := hown0
  clear hown0 hgrow0
  go_loopw [3, 4] (fun v i wr => ∃ (k : Nat) (ps : List (F10 × Value)), k ≤ fl.length ∧ i = .int .i64 k ∧ v = .slice (some ⟨w.heap.size, 0, none⟩) k (fl.length + 12) ∧ Hid (wr.ownsRow w.heap.size 36 3 (.slice (some ⟨w.heap.size, 0, none⟩) k (fl.length + 12)) k (cellsF ps)) ∧ Hid (ps.map Prod.fst = fl.take k) ∧ Hid (∀ p, p ∈ ps → LentF (w.heap.size + 1) wr p.1 p.2) ∧ Hid (Below w.heap.size w wr)) (fun _ i _ => fl.length - (intOf i).toNat)
  case atStart => exact ⟨0, [], by omega, rfl, rfl, HO0, rfl, (fun p hp => by cases hp), HB0⟩
  case round =>
    obtain ⟨k, ps, hk, rfl, rfl, HO, HP, HD, HB⟩ := hrel
    clear HO0 HB0
    by_cases hlt : k < fl.length
    · obtain ⟨sb, off, qa, qc, rfl, hsb, d0, d1, d2, hL1⟩ := (HS.out.up HB.out (Nat.le_refl _)).at hlt
      have HT := Lib.hid (show fl.take (k + 1) = fl.take k ++ [fl[k]] by rw [List.take_add_one, List.getElem?_eq_getElem hlt]; rfl)
      have hbl := (HO.out.lt w.heap.size rfl).2
      have hkl : (k : Int) < (fl.length : Int) := by omega
      have hlt2 : k + 1 ≤ fl.length + 12 := by omega
      have HHl := Lib.hid hbl
      have KL := Lib.hid (lentFact_any fl[k] qa qc wr (hL1.up (Below.refl _ _) HB.out.size) (HSm.out _ (List.getElem_mem hlt)))
      obtain ⟨q, hq⟩ : ∃ q, q = fl[k] := ⟨_, rfl⟩
      rw [← hq] at d0 d1 d2 HT KL
      unfold aggF at KL
      clear hL1 hbl hq
      go_wp2_with (first
        | (go_at_call 8; go_must (refine (KL.out).mono ?_; rintro e w1 ⟨v1, rfl, hL, hb⟩; obtain ⟨g, rfl, hgb, hgl⟩ := hL.addr; have HG := Lib.hid hL; have HBb := Lib.hid hb; clear hL hb hgb hgl))
        | (at_builtin; go_must (refine wpList_append_fits _ rfl _ _ 79 rfl w.heap.size 36 i0 3 Tryz.underlying79 hi hz1 w.heap.size k (fl.length + 12) _ rfl (World.ownsRow.alloc (World.ownsRow.alloc (owns_below HO.out HBb.out) _) _) ⟨w1.heap.size + 1, 0, none⟩ 1 1 [.int .i64 q.id, .int .i64 q.type, .slice (some ⟨g, 0, none⟩) q.args.length (q.args.length + 12)] rfl rfl (fun j u hu => by rw [Addr.add_lit, Nat.zero_add]; exact cells_madeE2 w1 _ _ _ j u (by simpa using hu)) (fun u hu => by simp at hu; rcases hu with rfl | rfl | rfl <;> rfl) hlt2 ?_; intro w4 hown4 hgrow4; refine Hid.out ?_)))
      have hB2 := below_two w1 (.cells #[.int .i64 q.id, .int .i64 q.type, .slice (some ⟨g, 0, none⟩) q.args.length (q.args.length + 12)] 36) (.cells #[.int .i64 q.id, .int .i64 q.type, .slice (some ⟨g, 0, none⟩) q.args.length (q.args.length + 12)] 36)
      have hbb := HBb.out.size
      have hbs := HB.out.size
      have hHl := HHl.out
      have HO4 : Hid (w4.ownsRow w.heap.size 36 3 (.slice (some ⟨w.heap.size, 0, none⟩) (k + 1) (fl.length + 12)) (k + 1) (cellsF (ps ++ [(q, .slice (some ⟨g, 0, none⟩) q.args.length (q.args.length + 12))]))) := by
        rw [cellsF_append]
        exact hown4
      have HP4 : Hid ((ps ++ [(q, Value.slice (some ⟨g, 0, none⟩) q.args.length (q.args.length + 12))]).map Prod.fst = fl.take (k + 1)) := by
        rw [HT.out, List.map_append, HP.out]
        rfl
      have HD4 : Hid (∀ p, p ∈ ps ++ [(q, Value.slice (some ⟨g, 0, none⟩) q.args.length (q.args.length + 12))] → LentF (w.heap.size + 1) w4 p.1 p.2) := fun p hp => by
        have h1 : LentF (w.heap.size + 1) w1 p.1 p.2 := by
          rcases List.mem_append.1 hp with hp | hp
          · exact (HD.out p hp).old HBb.out
          · obtain rfl := List.mem_singleton.1 hp
            exact HG.out.mono (by omega)
        exact (h1.old hB2).apart hgrow4 (by omega)
      have HB4 : Hid (Below w.heap.size w w4) := ((HB.out.trans (HBb.out.mono hbs)).trans (hB2.mono (by omega))).grown hgrow4 (Nat.le_trans (by omega) hB2.size) (fun q hq => by
        obtain rfl := Option.some.inj hq
        exact Nat.le_refl _)
      clear hown4 hgrow4 hB2 hbb hbs hHl HHl d0 d1 d2 HT KL HG HBb
      refine Lib.hid ?_
      go_wp2_with fail
      go_roundw
      case rel => exact ⟨k + 1, _, by omega, by go_num, rfl, HO4, HP4, HD4, HB4⟩
      case measure => simp [intOf]; omega
    · obtain rfl : k = fl.length := by omega
      have hP := HP.out
      rw [List.take_length] at hP
      have HP1 := Lib.hid hP
      clear hP HP
      have HO0 : Hid (wr.ownsRow w.heap.size 36 3 (.slice (some ⟨w.heap.size, 0, none⟩) (fl.length + 0) (fl.length + 12)) (fl.length + 0) (cellsF (ps ++ mkF 0))) := by
        rw [show mkF 0 = [] from rfl, List.append_nil]
        exact HO.out
      clear HO HS
      go_wp2_with fail
      go_loopw [3, 6] (fun v i wr => ∃ m : Nat, m ≤ 12 ∧ i = .int .i64 m ∧ v = .slice (some ⟨w.heap.size, 0, none⟩) (fl.length + m) (fl.length + 12) ∧ Hid (wr.ownsRow w.heap.size 36 3 (.slice (some ⟨w.heap.size, 0, none⟩) (fl.length + m) (fl.length + 12)) (fl.length + m) (cellsF (ps ++ mkF m))) ∧ Hid (∀ p, p ∈ ps → LentF (w.heap.size + 1) wr p.1 p.2) ∧ Hid (Below w.heap.size w wr)) (fun _ i _ => 12 - (intOf i).toNat)
      case atStart => exact ⟨0, by omega, rfl, rfl, HO0, HD, HB⟩
      case round =>
        clear HO0 HD HB
        obtain ⟨m, hm, rfl, rfl, HO, HD, HB⟩ := hrel
        by_cases hm2 : m < 12
        · have hmk : cellsF (ps ++ mkF (m + 1)) = cellsF (ps ++ mkF m) ++ [.int .i64 (8000024 + (m : Int)), .int .i64 0, .slice none 0 0] := by
            rw [mkF_succ, ← List.append_assoc, cellsF_append]
            rfl
          have HMk := Lib.hid hmk
          have KM := Lib.hid (fun W => markFact_any m W (by omega))
          clear hmk
          generalize (8000024 + (m : Int)) = x at HMk KM
          go_wp2_with (first
            | (go_at_call 53; go_must (refine (KM.out _).mono ?_; rintro e w1 ⟨rfl, hg⟩; have HBb := Lib.hid hg.below; clear hg))
            | (at_builtin; go_must (refine wpList_append_fits _ rfl _ _ 79 rfl w.heap.size 36 i0 3 Tryz.underlying79 hi hz1 w.heap.size (fl.length + m) (fl.length + 12) _ rfl (World.ownsRow.alloc (owns_below HO.out HBb.out) _) ⟨w1.heap.size, 0, none⟩ 1 1 [.int .i64 x, .int .i64 0, .slice none 0 0] rfl rfl (fun j u hu => by rw [Addr.add_lit, Nat.zero_add]; exact cells_made w1 _ _ j u (by simpa using hu)) (fun u hu => by simp at hu; rcases hu with rfl | rfl | rfl <;> rfl) (by omega) ?_; intro w4 hown4 hgrow4; refine Hid.out ?_)))
          have hB2 := below_own (w := w1) (.cells #[.int .i64 x, .int .i64 0, .slice none 0 0] 36)
          have hbb := HBb.out.size
          have hbs := HB.out.size
          have HO4 : Hid (w4.ownsRow w.heap.size 36 3 (.slice (some ⟨w.heap.size, 0, none⟩) (fl.length + (m + 1)) (fl.length + 12)) (fl.length + (m + 1)) (cellsF (ps ++ mkF (m + 1)))) := by
            rw [HMk.out]
            exact hown4
          have HD4 : Hid (∀ p, p ∈ ps → LentF (w.heap.size + 1) w4 p.1 p.2) := fun p hp => (((HD.out p hp).old HBb.out).old hB2).apart hgrow4 (by omega)
          have HB4 : Hid (Below w.heap.size w w4) := ((HB.out.trans (HBb.out.mono hbs)).trans (hB2.mono (by omega))).grown hgrow4 (Nat.le_trans (by omega) hB2.size) (fun q hq => by
            obtain rfl := Option.some.inj hq
            exact Nat.le_refl _)
          clear hown4 hgrow4 hB2 hbb hbs KM HMk HBb
          refine Lib.hid ?_
          go_wp2_with fail
          go_roundw
          case rel => exact ⟨m + 1, by omega, by go_num, rfl, HO4, HD4, HB4⟩
          case measure => simp [intOf]; omega
        · have hm12 : m = 12 := by omega
          subst hm12
          have HR : Hid (LentFs w.heap.size wr fl ps) := by
            have hown := HO.out
            rcases hown.2 with ⟨h', _⟩ | ⟨g', cap', cur, h', _, hg, _, _, hs, ht⟩
            · simp at h'
            · simp only [Value.slice.injEq, Option.some.injEq, Addr.mk.injEq, and_true, true_and] at h'
              obtain ⟨rfl, rfl⟩ := h'
              refine ⟨HP1.out, ⟨cur, hg, ?_⟩, fun p hp => (HD.out p hp).mono (Nat.le_succ _)⟩
              rw [← ht, List.take_of_length_le (by rw [Array.length_toList]; omega)]
          clear HO HD
          go_wp2
          go_ret
          exact ⟨_, rfl, HR.out, HB.out⟩

end Go.Proofs.YtnnhgbncghpecaaGreat
