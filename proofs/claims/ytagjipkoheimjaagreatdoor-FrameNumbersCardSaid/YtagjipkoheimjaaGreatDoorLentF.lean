/- Frames that are lent: a row of their own, marks behind it, and each one's data lent too. -/
import Derived.Test.YtagjipkoheimjaaGreatDoorGr
namespace Go.Proofs.YtagjipkoheimjaaGreatDoor
open Go.RowKit

def lv (p : FR × Nat) : FR × Value := (p.1, .slice (some ⟨p.2, 0, none⟩) p.1.2.length (p.1.2.length + 12))
def mkF (n : Nat) : List (FR × Value) := (List.range n).map fun (i : Nat) => ((1000003 * (1 + 7) + (i : Int), []), .slice none 0 0)
theorem mkF_succ (n : Nat) : mkF (n + 1) = mkF n ++ [((1000003 * (1 + 7) + (n : Int), []), .slice none 0 0)] := by
  unfold mkF
  rw [List.range_succ, List.map_append]
  rfl
theorem mkF_length (n : Nat) : (mkF n).length = n := by simp [mkF]

/-- Data that are lent, each at a block of its own. -/
structure LentD (w : World) (base : Nat) (ps : List (FR × Nat)) : Prop where
  lent : ∀ p, p ∈ ps → LentAt w p.2 p.1.2 ∧ base ≤ p.2
  nodup : (ps.map Prod.snd).Nodup
theorem LentD.below {w w' : World} {base : Nat} {ps : List (FR × Nat)} (h : LentD w base ps) (b : Below w.heap.size w w') : LentD w' base ps :=
  ⟨fun p hp => ⟨(h.lent p hp).1.below b, (h.lent p hp).2⟩, h.nodup⟩
theorem LentD.far {w w' : World} {base g : Nat} {ps : List (FR × Nat)} {cs : Array Value} {t : TypeId} {fz : Nat × Nat} (h : LentD w base ps) (b : w.grownBy w' (some g)) (hg : w.heap[g]? = some (.cells cs t fz)) (ht : t ≠ 5) : LentD w' base ps :=
  ⟨fun p hp => ⟨(h.lent p hp).1.keep (b.block p.2 (h.lent p hp).1.size (fun e => by
    obtain ⟨cur, h1, _⟩ := (h.lent p hp).1
    obtain rfl := Option.some.inj e
    rw [hg] at h1
    injection h1 with h1
    injection h1 with _ h2 _
    exact ht h2)), (h.lent p hp).2⟩, h.nodup⟩
theorem LentD.snoc {w : World} {base : Nat} {ps : List (FR × Nat)} {p : FR × Nat} (h : LentD w base ps) (hp : LentAt w p.2 p.1.2) (hb : base ≤ p.2) (hn : ∀ q, q ∈ ps → q.2 ≠ p.2) : LentD w base (ps ++ [p]) := by
  refine ⟨fun q hq => ?_, ?_⟩
  · rcases List.mem_append.1 hq with hq | hq
    · exact h.lent q hq
    · obtain rfl : q = p := by simpa using hq
      exact ⟨hp, hb⟩
  · rw [List.map_append, List.nodup_append]
    refine ⟨h.nodup, by simp, ?_⟩
    intro a ha b hb' e
    obtain ⟨q, hq, rfl⟩ := List.mem_map.1 ha
    simp at hb'
    exact hn q hq (e.trans hb')

def LentFP (k : Int) (d : List UInt8) (w : World) (e : Ending) (w' : World) : Prop :=
  ∃ g, e = .returned (.agg #[.int .i64 k, .slice (some ⟨g, 0, none⟩) d.length (d.length + 12)]) ∧ LentAt w' g d ∧ w.heap.size ≤ g ∧ Below w.heap.size w w'

theorem two_frozen {w w1 : World} {c1 c2 : Array Value} {t1 t2 : TypeId} (h : Below ((w.alloc (.cells c1 t1)).alloc (.cells c2 t2)).heap.size ((w.alloc (.cells c1 t1)).alloc (.cells c2 t2)) w1) :
    (∀ j, w1.frozen? ⟨w.heap.size, j, none⟩ = false) ∧ (∀ j, w1.frozen? ⟨w.heap.size + 1, j, none⟩ = false) := by
  have e1 : ((w.alloc (.cells c1 t1)).alloc (.cells c2 t2)).heap[w.heap.size]? = some (.cells c1 t1 (0, 0)) := by
    rw [Below.heap_alloc _ _ _ (by simp)]
    exact heap_alloc_new w _
  have e2 : ((w.alloc (.cells c1 t1)).alloc (.cells c2 t2)).heap[w.heap.size + 1]? = some (.cells c2 t2 (0, 0)) := by
    have := heap_alloc_new (w.alloc (.cells c1 t1)) (.cells c2 t2)
    simpa using this
  exact ⟨fun j => Lib.frozen_of_heap ((h.block _ (by simp; omega)).trans e1) j, fun j => Lib.frozen_of_heap ((h.block _ (by simp)).trans e2) j⟩

theorem lentFrame_any (k : Int) (d : List UInt8) (ao : Option Addr) (c : Nat) (hl : d.length ≤ 100000) (w : World) (hs : SlG w.heap.size w ao (bcells d)) (hn : ao = none → c = 0) :
    Calls Tryz.prog 24 #[.agg #[.int .i64 k, .slice ao d.length c]] w (LentFP k d w) := by
  have HB := Lib.hid (below_two w (.cells #[.int .i64 k, .slice ao d.length c] 44) (.cells #[.int .i64 0, .slice none 0 0] 44))
  have HL := Lib.hid (lentB_any ao c d _ hl ((hs.up HB.out HB.out.size).slB hn))
  clear hs hn hl
  go_enter Tryz.func24, Tryz.ntmps24
  go_wp2_with (go_at_call 15; go_must (refine (HL.out).mono ?_; rintro e w1 ⟨rfl, hg, hb⟩; obtain ⟨b1, b2⟩ := two_boxes hb; obtain ⟨b3, b4⟩ := two_frozen hb; have HG := Lib.hid hg; have HBb := Lib.hid hb; clear hg hb))
  have hz : ((w.alloc (.cells #[.int .i64 k, .slice ao d.length c] 44)).alloc (.cells #[.int .i64 0, .slice none 0 0] 44)).heap.size = w.heap.size + 1 + 1 := by simp
  have hG := HG.out
  rw [hz] at hG
  have hbig := hG.size
  have hsz : w.heap.size + 1 + 1 < w1.heap.size := hbig
  have step : ∀ (W : World) (q i : Nat) (v : Value), LentAt W (w.heap.size + 1 + 1) d → q ≠ w.heap.size + 1 + 1 → LentAt (W.setCell ⟨q, i, none⟩ v) (w.heap.size + 1 + 1) d := fun W q i v h hq => h.keep ((Lib.grownBy_setCell W q i v).block _ h.size (fun e => hq (Option.some.inj e).symm))
  refine bodyPost_ret (v := .agg #[.int .i64 k, .slice (some ⟨w.heap.size + 1 + 1, 0, none⟩) d.length (d.length + 12)]) (by simp [results, Tryz.results24, go_sem, b2]) rfl ⟨w.heap.size + 1 + 1, rfl, step _ _ _ _ (step _ _ _ _ (step _ _ _ _ hG (by omega)) (by omega)) (by omega), by omega, ?_⟩
  have hB1 : Below w.heap.size w w1 := HB.out.trans (HBb.out.mono HB.out.size)
  exact (((hB1.setCell (p := ⟨w.heap.size, 1, none⟩) (Nat.le_refl _) _).setCell (p := ⟨w.heap.size + 1, 0, none⟩) (Nat.le_succ _) _).setCell (p := ⟨w.heap.size + 1, 1, none⟩) (Nat.le_succ _) _)

theorem LentD.apart {w w' : World} {base g : Nat} {ps : List (FR × Nat)} (h : LentD w base ps) (b : w.grownBy w' (some g)) (hg : ∀ p, p ∈ ps → p.2 ≠ g) : LentD w' base ps :=
  ⟨fun p hp => ⟨(h.lent p hp).1.keep (b.block p.2 (h.lent p hp).1.size (fun e => hg p hp (Option.some.inj e))), (h.lent p hp).2⟩, h.nodup⟩
theorem cells_made_at (w : World) (g : Nat) (cs : Array Value) (t : TypeId) (hg : g = w.heap.size) (j : Nat) (u : Value) (h : cs[j]? = some u) : (w.alloc (.cells cs t)).cell? ⟨g, j, none⟩ = some u := by
  subst hg
  exact cells_made w cs t j u h

def LentRow (w : World) (g : Nat) (ps : List (FR × Nat)) : Prop := ∃ cur, w.heap[g]? = some (.cells cur 44 (0, 0)) ∧ cur.toList = cellsFr (ps.map lv ++ mkF 12)
def LentFsP (l : List FR) (w : World) (e : Ending) (w' : World) : Prop :=
  ∃ ps, e = .returned (.slice (some ⟨w.heap.size, 0, none⟩) l.length (l.length + 12)) ∧ LentRow w' w.heap.size ps ∧ LentD w' (w.heap.size + 1) ps ∧ ps.map Prod.fst = l ∧ Below w.heap.size w w'

set_option maxRecDepth 100000 in
set_option maxHeartbeats 2000000 in
theorem lentFrames_any (ao : Option Addr) (l : List FR) (c : Nat) (hl : l.length ≤ 100000) (hk : ∀ f, f ∈ l → f.2.length ≤ 100000) (w : World) (hs : SlFr w.heap.size w ao l) :
    Calls Tryz.prog 8 #[.slice ao l.length c] w (LentFsP l w) := by
  obtain ⟨i0, hi, hz0, hz1, hz2⟩ := info_parts infoFr
  have HS := Lib.hid hs
  have HK := Lib.hid hk
  clear hs hk
  go_enter Tryz.func8, Tryz.ntmps8
  go_wp2_with (at_make; go_must (refine wpList_make_own _ rfl _ _ 22 rfl w.heap.size 44 i0 (.agg #[.int .i64 0, .slice none 0 0]) 2 Tryz.underlying22 hi hz0 hz1 .i64 .i64 _ (l.length + 12) rfl rfl (by omega) (by rw [hz2]; omega) (by unfold maxLen; omega) (Nat.le_refl _) ?_; intro w0 hown0 hgrow0))
  have HB0 : Hid (Below w.heap.size w w0) := (Below.refl _ _).grown hgrow0 (Nat.le_refl _) (fun k h => by cases h)
  have HO0 : Hid (w0.ownsRow w.heap.size 44 2 (.slice (some ⟨w.heap.size, 0, none⟩) 0 (l.length + 12)) 0 (cellsFr (([] : List (FR × Nat)).map lv))) := hown0
  clear hown0 hgrow0
  go_loopw [3, 4] (fun v i wr => ∃ (k : Nat) (ps : List (FR × Nat)), k ≤ l.length ∧ i = .int .i64 k ∧ v = .slice (some ⟨w.heap.size, 0, none⟩) k (l.length + 12) ∧ Hid (wr.ownsRow w.heap.size 44 2 (.slice (some ⟨w.heap.size, 0, none⟩) k (l.length + 12)) k (cellsFr (ps.map lv))) ∧ Hid (ps.map Prod.fst = l.take k) ∧ Hid (LentD wr (w.heap.size + 1) ps) ∧ Hid (Below w.heap.size w wr)) (fun _ i _ => l.length - (intOf i).toNat)
  case atStart => exact ⟨0, [], by omega, rfl, rfl, HO0, rfl, ⟨fun p hp => (by cases hp), List.nodup_nil⟩, HB0⟩
  case round =>
    obtain ⟨k, ps, hk, rfl, rfl, HO, HP, HD, HB⟩ := hrel
    clear HO0 HB0
    by_cases hlt : k < l.length
    · obtain ⟨sb, off, rfl, hsb, hc⟩ := (HS.out.below HB.out).at (by omega)
      obtain ⟨a1, c1, k1, k2, hx, hn⟩ := hc k hlt
      have HT := Lib.hid (show l.take (k + 1) = l.take k ++ [l[k]] by rw [List.take_add_one, List.getElem?_eq_getElem hlt]; rfl)
      have hd := HK.out l[k] (List.getElem_mem hlt)
      have HX := Lib.hid hx
      have hown := HO.out
      have hbl := (hown.lt w.heap.size rfl).2
      have hkl : (k : Int) < (l.length : Int) := by omega
      have hlt2 : k + 1 ≤ l.length + 12 := by omega
      have HHl := Lib.hid (And.intro hbl hown)
      clear hc hx hown
      generalize (l[k]'hlt) = f at k1 k2 HT hd HX hn
      obtain ⟨x, d⟩ := f
      simp only at k1 k2 hd HX
      have KL := Lib.hid (lentFrame_any x d a1 c1 hd wr (HX.out.up (Below.refl _ _) HB.out.size) hn)
      clear hbl hd hn
      go_wp2_with (first
        | (go_at_call 24; go_must (refine (KL.out).mono ?_; rintro e w1 ⟨g, rfl, hg, hgz, hb⟩; have HG := Lib.hid hg; have HGz := Lib.hid hgz; have HBb := Lib.hid hb; clear hg hb hgz))
        | (at_builtin; go_must (refine wpList_append_fits _ rfl (.tmp 22) (.tmp 24) 22 rfl w.heap.size 44 i0 2 Tryz.underlying22 hi hz1 w.heap.size k (l.length + 12) _ rfl (World.ownsRow.alloc (World.ownsRow.alloc (owns_below HO.out HBb.out) _) _) ⟨w1.heap.size + 1, 0, none⟩ 1 1 [.int .i64 x, .slice (some ⟨g, 0, none⟩) d.length (d.length + 12)] rfl rfl (fun j u hu => by rw [Addr.add_lit, Nat.zero_add]; exact cells_made2 w1 _ _ _ j u (by simpa using hu)) (fun u hu => by simp at hu; rcases hu with rfl | rfl <;> rfl) hlt2 ?_; intro w4 hown4 hgrow4; refine Hid.out ?_)))
      have hB2 := below_two w1 (.cells #[.int .i64 x, .slice (some ⟨g, 0, none⟩) d.length (d.length + 12)] 44) (.cells #[.int .i64 x, .slice (some ⟨g, 0, none⟩) d.length (d.length + 12)] 44)
      have hgl := HG.out.size
      have hbb := HBb.out.size
      have hbs := HB.out.size
      have hgz := HGz.out
      have hHl := HHl.out.1
      have HO4 : Hid (w4.ownsRow w.heap.size 44 2 (.slice (some ⟨w.heap.size, 0, none⟩) (k + 1) (l.length + 12)) (k + 1) (cellsFr ((ps ++ [((x, d), g)]).map lv))) := by
        rw [List.map_append, cellsFr_append]
        exact hown4
      have HP4 : Hid ((ps ++ [((x, d), g)]).map Prod.fst = l.take (k + 1)) := by
        rw [HT.out, List.map_append, HP.out]
        rfl
      have HD4 : Hid (LentD w4 (w.heap.size + 1) (ps ++ [((x, d), g)])) := by
        have h1 : LentD w1 (w.heap.size + 1) (ps ++ [((x, d), g)]) := (HD.out.below HBb.out).snoc HG.out (by omega) (fun q hq => by
          have := (HD.out.lent q hq).1.size
          simp only
          omega)
        refine (h1.below hB2).apart hgrow4 (fun p hp => ?_)
        have := (h1.lent p hp).2
        omega
      have HB4 : Hid (Below w.heap.size w w4) := ((HB.out.trans (HBb.out.mono hbs)).trans (hB2.mono (by omega))).grown hgrow4 (Nat.le_trans (by omega) hB2.size) (fun q hq => by
        obtain rfl := Option.some.inj hq
        exact Nat.le_refl _)
      clear hown4 hgrow4 hB2 hgl hbb hbs hgz hHl HHl k1 k2 HT HX KL HG HGz HBb
      refine Lib.hid ?_
      go_wp2_with fail
      go_roundw
      case rel => exact ⟨k + 1, _, by omega, by go_num, rfl, HO4, HP4, HD4, HB4⟩
      case measure => simp [intOf]; omega
    · obtain rfl : k = l.length := by omega
      have hP := HP.out
      rw [List.take_length] at hP
      have HP1 := Lib.hid hP
      clear hP HP
      have HO0 : Hid (wr.ownsRow w.heap.size 44 2 (.slice (some ⟨w.heap.size, 0, none⟩) l.length (l.length + 12)) l.length (cellsFr (ps.map lv ++ mkF 0))) := by
        rw [show mkF 0 = [] from rfl, List.append_nil]
        exact HO.out
      clear HO
      go_wp2_with fail
      go_loopw [3, 6] (fun v i wr => ∃ m : Nat, m ≤ 12 ∧ i = .int .i64 m ∧ v = .slice (some ⟨w.heap.size, 0, none⟩) (l.length + m) (l.length + 12) ∧ Hid (wr.ownsRow w.heap.size 44 2 (.slice (some ⟨w.heap.size, 0, none⟩) (l.length + m) (l.length + 12)) (l.length + m) (cellsFr (ps.map lv ++ mkF m))) ∧ Hid (LentD wr (w.heap.size + 1) ps) ∧ Hid (Below w.heap.size w wr)) (fun _ i _ => 12 - (intOf i).toNat)
      case atStart => exact ⟨0, by omega, rfl, rfl, HO0, HD, HB⟩
      case round =>
        clear HO0 HD HB
        obtain ⟨m, hm, rfl, rfl, HO, HD, HB⟩ := hrel
        by_cases hm2 : m < 12
        · have hmk : cellsFr (ps.map lv ++ mkF (m + 1)) = cellsFr (ps.map lv ++ mkF m) ++ [.int .i64 (1000003 * (1 + 7) + (m : Int)), .slice none 0 0] := by
            rw [mkF_succ, ← List.append_assoc, cellsFr_append]
            rfl
          have HMk := Lib.hid hmk
          have KM := Lib.hid (fun W => markFrameG 1 (m : Int) (by omega) (by omega) (by omega) (by omega) W)
          clear hmk
          generalize (1000003 * (1 + 7) + (m : Int)) = x at HMk KM
          go_wp2_with (first
            | (go_at_call 25; go_must (refine (KM.out _).mono ?_; rintro e w1 ⟨rfl, hg⟩; have HBb := Lib.hid hg.below; clear hg))
            | (at_builtin; go_must (refine wpList_append_fits _ rfl (.tmp 30) (.tmp 33) 22 rfl w.heap.size 44 i0 2 Tryz.underlying22 hi hz1 w.heap.size (l.length + m) (l.length + 12) _ rfl (World.ownsRow.alloc (owns_below HO.out HBb.out) _) ⟨w1.heap.size, 0, none⟩ 1 1 [.int .i64 x, .slice none 0 0] rfl rfl (fun j u hu => by rw [Addr.add_lit, Nat.zero_add]; exact cells_made w1 _ _ j u (by simpa using hu)) (fun u hu => by simp at hu; rcases hu with rfl | rfl <;> rfl) (by omega) ?_; intro w4 hown4 hgrow4; refine Hid.out ?_)))
          have hB2 := below_own (w := w1) (.cells #[.int .i64 x, .slice none 0 0] 44)
          have hbb := HBb.out.size
          have hbs := HB.out.size
          have HO4 : Hid (w4.ownsRow w.heap.size 44 2 (.slice (some ⟨w.heap.size, 0, none⟩) (l.length + (m + 1)) (l.length + 12)) (l.length + (m + 1)) (cellsFr (ps.map lv ++ mkF (m + 1)))) := by
            rw [HMk.out]
            exact hown4
          have HD4 : Hid (LentD w4 (w.heap.size + 1) ps) := by
            refine ((HD.out.below HBb.out).below hB2).apart hgrow4 (fun p hp => ?_)
            have := (HD.out.lent p hp).2
            omega
          have HB4 : Hid (Below w.heap.size w w4) := ((HB.out.trans (HBb.out.mono hbs)).trans (hB2.mono (by omega))).grown hgrow4 (Nat.le_trans (by omega) hB2.size) (fun q hq => by
            obtain rfl := Option.some.inj hq
            exact Nat.le_refl _)
          clear hown4 hgrow4 hB2 hbb hbs KM HMk HBb
          refine Lib.hid ?_
          go_wp2_with fail
          go_roundw
          case rel => exact ⟨m + 1, by omega, by go_num, rfl, HO4, HD4, HB4⟩
          case measure => simp [intOf]; omega
        · have hm12 : m = 12 := by omega
          subst hm12
          have HR : LentRow wr w.heap.size ps := by
            have hown := HO.out
            rcases hown.2 with ⟨h', _⟩ | ⟨g', cap', cur, h', _, hg, _, _, hs, ht⟩
            · simp at h'
            · simp only [Value.slice.injEq, Option.some.injEq, Addr.mk.injEq, and_true, true_and] at h'
              obtain ⟨rfl, rfl⟩ := h'
              refine ⟨cur, hg, ?_⟩
              rw [← ht, List.take_of_length_le (by rw [Array.length_toList]; omega)]
          have HR' := Lib.hid HR
          clear HR HO
          go_wp2
          go_ret
          exact ⟨ps, rfl, HR'.out, HD.out, HP1.out, HB.out⟩
end Go.Proofs.YtagjipkoheimjaaGreatDoor
