/- What a bag is given; lists of bytes that lie apart. -/
import Derived.Test.YtnnhgbncghpecaaGreatApartV10
import Derived.Test.YtnnhgbncghpecaaGreatFlatV10
namespace Go.Proofs.YtnnhgbncghpecaaGreat
open Go.RowKit

theorem own_ls {w : World} {B T : Nat} {bo : Option Addr} {c : Nat} {hs : List Hd} (o : OwnH w B T 1 (bo, hs.length, c) (hs.map hv)) : LsAt w T bo hs := fun hl => by
  rcases o.2 with ⟨_, h2⟩ | ⟨g, cap, cur, h1, hb, hg, hnc, hcm, hcs, ht⟩
  · simp only at h2
    omega
  · simp only [Value.slice.injEq] at h1
    refine ⟨g, 0, cur, (0, 0), h1.1, hg, fun k hk => ?_⟩
    have h3 : (cur.toList.take (hs.length * 1))[k]? = (hs.map hv)[k]? := by rw [ht]
    rw [List.getElem?_take_of_lt (by omega), List.getElem?_map, List.getElem?_eq_getElem hk, Array.getElem?_toList] at h3
    rw [Nat.zero_add]
    exact h3

def GaveVP (pb B : Nat) (n : Nat) (vs : List Hd) (w : World) (e : Ending) (w' : World) : Prop :=
  e = .returned (.tuple #[]) ∧ ∃ bo c, w'.heap[pb]? = some (.cells (bagCVa (.slice bo n c)) 123 (0, 0)) ∧ OwnH w' B 34 1 (bo, n, c) (vs.map hv) ∧ Below B w w'

set_option maxRecDepth 100000 in
theorem putValues_any (pb B n : Nat) (vs : List Hd) (bo : Option Addr) (c : Nat) (l : Hd) (w : World) (hB : B ≤ w.heap.size) (hp : B ≤ pb) (h : w.heap[pb]? = some (.cells (bagCVa (.slice bo n c)) 123 (0, 0)))
    (ho : OwnH w B 34 1 (bo, n, c) (vs.map hv)) (hm : n ≤ 100000000) :
    Calls Tryz.prog 51 #[.pointer (some ⟨pb, 0, none⟩), hv l] w (GaveVP pb B (n + 1) (vs ++ [l]) w) := by
  have hT : (34 : Nat) ≠ 123 := by decide
  obtain ⟨i1, hj1, hy0, hy1, hy2⟩ := info_parts infoSXV
  have hc : w.cell? ⟨pb, 6, none⟩ = some (.slice bo n c) := Lib.cell_of_heap h 6
  have hlt := lt_of_heap h
  have hneq : pb ≠ w.heap.size := by omega
  have hown : (w.alloc (.cells #[hv l] 34)).ownsRow B 34 1 (.slice bo n c) n (vs.map hv) := World.ownsRow.alloc ho _
  have hbz : B ≤ (w.alloc (.cells #[hv l] 34)).heap.size := Nat.le_trans hB (below_own _).size
  have hpb := bag_keepVa h (below_own (.cells #[hv l] 34))
  have hne : (Value.slice bo n c).ownBlock ≠ some pb := fun e => by
    obtain ⟨cs, fz, h5⟩ := owns_tag ho pb e
    rw [h] at h5
    injection h5 with h5
    injection h5 with _ h6 _
    exact hT h6.symm
  have HK := Lib.hid (And.intro hB (And.intro hp (And.intro hpb (And.intro hne (below_own (w := w) (.cells #[hv l] 34))))))
  have HBz := Lib.hid hbz
  have HM := Lib.hid hm
  clear ho h hB hp hpb hne hbz hm
  go_enter Tryz.func51, Tryz.ntmps51
  go_wp2_with (at_builtin; go_must (refine wpList_append_own _ rfl (.tmp 8) (.tmp 10) 78 rfl B 34 i1 (.slice none 0 0) 1 24 Tryz.underlying78 hj1 hy0 hy1 hy2 rfl (by decide) _ _ _ rfl hown ⟨w.heap.size, 0, none⟩ 1 1 [hv l] rfl rfl (fun j u hu => by rw [Addr.add_lit, Nat.zero_add]; exact cells_made w _ _ j u (by simpa using hu)) (fun u hu => by simp at hu; subst hu; rfl) (by have := HM.out; unfold maxLen; omega) (by have := HM.out; omega) HBz.out ?_; intro v' w4 hown4 hgrow4 _; obtain ⟨bo4, c4, rfl⟩ := owns_slice hown4; refine Hid.out ?_))
  obtain ⟨hB, hp, hpb, hne, hbn⟩ := HK.out
  have hpb4 : w4.heap[pb]? = some (.cells (bagCVa (.slice bo n c)) 123 (0, 0)) := (hgrow4.block pb (lt_of_heap hpb) (fun e => hne e.symm)).trans hpb
  have hc4 : w4.cell? ⟨pb, 6, none⟩ = some (.slice bo n c) := Lib.cell_of_heap hpb4 6
  have hf4 : w4.frozen? ⟨pb, 6, none⟩ = false := Lib.frozen_of_heap hpb4 6
  have hb4 : Below B w w4 := (hbn.mono hB).grown hgrow4 HBz.out (fun b hb => (hown.lt b hb).1)
  have HE : Hid (GaveVP pb B (n + 1) (vs ++ [l]) w (.returned (.tuple #[])) (w4.setCell ⟨pb, 6, none⟩ (.slice bo4 (n + 1) c4))) := by
    refine ⟨rfl, bo4, c4, Lib.heap_setCell_same (i := 6) hpb4 _, ?_, hb4.setCell (p := ⟨pb, 6, none⟩) hp _⟩
    rw [List.map_append]
    exact owns_far hown4 hT (Lib.grownBy_setCell w4 pb 6 _) (fun q hq => by
      obtain rfl := Option.some.inj hq
      exact ⟨_, _, hpb4⟩)
  clear hpb hpb4 hne hbn hB hp hown hown4 hgrow4 hb4 hc hlt hneq HK HBz HM
  refine Lib.hid ?_
  go_wp2_with fail
  first | go_end0 | go_ret
  exact HE.out

set_option maxRecDepth 100000 in
set_option maxHeartbeats 2000000 in
theorem apartValues_any (base : Nat) (al : Option Addr) (n cl : Nat) (hs : List Hd) (X : Nat → List Value) (w : World) (hn : n = hs.length) (hB : base ≤ w.heap.size) (hR : Rows w base 27 3 hs X) (hL : LsAt w 34 al hs) (hK : hs.length ≤ 100000) (hN : ∀ h, h ∈ hs → h.2.1 ≤ 100000) :
    Calls Tryz.prog 34 #[.slice al n cl] w (fun e w' => e = .returned (.bool true) ∧ Below base w w') := by
  subst hn
  have HR := Lib.hid hR
  have HL := Lib.hid hL
  have HN := Lib.hid hN
  have HB := Lib.hid hB
  have H0 : Hid ((w.alloc (.cells (bagCVa (.slice none 0 0)) 123)).heap[w.heap.size]? = some (.cells (bagCVa (.slice none 0 0)) 123 (0, 0))) := heap_alloc_new w _
  have HW0 := Lib.hid (below_own (w := w) (.cells (bagCVa (.slice none 0 0)) 123))
  have HO0 : Hid (OwnH (w.alloc (.cells (bagCVa (.slice none 0 0)) 123)) w.heap.size 34 1 (none, 0, 0) (([] : List Hd).map hv)) := World.ownsRow_nil _ _ _ _
  have HZ : Hid (w.heap.size ≤ w.heap.size) := Nat.le_refl _
  clear hR hL hN hB
  go_enter Tryz.func34, Tryz.ntmps34
  go_wp2_with fail
  go_loopw [4] (fun ik wr => ∃ (k : Nat) (bo : Option Addr) (c : Nat), k ≤ hs.length ∧ ik = .int .i64 k ∧ Hid (wr.heap[w.heap.size]? = some (.cells (bagCVa (.slice bo k c)) 123 (0, 0))) ∧ Hid (OwnH wr w.heap.size 34 1 (bo, k, c) ((hs.take k).map hv)) ∧ Hid (Below w.heap.size w wr)) (fun ik _ => hs.length - (intOf ik).toNat)
  case atStart => exact ⟨0, none, 0, by omega, rfl, H0, HO0, HW0⟩
  case round =>
    clear H0 HO0 HW0
    obtain ⟨k, bo, c, hk, rfl, HP, HO, HW⟩ := hrel
    by_cases hlt : k < hs.length
    · obtain ⟨lb, lo, rfl, hcl⟩ := LsAt.cell (w := wr) (T := 34) (al := al) (hs := hs) (LsAt.fk HL.out (FK.of_below HW.out HZ.out : FK 27 w.heap.size w wr) (by decide)) (by omega)
      have hck := hcl k hlt
      have KP := Lib.hid (putValues_any w.heap.size w.heap.size k (hs.take k) bo c hs[k] wr HW.out.size (Nat.le_refl _) HP.out HO.out (by omega))
      rw [show hs.take k ++ [hs[k]] = hs.take (k + 1) by rw [List.take_add_one, List.getElem?_eq_getElem hlt]; rfl] at KP
      have hkl : (k : Int) < (hs.length : Int) := by omega
      clear hcl
      generalize hs[k] = h at hck KP
      obtain ⟨a, n, c1⟩ := h
      simp only [hv] at hck KP
      go_wp2_with (go_at_call 51; go_must (refine (KP.out).mono ?_; rintro e w1 ⟨rfl, bo1, c2, h1, h2, h3⟩))
      have HP1 := Lib.hid h1
      have HO1 := Lib.hid h2
      have HW1 := Lib.hid (HW.out.trans h3)
      clear h1 h2 h3 hck KP hkl
      go_roundw
      case rel => exact ⟨k + 1, bo1, c2, by omega, by go_num, HP1, HO1, HW1⟩
      case measure => simp [intOf]; omega
    · obtain rfl : k = hs.length := by omega
      have hO := HO.out
      rw [List.take_length] at hO
      have HLs := Lib.hid (own_ls hO)
      have KA := Lib.hid (apartVa_any w.heap.size base (.slice bo hs.length c) wr (Nat.le_trans HB.out HW.out.size) HP.out
        (fun W hW => flatV_any base bo c hs X W (Nat.le_trans HB.out (Nat.le_trans HW.out.size hW.size)) (HR.out.below (HW.out.trans (hW.mono HW.out.size))) (LsAt.fk HLs.out (FK.of_below hW (Nat.le_refl _) : FK 27 wr.heap.size wr W) (by decide)) hK HN.out))
      have HE := Lib.hid (HW.out.mono HB.out)
      clear hO HO HP HLs
      go_wp2_with (go_at_call 52; go_must (refine (KA.out).mono ?_; rintro e w1 ⟨rfl, h1⟩))
      go_ret
      exact ⟨rfl, HE.out.trans h1⟩
end Go.Proofs.YtnnhgbncghpecaaGreat
