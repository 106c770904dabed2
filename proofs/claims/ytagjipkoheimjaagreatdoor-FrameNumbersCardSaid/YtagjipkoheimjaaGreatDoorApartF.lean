/- Lists of frames that lie apart, and their data. -/
import Derived.Test.YtagjipkoheimjaaGreatDoorBagF
namespace Go.Proofs.YtagjipkoheimjaaGreatDoor
open Go.RowKit

/-- A row of frames: its head, and its frames' kinds and data. -/
abbrev RF := Hd × List (Int × Hd)
def dataR (rs : List RF) : List Hd := rs.flatMap fun r => r.2.map Prod.snd
theorem dataR_snoc (rs : List RF) (r : RF) : dataR (rs ++ [r]) = dataR rs ++ r.2.map Prod.snd := by
  unfold dataR
  rw [List.flatMap_append]
  simp
theorem dataR_le (rs : List RF) (k : Nat) : (dataR (rs.take k)).length ≤ (dataR rs).length := by
  have e : dataR rs = dataR (rs.take k) ++ dataR (rs.drop k) := by
    unfold dataR
    rw [← List.flatMap_append, List.take_append_drop]
  rw [e, List.length_append]
  omega

theorem Rows.fk {w w' : World} {base e e' size : Nat} {hs : List Hd} {X : Nat → List Value} (h : Rows w base e size hs X) (f : FK e' base w w') (he : e ≠ e') : Rows w' base e size hs X := by
  refine ⟨fun k hk => ?_, h.apart⟩
  have o := h.own k hk
  refine ⟨o.1, ?_⟩
  rcases o.2 with h1 | ⟨g, cap, cur, h1, hb, hg, r⟩
  · exact Or.inl h1
  · exact Or.inr ⟨g, cap, cur, h1, hb, f.oth _ _ _ _ hg he, r⟩

set_option maxRecDepth 100000 in
set_option maxHeartbeats 2000000 in
theorem apartFrames_any (base : Nat) (al : Option Addr) (n cl : Nat) (rs : List RF) (X X2 : Nat → List Value) (w : World) (hn : n = rs.length) (hB : base ≤ w.heap.size) (hR : Rows w base 5 1 (dataR rs) X) (hR2 : Rows w base 44 2 (rs.map Prod.fst) X2)
    (hL : LsAt w 22 al (rs.map Prod.fst)) (hS : ∀ r, r ∈ rs → r.2.length = r.1.2.1 ∧ SlG w.heap.size w r.1.1 (cellsFr (r.2.map fv))) (hK : rs.length ≤ 100000) (hK2 : (dataR rs).length ≤ 100000) (hN : ∀ h, h ∈ dataR rs → h.2.1 ≤ 100000) (hN2 : ∀ r, r ∈ rs → r.1.2.1 ≤ 100000) :
    Calls Tryz.prog 21 #[.slice al n cl] w (fun e w' => e = .returned (.bool true) ∧ Below base w w') := by
  subst hn
  have HR := Lib.hid hR
  have HR2 := Lib.hid hR2
  have HL := Lib.hid hL
  have HSl := Lib.hid hS
  have HN := Lib.hid hN
  have HN2 := Lib.hid hN2
  have HB := Lib.hid hB
  have HK2 := Lib.hid hK2
  have H0 : Hid ((w.alloc (.cells (bagC (.slice none 0 0) (.slice none 0 0)) 90)).heap[w.heap.size]? = some (.cells (bagC (.slice none (dataR (rs.take 0)).length 0) (.slice none 0 0)) 90 (0, 0))) := heap_alloc_new w _
  have HW0 := Lib.hid (below_own (w := w) (.cells (bagC (.slice none 0 0) (.slice none 0 0)) 90))
  have HO0 : Hid (OwnH (w.alloc (.cells (bagC (.slice none 0 0) (.slice none 0 0)) 90)) w.heap.size 26 1 (none, (dataR (rs.take 0)).length, 0) ((dataR (rs.take 0)).map hv)) := World.ownsRow_nil _ _ _ _
  have HF0 : Hid (OwnH (w.alloc (.cells (bagC (.slice none 0 0) (.slice none 0 0)) 90)) w.heap.size 22 1 (none, 0, 0) (((rs.take 0).map Prod.fst).map hv)) := World.ownsRow_nil _ _ _ _
  have HZ : Hid (w.heap.size ≤ w.heap.size) := Nat.le_refl _
  clear hR hR2 hL hS hN hN2 hB hK2
  go_enter Tryz.func21, Tryz.ntmps21
  go_wp2_with fail
  go_loopw [4] (fun ik wr => ∃ (k N : Nat) (bo fo : Option Addr) (c cf : Nat), k ≤ rs.length ∧ ik = .int .i64 k ∧ Hid (N = (dataR (rs.take k)).length) ∧ Hid (wr.heap[w.heap.size]? = some (.cells (bagC (.slice bo N c) (.slice fo k cf)) 90 (0, 0))) ∧ Hid (OwnH wr w.heap.size 26 1 (bo, N, c) ((dataR (rs.take k)).map hv)) ∧ Hid (OwnH wr w.heap.size 22 1 (fo, k, cf) (((rs.take k).map Prod.fst).map hv)) ∧ Hid (Below w.heap.size w wr)) (fun ik _ => rs.length - (intOf ik).toNat)
  case atStart => exact ⟨0, _, none, none, 0, 0, by omega, rfl, rfl, H0, HO0, HF0, HW0⟩
  case round =>
    clear H0 HO0 HF0 HW0
    obtain ⟨k, N, bo, fo, c, cf, hk, rfl, HNe, HP, HO, HF, HW⟩ := hrel
    by_cases hlt : k < rs.length
    · obtain ⟨lb, lo, rfl, hcl⟩ := LsAt.cell (w := wr) (T := 22) (al := al) (hs := rs.map Prod.fst) (LsAt.fk HL.out (FK.of_below HW.out HZ.out : FK 5 w.heap.size w wr) (by decide)) (by rw [List.length_map]; omega)
      have hck := hcl k (by rw [List.length_map]; exact hlt)
      rw [List.getElem_map] at hck
      obtain ⟨s1, s2⟩ := HSl.out rs[k] (List.getElem_mem hlt)
      have hdl := dataR_le rs (k + 1)
      have hT : rs.take (k + 1) = rs.take k ++ [rs[k]] := by
        rw [List.take_add_one, List.getElem?_eq_getElem hlt]
        rfl
      have hT2 : dataR (rs.take (k + 1)) = dataR (rs.take k) ++ (rs[k]).2.map Prod.snd := by rw [hT, dataR_snoc]
      have hT3 : (rs.take (k + 1)).map Prod.fst = (rs.take k).map Prod.fst ++ [(rs[k]).1] := by rw [hT, List.map_append]; rfl
      have hlen : N + (rs[k]).1.2.1 ≤ 100000 := by
        have := HK2.out
        have h5 := HNe.out
        rw [hT2, List.length_append, List.length_map, s1] at hdl
        omega
      have HNe1 : Hid (N + (rs[k]).1.2.1 = (dataR (rs.take (k + 1))).length) := by
        have h5 := HNe.out
        show _ = _
        rw [hT2, List.length_append, List.length_map, s1]
        omega
      have KP := Lib.hid (putFrames_any w.heap.size w.heap.size N k (dataR (rs.take k)) ((rs.take k).map Prod.fst) bo fo c cf (rs[k]).1.1 (rs[k]).1.2.1 (rs[k]).1.2.2 (rs[k]).2 wr s1 HW.out.size (Nat.le_refl _) HP.out HO.out HF.out (s2.below HW.out) (by omega) (by omega))
      rw [← hT2, show ((rs[k]).1.1, (rs[k]).1.2.1, (rs[k]).1.2.2) = (rs[k]).1 from rfl, ← hT3] at KP
      have hkl : (k : Int) < (rs.length : Int) := by omega
      clear hcl s1 s2 hdl hT hT2 hT3 hlen
      generalize (rs[k]).1 = h at hck KP HNe1
      obtain ⟨a, n, c1⟩ := h
      simp only [hv] at hck KP HNe1
      go_wp2_with (go_at_call 39; go_must (refine (KP.out).mono ?_; rintro e w1 ⟨rfl, bo1, c2, fo1, cf1, h1, h2, h3, h4⟩))
      have HP1 := Lib.hid h1
      have HO1 := Lib.hid h2
      have HF1 := Lib.hid h3
      have HW1 := Lib.hid (HW.out.trans h4)
      clear h1 h2 h3 h4 hck KP hkl
      go_roundw
      case rel => exact ⟨k + 1, _, bo1, fo1, c2, cf1, by omega, by go_num, HNe1, HP1, HO1, HF1, HW1⟩
      case measure => simp [intOf]; omega
    · obtain rfl : k = rs.length := by omega
      have hO := HO.out
      have hF := HF.out
      have hNe := HNe.out
      rw [List.take_length] at hO hF hNe
      subst hNe
      have HLs := Lib.hid (own_ls hO)
      have hF2 : OwnH wr w.heap.size 22 1 (fo, (rs.map Prod.fst).length, cf) ((rs.map Prod.fst).map hv) := by
        rw [List.length_map]
        exact hF
      have HLf := Lib.hid (own_ls hF2)
      have KA := Lib.hid (apart_any w.heap.size base (.slice bo (dataR rs).length c) (.slice fo rs.length cf) wr (Nat.le_trans HB.out HW.out.size) HP.out
        (fun W hW => flatB_any base bo c (dataR rs) X W (Nat.le_trans HB.out (Nat.le_trans HW.out.size hW.size)) (HR.out.below (HW.out.trans (hW.mono HW.out.size))) (LsAt.fk HLs.out (FK.of_below hW (Nat.le_refl _) : FK 5 wr.heap.size wr W) (by decide)) HK2.out HN.out)
        (fun W hW => by
          have h1 := flatF_any base fo cf (rs.map Prod.fst) X2 W (Nat.le_trans HB.out (Nat.le_trans HW.out.size hW.bel.size)) ((HR2.out.below HW.out).fk hW (by decide)) (LsAt.fk HLf.out hW (by decide)) (by rw [List.length_map]; exact hK) (fun h hh => by
            obtain ⟨r, hr, rfl⟩ := List.mem_map.1 hh
            exact HN2.out r hr)
          rw [List.length_map] at h1
          exact h1.mono fun e W' h => ⟨h.1, h.2.bel⟩))
      have HE := Lib.hid (HW.out.mono HB.out)
      clear hO hF hF2 HO HF HP HLs HLf HNe
      go_wp2_with (go_at_call 35; go_must (refine (KA.out).mono ?_; rintro e w1 ⟨rfl, h1⟩))
      go_ret
      exact ⟨rfl, HE.out.trans h1⟩
end Go.Proofs.YtagjipkoheimjaaGreatDoor
