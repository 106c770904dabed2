/- Frames that were lent are written over. -/
import Derived.Test.YtagjipkoheimjaaGreatDoorKeptF
import Derived.Test.YtagjipkoheimjaaGreatDoorOverB
namespace Go.Proofs.YtagjipkoheimjaaGreatDoor
open Go.RowKit

/-- Nothing but what is in S, and what is new, is touched. -/
structure Touch (S : Nat → Prop) (w w' : World) : Prop where
  os : w'.os = w.os
  tape : w'.tape = w.tape
  output : w'.output = w.output
  size : w.heap.size ≤ w'.heap.size
  block : ∀ j, j < w.heap.size → ¬ S j → w'.heap[j]? = w.heap[j]?
theorem Touch.refl (S : Nat → Prop) (w : World) : Touch S w w := ⟨rfl, rfl, rfl, Nat.le_refl _, fun _ _ _ => rfl⟩
theorem Touch.grown {S : Nat → Prop} {a b c : World} {row : Option Nat} (h : Touch S a b) (g : b.grownBy c row) (hr : ∀ q, row = some q → S q ∨ a.heap.size ≤ q) : Touch S a c :=
  ⟨g.os.trans h.os, g.tape.trans h.tape, g.output.trans h.output, Nat.le_trans h.size g.size, fun j hj hs => (g.block j (Nat.lt_of_lt_of_le hj h.size) (fun e => by
    rcases hr j e.symm with h1 | h1
    · exact hs h1
    · omega)).trans (h.block j hj hs)⟩
theorem Touch.step {S : Nat → Prop} {a b c : World} (h : Touch S a b) (g : Below b.heap.size b c) : Touch S a c :=
  ⟨g.os.trans h.os, g.tape.trans h.tape, g.output.trans h.output, Nat.le_trans h.size g.size, fun j hj hs => (g.block j (Nat.lt_of_lt_of_le hj h.size)).trans (h.block j hj hs)⟩
theorem Touch.below {S : Nat → Prop} {w w' : World} {B : Nat} (h : Touch S w w') (hB : B ≤ w.heap.size) (hS : ∀ j, S j → B ≤ j) : Below B w w' :=
  ⟨h.os, h.tape, h.output, h.size, fun j hj => h.block j (by omega) (fun e => by have := hS j e; omega)⟩

/-- The blocks that were lent: the row's, and those of the data. -/
def LentS (g : Nat) (ps : List (FR × Nat)) (j : Nat) : Prop := j = g ∨ ∃ p, p ∈ ps ∧ p.2 = j

theorem heap_keep {W W' : World} {b : Nat} {o : Obj} (h : W.heap[b]? = some o) (hb : Below W.heap.size W W') : W'.heap[b]? = some o := (hb.block b (lt_of_heap h)).trans h

theorem overFrame_any (k : Int) (d : List UInt8) (g : Nat) (hl : d.length ≤ 90000) (w : World) (hg : LentAt w g d) :
    Calls Tryz.prog 31 #[.agg #[.int .i64 k, .slice (some ⟨g, 0, none⟩) d.length (d.length + 12)]] w fun e w' => e = .returned (.tuple #[]) ∧ w.grownBy w' (some g) := by
  have HO := Lib.hid (overB_any g d (w.alloc (.cells #[.int .i64 k, .slice (some ⟨g, 0, none⟩) d.length (d.length + 12)] 44)) hl (hg.below (below_own _)))
  have HG := Lib.hid ((Fr.refl g w).alloc (.cells #[.int .i64 k, .slice (some ⟨g, 0, none⟩) d.length (d.length + 12)] 44))
  clear hg hl
  go_enter Tryz.func31, Tryz.ntmps31
  go_wp2_with (go_at_call 18; go_must (refine (HO.out).mono ?_; rintro e w1 ⟨rfl, hb⟩; have HE := Lib.hid (HG.out.trans hb); clear hb))
  first | go_end0 | go_ret
  exact ⟨rfl, HE.out⟩

set_option maxRecDepth 100000 in
set_option maxHeartbeats 2000000 in
theorem overFrames_any (g : Nat) (l : List FR) (ps : List (FR × Nat)) (hp : ps.map Prod.fst = l) (hl : l.length ≤ 90000) (hk : ∀ f, f ∈ l → f.2.length ≤ 90000) (w : World) (hg : LentRow w g ps) (hd : LentD w (g + 1) ps) :
    Calls Tryz.prog 11 #[.slice (some ⟨g, 0, none⟩) l.length (l.length + 12)] w fun e w' => e = .returned (.tuple #[]) ∧ Touch (LentS g ps) w w' := by
  have hpl : ps.length = l.length := by rw [← hp, List.length_map]
  have HP := Lib.hid (And.intro hp hpl)
  have HG := Lib.hid hg
  have HD := Lib.hid hd
  have HD0 : Hid (∀ j, 0 ≤ j → (hj : j < ps.length) → LentAt w (ps[j]).2 (ps[j]).1.2) := fun j _ hj => (hd.lent _ (List.getElem_mem hj)).1
  have HK := Lib.hid hk
  clear hg hd hk hp hpl
  go_enter Tryz.func11, Tryz.ntmps11
  go_wp2
  go_loopw [2] (fun i wr => ∃ k : Nat, k ≤ l.length ∧ i = .int .i64 k ∧ Hid (∀ j, k ≤ j → (hj : j < ps.length) → LentAt wr (ps[j]).2 (ps[j]).1.2) ∧ Hid (LentRow wr g ps) ∧ Hid (Touch (LentS g ps) w wr)) (fun i _ => l.length - (intOf i).toNat)
  case atStart => exact ⟨0, by omega, rfl, HD0, HG, Touch.refl _ _⟩
  case round =>
    clear HD0 HG
    obtain ⟨k, hk, rfl, HL, HG, HT⟩ := hrel
    by_cases hlt : k < l.length
    · obtain ⟨hp, hpl⟩ := HP.out
      have hkp : k < ps.length := by omega
      obtain ⟨o1, o2⟩ := HG.out.at k hkp
      have hld := HL.out k (Nat.le_refl _) hkp
      have he : (ps[k]).1 = l[k] := by
        have : (ps.map Prod.fst)[k]'(by rw [List.length_map]; exact hkp) = l[k] := by simp only [hp]
        rw [← this, List.getElem_map]
      have hdl := HK.out l[k] (List.getElem_mem hlt)
      rw [← he] at hdl
      have hmem := HD.out.lent ps[k] (List.getElem_mem hkp)
      have HNext : Hid (∀ wb, wr.grownBy wb (some (ps[k]).2) → (∀ j, k + 1 ≤ j → (hj : j < ps.length) → LentAt wb (ps[j]).2 (ps[j]).1.2) ∧ LentRow wb g ps ∧ Touch (LentS g ps) w wb) := fun wb hb => by
        refine ⟨fun j hj1 hj2 => ?_, ?_, HT.out.grown hb (fun q hq => Or.inl (Or.inr ⟨_, List.getElem_mem hkp, Option.some.inj hq⟩))⟩
        · have h1 := HL.out j (by omega) hj2
          refine h1.keep (hb.block _ h1.size (fun e => ?_))
          have hn := List.pairwise_iff_getElem.1 HD.out.nodup k j (by rw [List.length_map]; exact hkp) (by rw [List.length_map]; exact hj2) (by omega)
          rw [List.getElem_map, List.getElem_map] at hn
          exact hn (Option.some.inj e).symm
        · obtain ⟨cur, h1, h2⟩ := HG.out
          refine ⟨cur, (hb.block g (lt_of_heap h1) (fun e => ?_)).trans h1, h2⟩
          have := hmem.2
          have := Option.some.inj e
          omega
      clear he hp hpl hmem
      generalize ps[k] = p at o1 o2 hld hdl HNext
      obtain ⟨⟨x, d⟩, g1⟩ := p
      simp only at o1 o2 hld hdl HNext
      have KO := Lib.hid (overFrame_any x d g1 hdl wr hld)
      have hkl : (k : Int) < (l.length : Int) := by omega
      clear hld hdl hkp
      go_wp2_with (go_at_call 31; go_must (refine (KO.out).mono ?_; rintro e w1 ⟨rfl, hb⟩; obtain ⟨n1, n2, n3⟩ := HNext.out w1 hb; have HL1 := Lib.hid n1; have HG1 := Lib.hid n2; have HT1 := Lib.hid n3; clear hb n1 n2 n3))
      clear o1 o2 KO HNext hkl
      go_roundw
      case rel => exact ⟨k + 1, by omega, by go_num, HL1, HG1, HT1⟩
      case measure => simp [intOf]; omega
    · obtain rfl : k = l.length := by omega
      obtain ⟨hp, hpl⟩ := HP.out
      obtain ⟨cur, h1, h2⟩ := HG.out
      have hcs : cur.size = (l.length + 12) * 2 := by rw [← Array.length_toList, h2, cellsFr_length, List.length_append, List.length_map, mkF_length, hpl]
      have H1 := Lib.hid h1
      have H2 := Lib.hid hcs
      clear HL HG HP h1 h2 hcs hp hpl
      go_wp2
      go_loopw [4] (fun i wr => ∃ (k : Nat) (cs : Array Value), k ≤ l.length + 12 ∧ i = .int .i64 k ∧ Hid (wr.heap[g]? = some (.cells cs 44 (0, 0))) ∧ Hid (cs.size = (l.length + 12) * 2) ∧ Hid (Touch (LentS g ps) w wr)) (fun i _ => l.length + 12 - (intOf i).toNat)
      case atStart => exact ⟨0, cur, by omega, rfl, H1, H2, HT⟩
      case round =>
        clear H1 H2 HT
        obtain ⟨k, cs, hk, rfl, HH, HS, HT⟩ := hrel
        by_cases hlt : k < l.length + 12
        · have hlti : (k : Int) < (l.length : Int) + 12 := by omega
          have hs := HS.out
          have HO : Hid (∀ wb : World, wb.heap[g]? = some (.cells cs 44 (0, 0)) → wb.cell? ⟨g, k * 2, none⟩ = some (cs[k * 2]'(by omega)) ∧ wb.cell? ⟨g, k * 2 + 1, none⟩ = some (cs[k * 2 + 1]'(by omega)) ∧ wb.frozen? ⟨g, k * 2, none⟩ = false ∧ wb.frozen? ⟨g, k * 2 + 1, none⟩ = false) := fun wb h => by
            refine ⟨?_, ?_, Lib.frozen_of_heap h _, Lib.frozen_of_heap h _⟩
            · rw [Lib.cell_of_heap h, Array.getElem?_eq_getElem (by omega)]
            · rw [Lib.cell_of_heap h, Array.getElem?_eq_getElem (by omega)]
          generalize (cs[k * 2]'(by omega)) = u1 at HO
          generalize (cs[k * 2 + 1]'(by omega)) = u2 at HO
          have C := Lib.hid (fun W => markFrameG 2 (k : Int) (by omega) (by omega) (by omega) (by omega) W)
          generalize 1000003 * (2 + 7) + (k : Int) = y at C
          clear hs
          go_wp2_with (go_at_call 25; go_must (refine (C.out _).mono ?_; rintro e w1 ⟨rfl, hg⟩; have HH1 := Lib.hid (heap_keep HH.out hg.below); have HT1 := Lib.hid (HT.out.step hg.below); obtain ⟨o1, o2, o3, o4⟩ := HO.out w1 HH1.out; clear hg))
          have R1 := Lib.hid (Lib.heap_setCell_same (i := k * 2 + 1) (Lib.heap_setCell_same (i := k * 2) HH1.out (.int .i64 y)) (.slice none 0 0))
          have R2 : Hid (((cs.setIfInBounds (k * 2) (.int .i64 y)).setIfInBounds (k * 2 + 1) (.slice none 0 0)).size = (l.length + 12) * 2) := by
            show _ = _
            rw [Array.size_setIfInBounds, Array.size_setIfInBounds]
            exact HS.out
          have R3 := Lib.hid ((HT1.out.grown (Lib.grownBy_setCell w1 g (k * 2) (.int .i64 y)) (fun q hq => Or.inl (Or.inl (Option.some.inj hq).symm))).grown (Lib.grownBy_setCell _ g (k * 2 + 1) (.slice none 0 0)) (fun q hq => Or.inl (Or.inl (Option.some.inj hq).symm)))
          clear o1 o2 o3 o4 HO C hlti
          go_roundw
          case rel => exact ⟨k + 1, _, by omega, by go_num, R1, R2, R3⟩
          case measure => simp [intOf]; omega
        · have hltz : ¬ (k : Int) < (l.length : Int) + 12 := by omega
          go_wp2
          first | go_end0 | go_ret
          exact ⟨rfl, HT.out⟩
end Go.Proofs.YtagjipkoheimjaaGreatDoor
