/- Scan: all frames that bytes begin with. -/
import Derived.Test.YtagjipkoheimjaaGreatDoorFirst
namespace Go.Proofs.YtagjipkoheimjaaGreatDoor
open Go.RowKit

/-- Frames, each with the slice of its Data. -/
def cellsFr : List (FR × Value) → List Value
  | [] => []
  | p :: l => .int .i64 p.1.1 :: p.2 :: cellsFr l
theorem cellsFr_append (l m : List (FR × Value)) : cellsFr (l ++ m) = cellsFr l ++ cellsFr m := by
  induction l with
  | nil => rfl
  | cons x l ih => simp only [cellsFr, List.cons_append, ih]
theorem cellsFr_length (l : List (FR × Value)) : (cellsFr l).length = l.length * 2 := by
  induction l with
  | nil => rfl
  | cons x l ih => simp only [cellsFr, List.length_cons, ih]; omega
theorem cellsFr_at (l : List (FR × Value)) : ∀ (i : Nat) (h : i < l.length), (cellsFr l)[i * 2]? = some (.int .i64 (l[i]).1.1) ∧ (cellsFr l)[i * 2 + 1]? = some (l[i]).2 := by
  induction l with
  | nil => intro i h; cases h
  | cons x l ih =>
    intro i h
    cases i with
    | zero => exact ⟨rfl, rfl⟩
    | succ i =>
      obtain ⟨h1, h2⟩ := ih i (by simpa using h)
      rw [show (i + 1) * 2 = i * 2 + 1 + 1 by omega]
      exact ⟨h1, h2⟩

/-- Data's row. -/
abbrev RowD (w : World) (base : Nat) (p : FR × Value) : Prop := w.ownsRow base 5 1 p.2 p.1.2.length (bcells p.1.2)
/-- A row of frames, each in memory of its own. -/
structure RowFr (w : World) (base : Nat) (v : Value) (ps : List (FR × Value)) : Prop where
  row : w.ownsRow base 44 2 v ps.length (cellsFr ps)
  data : ∀ p, p ∈ ps → RowD w base p
  apart : (ps.filterMap fun p => p.2.ownBlock).Nodup

theorem RowFr.nil (w : World) (base : Nat) : RowFr w base (.slice none 0 0) [] := ⟨World.ownsRow_nil _ _ _ _, (fun p hp => by cases hp), List.nodup_nil⟩
theorem RowFr.below {base : Nat} {w w' : World} {v : Value} {ps : List (FR × Value)} (h : RowFr w base v ps) (b : Below w.heap.size w w') : RowFr w' base v ps :=
  ⟨owns_below h.row b, fun p hp => owns_below (h.data p hp) b, h.apart⟩
/-- One frame more. -/
theorem RowFr.snoc {base B : Nat} {w w' : World} {v v' : Value} {ps : List (FR × Value)} {p : FR × Value} (h : RowFr w base v ps) (hb : ∀ q, q ∈ ps → ∀ k, q.2.ownBlock = some k → k < B) (hp : w.ownsRow B 5 1 p.2 p.1.2.length (bcells p.1.2)) (hB : base ≤ B)
    (hg : w.grownBy w' v.ownBlock) (hv : w'.ownsRow base 44 2 v' (ps.length + 1) (cellsFr ps ++ cellsFr [p])) : RowFr w' base v' (ps ++ [p]) := by
  have ht : ∀ k, v.ownBlock = some k → ∃ cs fz, w.heap[k]? = some (.cells cs 44 fz) := owns_tag h.row
  refine ⟨?_, fun q hq => ?_, ?_⟩
  · rw [cellsFr_append, List.length_append]
    exact hv
  · rcases List.mem_append.1 hq with hq | hq
    · exact owns_far (h.data q hq) (by decide) hg ht
    · obtain rfl := List.mem_singleton.1 hq
      exact owns_far (owns_mono hp hB) (by decide) hg ht
  · rw [List.filterMap_append, List.nodup_append]
    refine ⟨h.apart, ?_, fun a ha c hc e => ?_⟩
    · cases hpb : p.2.ownBlock <;> simp [List.filterMap, hpb]
    · subst e
      obtain ⟨q, hq, hqa⟩ := List.mem_filterMap.1 ha
      obtain ⟨q', hq', hqa'⟩ := List.mem_filterMap.1 hc
      obtain rfl := List.mem_singleton.1 hq'
      have h1 := hb q hq a hqa
      have h2 := (hp.lt a hqa').1
      omega
theorem RowFr.lt {base : Nat} {w : World} {v : Value} {ps : List (FR × Value)} (h : RowFr w base v ps) : ∀ q, q ∈ ps → ∀ k, q.2.ownBlock = some k → k < w.heap.size := fun q hq k hk => ((h.data q hq).lt k hk).2

theorem infoFr : (Tryz.prog.info? 44).map (fun i => (i.zero, i.size, i.bytes)) = some (some (.agg #[.int .i64 0, .slice none 0 0]), 2, 32) := by kernel_rfl

/-- What Scan tells. -/
def ScannedP (r : List FR × Nat × Bool) (w : World) (e : Ending) (w' : World) : Prop :=
  ∃ ao c ps, e = .returned (.tuple #[.slice ao r.1.length c, .int .i64 ((r.2.1 : Nat) : Int), .bool r.2.2]) ∧ ps.map Prod.fst = r.1 ∧ RowFr w' w.heap.size (.slice ao r.1.length c) ps ∧ Below w.heap.size w w'

/-- A slice of bytes, cut at its front. -/
theorem cut_front {w : World} {sb off : Nat} {l : List UInt8} {B : Nat} (h : SlG B w (some ⟨sb, off, none⟩) (bcells l)) (u : Nat) : SlG B w (some ⟨sb, off + u, none⟩) (bcells (l.drop u)) := by
  have := h.part u (l.length - u)
  rwa [List.take_of_length_le (by rw [List.length_drop]; omega)] at this

theorem cells_made2 (w : World) (A : Obj) (cs : Array Value) (t : TypeId) (j : Nat) (u : Value) (h : cs[j]? = some u) : ((w.alloc A).alloc (.cells cs t)).cell? ⟨w.heap.size + 1, j, none⟩ = some u := by
  have := cells_made (w.alloc A) cs t j u h
  rwa [show (w.alloc A).heap.size = w.heap.size + 1 by simp] at this
theorem made2_first (w : World) (A B : Obj) : ((w.alloc A).alloc B).heap[w.heap.size]? = some A := by
  rw [Below.heap_alloc _ _ _ (by simp)]
  exact heap_alloc_new w A

set_option maxRecDepth 100000 in
set_option maxHeartbeats 2000000 in
theorem scan_any (ao : Option Addr) (l : List UInt8) (c : Nat) (hlm : l.length ≤ 1000000000) (hc : l.length ≤ c) (hcm : c ≤ 9223372036854775807) (hn : ao = none → c = 0) (w : World) (h : SlG w.heap.size w ao (bcells l)) :
    Calls Tryz.prog 16 #[.slice ao l.length c] w (ScannedP (scanP l) w) := by
  have H := Lib.hid h
  have HN := Lib.hid hn
  have HLM := Lib.hid hlm
  have HC := Lib.hid hc
  have HCM := Lib.hid hcm
  clear h hn hlm hc hcm
  obtain ⟨i0, hi, hz0, hz1, hz2⟩ := info_parts infoFr
  go_enter Tryz.func16, Tryz.ntmps16
  go_wp2_with fail
  go_loopw [2, 3] (fun v i wr => ∃ (u : Nat) (ps : List (FR × Value)) (av : Option Addr) (cv : Nat), u ≤ l.length ∧ i = .int .i64 u ∧ v = .slice av ps.length cv ∧ ps.length ≤ u ∧ scanP l = (ps.map Prod.fst ++ (scanP (l.drop u)).1, u + (scanP (l.drop u)).2.1, (scanP (l.drop u)).2.2) ∧ RowFr wr w.heap.size (.slice av ps.length cv) ps ∧ Below w.heap.size w wr) (fun _ i _ => l.length - (intOf i).toNat)
  case atStart => exact ⟨0, [], none, 0, by omega, rfl, rfl, by simp, by simp, RowFr.nil _ _, Below.refl _ _⟩
  case round =>
    obtain ⟨u, ps, av, cv, hu, rfl, rfl, hpu, hsc, hrow, hbel⟩ := hrel
    have HSc := Lib.hid hsc
    have HRow := Lib.hid hrow
    have HB := Lib.hid hbel
    have hszb := hbel.size
    clear hsc hrow hbel
    have HL : Hid ((l.drop u).length = l.length - u) := List.length_drop
    have KT : Hid (∀ (ao' : Option Addr) (c' : Nat) (W : World), SlG W.heap.size W ao' (bcells (l.drop u)) → Calls Tryz.prog 37 #[.slice ao' (l.length - u) c'] W fun e w' => e = .returned (.bool (tornB (l.drop u))) ∧ Gr W w') := fun ao' c' W hs => by
      have hh := torn_any ao' (l.drop u) c' (by rw [HL.out]; have := HLM.out; omega) W hs
      rwa [HL.out] at hh
    have hul : (u : Int) ≤ (l.length : Int) := by omega
    have hlc : (l.length : Int) ≤ (c : Int) := by have := HC.out; omega
    have hul' : u ≤ l.length := hu
    have hlc' : l.length ≤ c := HC.out
    have hcm' : c ≤ 9223372036854775807 := HCM.out
    have tlu : ((l.length : Int) - (u : Int)).toNat = l.length - u := by omega
    cases htorn : tornB (l.drop u) with
    | true =>
      rw [htorn] at KT
      have HR : Hid (scanP l = (ps.map Prod.fst, u, false)) := by
        unfold Hid
        rw [HSc.out, scan_torn htorn, List.append_nil]
        rfl
      have HS : Hid (∀ ao', (ao' = ao ∧ c = u) ∨ ao' = ao.map (·.add u) → SlG wr.heap.size wr ao' (bcells (l.drop u))) := fun ao' h => by
        by_cases hne : l.drop u = []
        · rw [hne]
          exact fun hh => absurd rfl hh
        · have hlt : u < l.length := by
            apply Classical.byContradiction
            intro hh
            exact hne (List.drop_of_length_le (by omega))
          obtain ⟨sb, off, rfl, lt, hcl⟩ := H.out.cellB (by omega)
          have hx := (cut_front H.out u).up HB.out hszb
          rcases h with ⟨rfl, h⟩ | rfl
          · exfalso
            have := HC.out
            omega
          · rw [Option.map_some, Addr.add_lit]
            exact hx
      clear htorn HSc
      by_cases hcu : c = u
      · have K := Lib.hid (KT.out ao 0 wr (HS.out ao (Or.inl ⟨rfl, hcu⟩)))
        have hcu' : (c = u) = True := eq_true hcu
        have hz : c - u = 0 := by omega
        clear KT HS hcu
        go_wp2_with (go_at_call 37; refine (K.out).mono ?_; rintro e w1 ⟨rfl, hg⟩; refine Hid.out ?_)
        have HG1 := Lib.hid hg
        clear hg
        refine Lib.hid ?_
        go_wp2
        go_ret3
        rw [HR.out]
        exact ⟨av, cv, ps, by simp, rfl, by simp only [List.length_map]; exact HRow.out.below HG1.out.below, HB.out.trans (HG1.out.below.mono hszb)⟩
      · have K := Lib.hid (KT.out (ao.map (·.add u)) (c - u) wr (HS.out _ (Or.inr rfl)))
        clear KT HS
        go_wp2_with (go_at_call 37; refine (K.out).mono ?_; rintro e w1 ⟨rfl, hg⟩; refine Hid.out ?_)
        have HG1 := Lib.hid hg
        clear hg
        refine Lib.hid ?_
        go_wp2
        go_ret3
        rw [HR.out]
        exact ⟨av, cv, ps, by simp, rfl, by simp only [List.length_map]; exact HRow.out.below HG1.out.below, HB.out.trans (HG1.out.below.mono hszb)⟩
    | false =>
      rw [htorn] at KT
      have hlt : u < l.length := by
        apply Classical.byContradiction
        intro hh
        rw [List.drop_of_length_le (by omega)] at htorn
        cases htorn
      obtain ⟨sb, off, rfl, lt, -⟩ := H.out.cellB (by omega)
      have hcu : c ≠ u := by have := HC.out; omega
      have HS : Hid (SlG wr.heap.size wr (some ⟨sb, off + u, none⟩) (bcells (l.drop u))) := (cut_front H.out u).up HB.out hszb
      have K1 := Lib.hid (KT.out _ (c - u) wr HS.out)
      have K2 : Hid (∀ W, Below wr.heap.size wr W → Calls Tryz.prog 38 #[.slice (some ⟨sb, off + u, none⟩) (l.length - u) (c - u)] W (FirstP (firstF (l.drop u)) W)) := fun W b => by
        have hh := first_any (some ⟨sb, off + u, none⟩) (l.drop u) (c - u) htorn (by rw [HL.out]; have := HC.out; omega) (by have := HCM.out; omega) W (HS.out.up b b.size)
        rwa [HL.out] at hh
      clear KT HS
      cases hf : firstF (l.drop u) with
      | none =>
        rw [hf] at K2
        have HR : Hid (scanP l = (ps.map Prod.fst, u, true)) := by
          unfold Hid
          rw [HSc.out, scan_none htorn hf, List.append_nil]
          rfl
        clear htorn hf HSc
        go_wp2_with (first
          | (go_at_call 37; refine (K1.out).mono ?_; rintro e w1 ⟨rfl, hg⟩; have HG1 := Lib.hid hg; clear hg)
          | (go_at_call 38; refine (K2.out _ HG1.out.below).mono ?_; rintro e w2 ⟨rfl, hb⟩; have HG2 := Lib.hid hb; clear hb))
        go_ret3
        rw [HR.out]
        have hb2 := below_step HG1.out.below HG2.out
        exact ⟨av, cv, ps, by simp, rfl, by simp only [List.length_map]; exact (HRow.out.below hb2).below (below_own _), below_new (HB.out.trans (hb2.mono hszb)) _⟩
      | some f =>
        rw [hf] at K2
        obtain ⟨k, d⟩ := f
        have hd9 : 9 + d.length ≤ l.length - u := by
          have := (first_some htorn hf).2.1
          rw [HL.out] at this
          exact this
        have HR : Hid (scanP l = ((ps.map Prod.fst ++ [(k, d)]) ++ (scanP (l.drop (u + (9 + d.length)))).1, (u + (9 + d.length)) + (scanP (l.drop (u + (9 + d.length)))).2.1, (scanP (l.drop (u + (9 + d.length)))).2.2)) := by
          unfold Hid
          rw [HSc.out, scan_some htorn hf, List.drop_drop]
          simp only [List.append_assoc, List.singleton_append, Nat.add_assoc]
        have hps : ps.length ≤ 1000000000 := by have := HLM.out; omega
        have hu9 : u ≤ 1000000000 := by have := HLM.out; omega
        have hd10 : d.length ≤ 1000000000 := by have := HLM.out; omega
        clear htorn hf HSc
        go_wp2_with (first
          | (go_at_call 37; refine (K1.out).mono ?_; rintro e w1 ⟨rfl, hg⟩; have HG1 := Lib.hid hg; clear hg)
          | (go_at_call 38; refine (K2.out _ HG1.out.below).mono ?_; rintro e w2 ⟨ao2, c2, rfl, hown, hb⟩; have HG2 := Lib.hid hb; have HOwn := Lib.hid hown; have HRow2 := Lib.hid (HRow.out.below (below_step HG1.out.below hb)); have hr2 := HRow2.out.row; have hsz2 : w.heap.size ≤ w2.heap.size := Nat.le_trans hszb (below_step HG1.out.below hb).size; clear hb hown)
          | (at_builtin; refine wpList_append_own _ rfl _ _ 22 rfl w.heap.size 44 i0 (.agg #[.int .i64 0, .slice none 0 0]) 2 32 Tryz.underlying22 hi hz0 hz1 hz2 rfl (by decide) _ _ _ rfl ((hr2.alloc _).alloc _) ⟨w2.heap.size + 1, 0, none⟩ 1 1 [.int .i64 k, .slice ao2 d.length c2] rfl rfl (fun j u hu => by rw [Addr.add_lit, Nat.zero_add]; exact cells_made2 _ _ _ _ j u (by simpa using hu)) (fun u hu => by simp at hu; rcases hu with rfl | rfl <;> rfl) (by unfold maxLen; omega) (by omega) (by simp; omega) ?_; intro v' w5 hown5 hgrow5 hnil5; obtain ⟨ao5, c5, rfl⟩ := owns_slice hown5; refine Hid.out ?_))
        have hb12 : Below wr.heap.size wr w2 := below_step HG1.out.below HG2.out
        have hown2 := (HOwn.out.alloc (.cells #[.int .i64 k, .slice ao2 d.length c2] 44)).alloc (.cells #[.int .i64 k, .slice ao2 d.length c2] 44)
        have hr3 : RowFr ((w2.alloc (.cells #[.int .i64 k, .slice ao2 d.length c2] 44)).alloc (.cells #[.int .i64 k, .slice ao2 d.length c2] 44)) w.heap.size (.slice av ps.length cv) ps := (HRow2.out.below (below_own _)).below (below_own _)
        have HR5 : Hid (RowFr w5 w.heap.size (.slice ao5 (ps.length + 1) c5) (ps ++ [((k, d), .slice ao2 d.length c2)])) :=
          RowFr.snoc (B := w1.heap.size) (p := ((k, d), .slice ao2 d.length c2)) hr3 (fun q hq g hg => Nat.lt_of_lt_of_le (HRow.out.lt q hq g hg) HG1.out.below.size) hown2 (Nat.le_trans hszb HG1.out.below.size) hgrow5 hown5
        have HB5 : Hid (Below w.heap.size w w5) := (below_new (below_new (HB.out.trans (hb12.mono hszb)) _) _).grown hgrow5 (by simp; omega) (fun g hg => (HRow2.out.row.lt g hg).1)
        have hblk : w5.heap[w2.heap.size]? = some (.cells #[.int .i64 k, .slice ao2 d.length c2] 44 (0, 0)) :=
          (hgrow5.block w2.heap.size (by simp; omega) (fun e => by have := (HRow2.out.row.lt _ e.symm).2; omega)).trans (made2_first w2 _ _)
        have a1 : w5.cell? ⟨w2.heap.size, 1, none⟩ = some (.slice ao2 d.length c2) := Lib.cell_of_heap hblk 1
        clear hr3 hown2 hown5 hgrow5 hnil5 hblk hr2 hb12
        refine Lib.hid ?_
        go_wp2_with fail
        go_roundw
        case rel =>
          refine ⟨u + (9 + d.length), ps ++ [((k, d), .slice ao2 d.length c2)], ao5, c5, by omega, by go_num, ?_, ?_, ?_, ?_, HB5.out⟩
          · rw [List.length_append]; rfl
          · rw [List.length_append, List.length_singleton]; omega
          · rw [HR.out, List.map_append]; rfl
          · rw [List.length_append]; exact HR5.out
        case measure => simp [intOf]; omega
end Go.Proofs.YtagjipkoheimjaaGreatDoor
