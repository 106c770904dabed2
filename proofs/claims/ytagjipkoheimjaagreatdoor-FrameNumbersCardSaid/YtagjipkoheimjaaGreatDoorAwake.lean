/- The chapter's example. -/
import Derived.Test.YtagjipkoheimjaaGreatDoorSame
import Derived.Lib.SlBytesConst
namespace Go.Proofs.YtagjipkoheimjaaGreatDoor
open Go.RowKit

theorem conv_slG {w : World} {ao : Option Addr} {l : List UInt8} {c : Nat} (h : SlG w.heap.size w ao (bcells l)) (hn : ao = none → c = 0) :
    (convert 26 9 (.slice ao l.length c)).run Tryz.prog w = .ok (.string ⟨l.toArray⟩) w := by
  have hb := h.slB hn
  cases ao with
  | none =>
    obtain ⟨rfl, rfl⟩ := hb.nil rfl
    rw [run_convert_bytes_string w _ _ _ none _ 0 Tryz.underlying26 Tryz.underlying5 Tryz.underlying9]
    simp [Conv.bytesToString]
    rfl
  | some ad =>
    refine run_convert_bytes_back (P := Tryz.prog) w 26 9 5 ad c l Tryz.underlying26 Tryz.underlying5 Tryz.underlying9 fun j hj => ?_
    obtain ⟨sb, off, e, _, hc⟩ := hb.row (by omega)
    obtain rfl := Option.some.inj e
    rw [Addr.add_lit]
    exact hc j hj
theorem owns_cap {w : World} {base e size c n : Nat} {ao : Option Addr} {xs : List Value} (h : w.ownsRow base e size (.slice ao n c) n xs) : n ≤ c ∧ c ≤ maxLen ∧ (ao = none → c = 0) := by
  rcases h.2 with ⟨h1, h2⟩ | ⟨g, cap, cur, h1, _, _, hnc, hcm, _⟩
  · simp only [Value.slice.injEq] at h1
    obtain ⟨rfl, rfl, rfl⟩ := h1
    exact ⟨Nat.le_refl _, by unfold maxLen; omega, fun _ => rfl⟩
  · simp only [Value.slice.injEq] at h1
    obtain ⟨rfl, _, rfl⟩ := h1
    exact ⟨hnc, hcm, fun h => by cases h⟩

def exB : List UInt8 := [0, 0, 0, 2, 7, 37, 84, 149, 5, 97, 98]
def exF : FR := (7, [97, 98])
theorem ex_put : putF [exF] = (exB, 0) := by decide +kernel
theorem ex_scan : scanP (exB ++ [0, 0, 0]) = ([exF], 11, false) := by decide +kernel
theorem ex_nine : sumN [49, 50, 51, 52, 53, 54, 55, 56, 57] = 3421780262 := by decide +kernel

/-- A row of one frame that was just made. -/
theorem slFr_one (w : World) (k : Int) (d : List UInt8) (a : Option Addr) (c : Nat) (hs : SlG w.heap.size w a (bcells d)) (hn : a = none → c = 0) :
    SlFr (w.alloc (.cells #[.int .i64 k, .slice a d.length c] 44)).heap.size (w.alloc (.cells #[.int .i64 k, .slice a d.length c] 44)) (some ⟨w.heap.size, 0, none⟩) [(k, d)] := by
  refine ⟨[((k, d), .slice a d.length c)], rfl, fun _ => ⟨w.heap.size, 0, rfl, by simp, fun j u hj => ?_⟩, fun p hp => ?_⟩
  · rw [Nat.zero_add]
    exact cells_made _ _ _ _ _ (by simpa [cellsFr] using hj)
  · obtain rfl := List.mem_singleton.1 hp
    exact ⟨a, c, rfl, hs.up (below_own _) (by simp), hn⟩

theorem slG_marked (w : World) (cs : Array Value) (l : List UInt8) (fz : Nat × Nat) (h : cs = (bcells l).toArray) : SlG (w.alloc (.cells cs 5 fz)).heap.size (w.alloc (.cells cs 5 fz)) (some ⟨w.heap.size, 0, none⟩) (bcells l) := by
  subst h
  refine fun _ => ⟨_, 0, rfl, by simp, fun j u hj => ?_⟩
  rw [Nat.zero_add]
  show (match (w.heap.push (Obj.cells (bcells l).toArray 5 fz))[w.heap.size]? with | some (.cells c _ _) => if (none : Option _).isSome then none else c[j]? | _ => none) = _
  rw [Array.getElem?_push_size]
  simpa using hj

set_option maxRecDepth 100000 in
set_option maxHeartbeats 4000000 in
theorem awake_any (w : World) : Calls Tryz.prog 7 #[] w (YesP w) := by
  obtain ⟨i0, hi, hz0, hz1, hz2⟩ := info_parts infoB
  have KP : Hid (Calls Tryz.prog 9 #[.slice (some ⟨w.heap.size + 1, 0, none⟩) 1 1] ((w.alloc (.cells #[.int .u8 97, .int .u8 98] 5 (2, 3))).alloc (.cells #[.int .i64 7, .slice (some ⟨w.heap.size, 0, none⟩) 2 2] 44)) (PuttedP (exB, 0) ((w.alloc (.cells #[.int .u8 97, .int .u8 98] 5 (2, 3))).alloc (.cells #[.int .i64 7, .slice (some ⟨w.heap.size, 0, none⟩) 2 2] 44)))) := by
    have h1 := slG_marked w #[.int .u8 97, .int .u8 98] [97, 98] (2, 3) (by rfl)
    have h2 := slFr_one (w.alloc (.cells #[.int .u8 97, .int .u8 98] 5 (2, 3))) 7 [97, 98] (some ⟨w.heap.size, 0, none⟩) 2 h1 (by simp)
    have h3 := put_any _ [exF] 1 (by decide) _ h2 (by decide +kernel)
    rw [ex_put] at h3
    unfold Hid
    simpa using h3
  have HB0 := Lib.hid ((below_own (w := w) (.cells #[.int .u8 97, .int .u8 98] 5 (2, 3))).trans ((below_own (w := w.alloc (.cells #[.int .u8 97, .int .u8 98] 5 (2, 3))) (.cells #[.int .i64 7, .slice (some ⟨w.heap.size, 0, none⟩) 2 2] 44)).mono (by simp)))
  have kc := fun (w : World) (C : Array Value) (n c : Nat) => Lib.run_convert_bytes_const (P := Tryz.prog) w 26 5 C n c Tryz.underlying26 Tryz.underlying5
  go_enter Tryz.func7, Tryz.ntmps7
  go_wp2_with (go_at_call 9; refine (KP.out).mono ?_; rintro e w1 ⟨ao1, c1, rfl, hown, hb⟩; refine Hid.out ?_)
  have HB1 := Lib.hid (HB0.out.trans (hb.mono HB0.out.size))
  have HO1 := Lib.hid hown
  have HBs := Lib.hid hb.size
  have hs := owns_slB hown
  have b3 : ∃ sb off, ao1 = some ⟨sb, off, none⟩ ∧ sb < w1.heap.size ∧ w1.cell? ⟨sb, off + 3, none⟩ = some (.int .u8 2) ∧ w1.cell? ⟨sb, off + 4, none⟩ = some (.int .u8 7) ∧ w1.cell? ⟨sb, off + 9, none⟩ = some (.int .u8 97) := by
    obtain ⟨sb, off, e, lt, hc⟩ := hs.cellB (by decide)
    exact ⟨sb, off, e, lt, hc 3 (by decide), hc 4 (by decide), hc 9 (by decide)⟩
  obtain ⟨sb, off, rfl, lt, d3, d4, d9⟩ := b3
  have hl : exB.length = 11 := by decide
  clear KP HB0 hb hown hs
  refine Lib.hid ?_
  simp only [hl] at *
  clear hl
  have HO1' : w1.ownsRow ((w.alloc (.cells #[.int .u8 97, .int .u8 98] 5 (2, 3))).alloc (.cells #[.int .i64 7, .slice (some ⟨w.heap.size, 0, none⟩) 2 2] 44)).heap.size 5 1 (.slice (some ⟨sb, off, none⟩) 11 c1) 11 (bcells exB) := HO1.out
  have hbs : ((w.alloc (.cells #[.int .u8 97, .int .u8 98] 5 (2, 3))).alloc (.cells #[.int .i64 7, .slice (some ⟨w.heap.size, 0, none⟩) 2 2] 44)).heap.size ≤ w1.heap.size := HBs.out
  have hws : w.heap.size ≤ w1.heap.size := HB1.out.size
  have KSum0 := Lib.hid (fun (W : World) (h : SlG W.heap.size W none (bcells [])) => sum_any none [] 0 (by simp) W h)
  go_wp2_with (first
    | (at_builtin; refine wpList_append_own _ rfl _ _ 26 rfl ((w.alloc (.cells #[.int .u8 97, .int .u8 98] 5 (2, 3))).alloc (.cells #[.int .i64 7, .slice (some ⟨w.heap.size, 0, none⟩) 2 2] 44)).heap.size 5 i0 (.int .u8 0) 1 1 Tryz.underlying26 hi hz0 hz1 hz2 rfl (by decide) _ 11 (bcells exB) rfl (HO1'.alloc _) ⟨w1.heap.size, 0, none⟩ 3 3 (bcells [0, 0, 0]) rfl rfl (fun j u hu => by rw [Addr.add_lit, Nat.zero_add]; exact cells_made _ _ _ j u (by simpa [Lib.byteCells] using hu)) (Lib.byteCells_one _) (by unfold maxLen; omega) (by omega) (by simp; simp at hbs; omega) ?_; intro v' w3 hown3 hgrow3 hnil3; obtain ⟨ao3, c3, rfl⟩ := owns_slice hown3; refine Hid.out ?_))
  have HB3 : Hid (Below w.heap.size w w3) := (below_new HB1.out _).grown hgrow3 (by simp; omega) (fun g hg => by
    have h0 : some sb = some g := hg
    obtain rfl := Option.some.inj h0
    have h1 := (HO1'.lt sb rfl).1
    have h2 : w.heap.size ≤ ((w.alloc (.cells #[.int .u8 97, .int .u8 98] 5 (2, 3))).alloc (.cells #[.int .i64 7, .slice (some ⟨w.heap.size, 0, none⟩) 2 2] 44)).heap.size := by simp; omega
    omega)
  have KS : Hid (Calls Tryz.prog 16 #[.slice ao3 14 c3] w3 (ScannedP ([exF], 11, false) w3)) := by
    have ho : w3.ownsRow ((w.alloc (.cells #[.int .u8 97, .int .u8 98] 5 (2, 3))).alloc (.cells #[.int .i64 7, .slice (some ⟨w.heap.size, 0, none⟩) 2 2] 44)).heap.size 5 1 (.slice ao3 (exB ++ [0, 0, 0]).length c3) (exB ++ [0, 0, 0]).length (bcells (exB ++ [0, 0, 0])) := by
      rw [bcells_append]
      exact hown3
    obtain ⟨k1, k2, k3⟩ := owns_cap ho
    have := scan_any ao3 (exB ++ [0, 0, 0]) c3 (by decide) k1 (by unfold maxLen at k2; omega) k3 w3 (owns_slB ho)
    rw [ex_scan] at this
    exact this
  clear HO1' HO1 HBs hbs hown3 hgrow3 hnil3 d3 d4 d9 HB1 hws lt hz0 hz1 hz2 hi
  refine Lib.hid ?_
  have KN := Lib.hid (fun (W : World) (g : Nat) (h : SlG W.heap.size W (some ⟨g, 0, none⟩) (bcells [49, 50, 51, 52, 53, 54, 55, 56, 57])) => sum_any (some ⟨g, 0, none⟩) [49, 50, 51, 52, 53, 54, 55, 56, 57] 9 (by simp) W h)
  rw [ex_nine] at KN
  have KN' : Hid (∀ W : World, Calls Tryz.prog 23 #[.slice (some ⟨W.heap.size, 0, none⟩) 9 9] (W.alloc (.cells #[.int .u8 49, .int .u8 50, .int .u8 51, .int .u8 52, .int .u8 53, .int .u8 54, .int .u8 55, .int .u8 56, .int .u8 57] 5 (9, 10))) fun e w' => e = .returned (.int .u32 3421780262) ∧ (W.alloc (.cells #[.int .u8 49, .int .u8 50, .int .u8 51, .int .u8 52, .int .u8 53, .int .u8 54, .int .u8 55, .int .u8 56, .int .u8 57] 5 (9, 10))) = w') := fun W =>
    KN.out _ W.heap.size (slG_marked W _ [49, 50, 51, 52, 53, 54, 55, 56, 57] (9, 10) (by rfl))
  have KZ : Hid (∀ W : World, Calls Tryz.prog 23 #[.slice none 0 0] W fun e w' => e = .returned (.int .u32 0) ∧ W = w') := fun W => KSum0.out W (fun h => absurd rfl h)
  clear KN KSum0
  go_wp2_with (first
    | (go_at_call 16; refine (KS.out).mono ?_; rintro e w4 ⟨ao4, c4, ps, rfl, hps, hrow, hb⟩; refine Hid.out ?_))
  have HB4 := Lib.hid (HB3.out.trans (hb.mono HB3.out.size))
  have hpl : ps.length = 1 := by have := congrArg List.length hps; simpa using this
  have hrow' : RowFr w4 w3.heap.size (.slice ao4 ps.length c4) ps := by rw [hpl]; exact hrow
  have hsl := hrow'.sl
  rw [hps] at hsl
  obtain ⟨sb4, off4, rfl, lt4, hc4⟩ := hsl.at (by simp)
  obtain ⟨a5, k5, d1, d2, hs5, hn5⟩ := hc4 0 (by simp)
  have d1' : w4.cell? ⟨sb4, off4, none⟩ = some (.int .i64 7) := by simpa [exF] using d1
  have d2' : w4.cell? ⟨sb4, off4 + 1, none⟩ = some (.slice a5 2 k5) := by simpa [exF] using d2
  have hcv : ∀ W, Below w4.heap.size w4 W → (convert 26 9 (.slice a5 2 k5)).run Tryz.prog W = .ok (.string ⟨#[97, 98]⟩) W := fun W b => conv_slG (l := [97, 98]) (hs5.up b b.size) hn5
  have hcv' := hcv (w4.alloc (.cells #[.int .u8 49, .int .u8 50, .int .u8 51, .int .u8 52, .int .u8 53, .int .u8 54, .int .u8 55, .int .u8 56, .int .u8 57] 5 (9, 10))) (below_own _)
  have HB5 := Lib.hid (below_new HB4.out (.cells #[.int .u8 49, .int .u8 50, .int .u8 51, .int .u8 52, .int .u8 53, .int .u8 54, .int .u8 55, .int .u8 56, .int .u8 57] 5 (9, 10)))
  clear hb hrow hrow' hsl hc4 d1 d2 hs5 hn5 hcv hpl hps KS HB3 HB4
  refine Lib.hid ?_
  go_wp2_with (first
    | (go_at_call 23; (with_reducible refine (KN'.out _).mono ?_); rintro e w5 ⟨rfl, rfl⟩)
    | (go_at_call 23; (with_reducible refine (KZ.out _).mono ?_); rintro e w5 ⟨rfl, rfl⟩))
  go_ret
  exact ⟨rfl, HB5.out⟩
end Go.Proofs.YtagjipkoheimjaaGreatDoor
