/- The table's lines, as they are laid. -/
import Derived.Test.YtfmjhbaenpbfoaaGreatDoorWalk
namespace Go.Proofs.YtfmjhbaenpbfoaaGreatDoor
open Go.RowKit

def kindsL : List (List Int) := [[2, 4], [3], [5, 6, 7], [8, 9, 10, 11], [12, 13, 14, 15], [13, 14, 15, 16]]
/-- The table's lines. -/
def shL : List (Sh × FuncId) := [
  (⟨1, fun s => s.toList.isEmpty, 0, 0, 0, 4096, [[2, 4]]⟩, 46),
  (⟨2, fun s => tokK s == 2, 0, 0, 0, 4096, [[3]]⟩, 48),
  (⟨3, fun s => tokK s == 2, 0, 0, 0, 0, []⟩, 48),
  (⟨4, fun s => tokK s == 2, (-2147483647), 2147483647, 0, 4096, [[5, 6, 7], [8, 9, 10, 11]]⟩, 48),
  (⟨5, fun s => tokK s == 2, 0, 0, 0, 4096, [[12, 13, 14, 15]]⟩, 48),
  (⟨6, fun s => tokK s == 2, 0, 0, 0, 4096, [[12, 13, 14, 15]]⟩, 48),
  (⟨7, fun s => s.toList.isEmpty, 0, 0, 1, 1, [[13, 14, 15, 16]]⟩, 46),
  (⟨8, fun s => tokK s == 2, 0, 0, 0, 4096, [[13, 14, 15, 16]]⟩, 48),
  (⟨9, fun s => s.toList.isEmpty, 0, 2147483647, 0, 0, []⟩, 46),
  (⟨10, fun s => s.toList.isEmpty, 0, 0, 1, 4096, [[13, 14, 15, 16]]⟩, 46),
  (⟨11, fun s => s.toList.isEmpty, 0, 0, 0, 0, []⟩, 46),
  (⟨12, fun s => s.toList.isEmpty, 0, 0, 0, 0, []⟩, 46),
  (⟨13, fun s => tokK s == 2 || tokK s == 1, 0, 0, 0, 0, []⟩, 49),
  (⟨14, fun s => numB s.data.toList, 0, 0, 0, 0, []⟩, 50),
  (⟨15, fun s => tokK s == 2 || tokK s == 1, 0, 0, 0, 0, []⟩, 49),
  (⟨16, fun s => oneZ.any fun z => s.toList == z.toList, 0, 0, 1, 1, [[13, 14, 15, 16]]⟩, 51),
  (⟨16, fun s => opsZ.any fun z => s.toList == z.toList, 0, 0, 2, 2, [[13, 14, 15, 16]]⟩, 52)]
theorem shL_ok : ∀ p, p ∈ shL → TextOK p.2 p.1.text ∧ p.1.rows.length ≤ 10 ∧ ∀ ks, ks ∈ p.1.rows → ks.length ≤ 1000 := by
  intro p hp
  unfold shL at hp
  simp only [List.mem_cons, List.not_mem_nil, or_false] at hp
  rcases hp with rfl | rfl | rfl | rfl | rfl | rfl | rfl | rfl | rfl | rfl | rfl | rfl | rfl | rfl | rfl | rfl | rfl
  · exact ⟨text_empty, by decide, by decide⟩
  · exact ⟨text_name, by decide, by decide⟩
  · exact ⟨text_name, by decide, by decide⟩
  · exact ⟨text_name, by decide, by decide⟩
  · exact ⟨text_name, by decide, by decide⟩
  · exact ⟨text_name, by decide, by decide⟩
  · exact ⟨text_empty, by decide, by decide⟩
  · exact ⟨text_name, by decide, by decide⟩
  · exact ⟨text_empty, by decide, by decide⟩
  · exact ⟨text_empty, by decide, by decide⟩
  · exact ⟨text_empty, by decide, by decide⟩
  · exact ⟨text_empty, by decide, by decide⟩
  · exact ⟨text_word, by decide, by decide⟩
  · exact ⟨text_number, by decide, by decide⟩
  · exact ⟨text_word, by decide, by decide⟩
  · exact ⟨text_one, by decide, by decide⟩
  · exact ⟨text_two, by decide, by decide⟩

abbrev clV (b1 b2 b3 : Nat) : Value := .func (.func 74) #[] #[.pointer (some ⟨b1, 0, none⟩), .pointer (some ⟨b2, 0, none⟩), .pointer (some ⟨b3, 0, none⟩)]
abbrev Cl := Value × Int × Int × List (List Int)
/-- So far: the kinds, and the closures that were made. -/
structure StK (w0 w : World) (cl : List Cl) : Prop where
  kinds : ∀ (i : Nat) ks, kindsL[i]? = some ks → KindsAt w.heap.size w (.slice (some ⟨w0.heap.size + i, 0, none⟩) ks.length ks.length) ks
  clos : ∀ p, p ∈ cl → ClosAt w.heap.size w p.1 p.2.1 p.2.2.1 p.2.2.2
  bel : Below w0.heap.size w0 w
theorem StK.up {w0 w w' : World} {cl : List Cl} (h : StK w0 w cl) (b : Below w.heap.size w w') : StK w0 w' cl :=
  ⟨fun i ks hi => (h.kinds i ks hi).up b b.size, fun p hp => (h.clos p hp).up b b.size, h.bel.trans (b.mono h.bel.size)⟩
theorem StK.k0 {w0 w : World} {cl : List Cl} (h : StK w0 w cl) : KindsAt w.heap.size w (.slice (some ⟨w0.heap.size, 0, none⟩) 2 2) [2, 4] := h.kinds 0 _ rfl
theorem StK.k1 {w0 w : World} {cl : List Cl} (h : StK w0 w cl) : KindsAt w.heap.size w (.slice (some ⟨w0.heap.size + 1, 0, none⟩) 1 1) [3] := h.kinds 1 _ rfl
theorem StK.k2 {w0 w : World} {cl : List Cl} (h : StK w0 w cl) : KindsAt w.heap.size w (.slice (some ⟨w0.heap.size + 1 + 1, 0, none⟩) 3 3) [5, 6, 7] := h.kinds 2 _ rfl
theorem StK.k3 {w0 w : World} {cl : List Cl} (h : StK w0 w cl) : KindsAt w.heap.size w (.slice (some ⟨w0.heap.size + 1 + 1 + 1, 0, none⟩) 4 4) [8, 9, 10, 11] := h.kinds 3 _ rfl
theorem StK.k4 {w0 w : World} {cl : List Cl} (h : StK w0 w cl) : KindsAt w.heap.size w (.slice (some ⟨w0.heap.size + 1 + 1 + 1 + 1, 0, none⟩) 4 4) [12, 13, 14, 15] := h.kinds 4 _ rfl
theorem StK.k5 {w0 w : World} {cl : List Cl} (h : StK w0 w cl) : KindsAt w.heap.size w (.slice (some ⟨w0.heap.size + 1 + 1 + 1 + 1 + 1, 0, none⟩) 4 4) [13, 14, 15, 16] := h.kinds 5 _ rfl
theorem turn_rows (w0 W W' : World) (cl : List Cl) (h : StK w0 W cl) (hW : Below W.heap.size W W') (lo hi : Int) (v : Value) (rows : List (List Int)) (hr : RowsK W'.heap.size W' v rows) :
    Calls Tryz.prog 47 #[.int .i64 lo, .int .i64 hi, v] W' fun e w' => ∃ b1 b2 b3, e = .returned (clV b1 b2 b3) ∧ StK w0 w' (cl ++ [(clV b1 b2 b3, lo, hi, rows)]) := by
  refine (inTurn_any lo hi v rows W' hr).mono ?_
  rintro e w' ⟨u, he, hc, hg⟩
  have h2 := (h.up hW).up hg.below
  obtain ⟨b1, b2, b3, rv, hu, -⟩ := id hc
  subst hu
  refine ⟨b1, b2, b3, he, h2.kinds, fun p hp => ?_, h2.bel⟩
  rcases List.mem_append.1 hp with hp | hp
  · exact h2.clos p hp
  · obtain rfl := List.mem_singleton.1 hp
    exact hc
theorem turn0 (w0 W : World) (cl : List Cl) (h : StK w0 W cl) (lo hi : Int) :
    Calls Tryz.prog 47 #[.int .i64 lo, .int .i64 hi, .slice none 0 0] W fun e w' => ∃ b1 b2 b3, e = .returned (clV b1 b2 b3) ∧ StK w0 w' (cl ++ [(clV b1 b2 b3, lo, hi, [])]) :=
  turn_rows w0 W W cl h (Below.refl _ _) lo hi _ [] ⟨none, 0, [], rfl, rfl, fun h => absurd rfl h, fun i ks hi => by simp at hi⟩
theorem turn1 (w0 W : World) (cl : List Cl) (h : StK w0 W cl) (lo hi : Int) (v : Value) (ks : List Int) (hk : KindsAt W.heap.size W v ks) (g : Nat) (hg : g = W.heap.size) :
    Calls Tryz.prog 47 #[.int .i64 lo, .int .i64 hi, .slice (some ⟨g, 0, none⟩) 1 1] (W.alloc (.cells #[v] 85)) fun e w' => ∃ b1 b2 b3, e = .returned (clV b1 b2 b3) ∧ StK w0 w' (cl ++ [(clV b1 b2 b3, lo, hi, [ks])]) := by
  subst hg
  refine turn_rows w0 W _ cl h (below_own _) lo hi _ [ks] ⟨_, 1, [v], rfl, rfl, fun _ => ⟨W.heap.size, 0, rfl, by simp, fun j u hu => ?_⟩, fun i ks' hi => ?_⟩
  · rw [Nat.zero_add]
    exact cells_made W #[v] _ j u (by simpa using hu)
  · cases i with
    | zero => obtain rfl := Option.some.inj hi; exact ⟨v, rfl, hk.up (below_own _) (by simp)⟩
    | succ i => simp at hi
theorem turn2 (w0 W : World) (cl : List Cl) (h : StK w0 W cl) (lo hi : Int) (v1 v2 : Value) (k1 k2 : List Int) (h1 : KindsAt W.heap.size W v1 k1) (h2 : KindsAt W.heap.size W v2 k2) (g : Nat) (hg : g = W.heap.size) :
    Calls Tryz.prog 47 #[.int .i64 lo, .int .i64 hi, .slice (some ⟨g, 0, none⟩) 2 2] (W.alloc (.cells #[v1, v2] 85)) fun e w' => ∃ b1 b2 b3, e = .returned (clV b1 b2 b3) ∧ StK w0 w' (cl ++ [(clV b1 b2 b3, lo, hi, [k1, k2])]) := by
  subst hg
  refine turn_rows w0 W _ cl h (below_own _) lo hi _ [k1, k2] ⟨_, 2, [v1, v2], rfl, rfl, fun _ => ⟨W.heap.size, 0, rfl, by simp, fun j u hu => ?_⟩, fun i ks' hi => ?_⟩
  · rw [Nat.zero_add]
    exact cells_made W #[v1, v2] _ j u (by simpa using hu)
  · match i, hi with
    | 0, hi => obtain rfl := Option.some.inj hi; exact ⟨v1, rfl, h1.up (below_own _) (by simp)⟩
    | 1, hi => obtain rfl := Option.some.inj hi; exact ⟨v2, rfl, h2.up (below_own _) (by simp)⟩
    | i + 2, hi => simp at hi

theorem pushS_last (h : Array Obj) (x : Obj) (n : Nat) (hn : n = h.size) : (h.push x)[n]? = some x := by subst hn; simp
theorem pushS_lt (h : Array Obj) (x : Obj) (n : Nat) (hn : n < h.size) : (h.push x)[n]? = h[n]? := by rw [Array.getElem?_push, if_neg (by omega)]
abbrev kw (w : World) : World := (((((w.alloc (.cells #[.int .u8 2, .int .u8 4] 22)).alloc (.cells #[.int .u8 3] 22)).alloc (.cells #[.int .u8 5, .int .u8 6, .int .u8 7] 22)).alloc (.cells #[.int .u8 8, .int .u8 9, .int .u8 10, .int .u8 11] 22)).alloc (.cells #[.int .u8 12, .int .u8 13, .int .u8 14, .int .u8 15] 22)).alloc (.cells #[.int .u8 13, .int .u8 14, .int .u8 15, .int .u8 16] 22)
theorem kinds_start (w : World) : StK w (kw w) [] := by
  have hB : Below w.heap.size w (kw w) := below_new (below_new (below_new (below_new (below_new (below_own _) _) _) _) _) _
  have hh : (kw w).heap = (((((w.heap.push (.cells #[.int .u8 2, .int .u8 4] 22)).push (.cells #[.int .u8 3] 22)).push (.cells #[.int .u8 5, .int .u8 6, .int .u8 7] 22)).push (.cells #[.int .u8 8, .int .u8 9, .int .u8 10, .int .u8 11] 22)).push (.cells #[.int .u8 12, .int .u8 13, .int .u8 14, .int .u8 15] 22)).push (.cells #[.int .u8 13, .int .u8 14, .int .u8 15, .int .u8 16] 22) := rfl
  have hs : (kw w).heap.size = w.heap.size + 6 := by rw [hh]; simp
  have at' : ∀ (b : Nat) (ks : List Int), b < (kw w).heap.size → (kw w).heap[b]? = some (.cells (kcells ks).toArray 22) → KindsAt (kw w).heap.size (kw w) (.slice (some ⟨b, 0, none⟩) ks.length ks.length) ks := fun b ks hb hc => ⟨_, _, rfl, fun _ => ⟨b, 0, rfl, hb, fun j u hu => by
    rw [Nat.zero_add, Lib.cell_of_heap hc, ← Array.getElem?_toList]
    exact hu⟩⟩
  refine ⟨fun i ks hi => ?_, (fun p hp => by cases hp), hB⟩
  match i, hi with
  | 0, hi => obtain rfl := Option.some.inj hi; exact at' _ _ (by rw [hs]; omega) (by rw [hh, pushS_lt _ _ _ (by simp only [Array.size_push]; omega), pushS_lt _ _ _ (by simp only [Array.size_push]; omega), pushS_lt _ _ _ (by simp only [Array.size_push]; omega), pushS_lt _ _ _ (by simp only [Array.size_push]; omega), pushS_lt _ _ _ (by simp only [Array.size_push]; omega), pushS_last _ _ _ (Nat.add_zero _)]; rfl)
  | 1, hi => obtain rfl := Option.some.inj hi; exact at' _ _ (by rw [hs]; omega) (by rw [hh, pushS_lt _ _ _ (by simp only [Array.size_push]; omega), pushS_lt _ _ _ (by simp only [Array.size_push]; omega), pushS_lt _ _ _ (by simp only [Array.size_push]; omega), pushS_lt _ _ _ (by simp only [Array.size_push]; omega), pushS_last _ _ _ (by simp only [Array.size_push])]; rfl)
  | 2, hi => obtain rfl := Option.some.inj hi; exact at' _ _ (by rw [hs]; omega) (by rw [hh, pushS_lt _ _ _ (by simp only [Array.size_push]; omega), pushS_lt _ _ _ (by simp only [Array.size_push]; omega), pushS_lt _ _ _ (by simp only [Array.size_push]; omega), pushS_last _ _ _ (by simp only [Array.size_push])]; rfl)
  | 3, hi => obtain rfl := Option.some.inj hi; exact at' _ _ (by rw [hs]; omega) (by rw [hh, pushS_lt _ _ _ (by simp only [Array.size_push]; omega), pushS_lt _ _ _ (by simp only [Array.size_push]; omega), pushS_last _ _ _ (by simp only [Array.size_push])]; rfl)
  | 4, hi => obtain rfl := Option.some.inj hi; exact at' _ _ (by rw [hs]; omega) (by rw [hh, pushS_lt _ _ _ (by simp only [Array.size_push]; omega), pushS_last _ _ _ (by simp only [Array.size_push])]; rfl)
  | 5, hi => obtain rfl := Option.some.inj hi; exact at' _ _ (by rw [hs]; omega) (by rw [hh, pushS_last _ _ _ (by simp only [Array.size_push])]; rfl)
  | i + 6, hi => simp [kindsL] at hi

/-- The lines, each with its closure. -/
def linesOf (us : List Value) : List Line := shL.zipWith (fun p u => (p.1, p.2, u)) us
theorem hasQ_lines (us : List Value) (h : us.length = 17) : hasQ (linesOf us) = fun k s n l => shL.any fun p => p.1.has k s n l := by
  funext k s n l
  unfold hasQ linesOf
  have : ∀ (a : List (Sh × FuncId)) (b : List Value), a.length = b.length → (List.zipWith (fun p u => ((p.1, p.2, u) : Line)) a b).any (fun p => p.1.has k s n l) = a.any fun p => p.1.has k s n l := by
    intro a
    induction a with
    | nil => intro b _; cases b <;> rfl
    | cons x a ih =>
      intro b hb
      cases b with
      | nil => simp at hb
      | cons u b =>
        rw [List.zipWith_cons_cons, List.any_cons, List.any_cons, ih b (by simpa using hb)]
  exact this _ _ (by rw [h]; rfl)

set_option maxRecDepth 100000 in
set_option maxHeartbeats 4000000 in
theorem shapes_any (w : World) :
    Calls Tryz.prog 28 #[] w fun e w' => ∃ us sv, us.length = 17 ∧ e = .returned sv ∧ LinesAt w'.heap.size w' sv (linesOf us) ∧ Below w.heap.size w w' := by
  have HK0 := Lib.hid (kinds_start w)
  go_enter Tryz.func28, Tryz.ntmps28
  go_wp2_with (go_at_call 47; go_must (refine (turn1 w _ _ HK0.out 0 4096 _ _ HK0.out.k0 _ (by simp)).mono ?_; rintro e w1 ⟨x0, y0, z0, rfl, hk⟩; have HK1 := Lib.hid hk; clear hk; refine Hid.out ?_))
  refine Lib.hid ?_
  go_wp2_with (go_at_call 47; go_must (refine (turn1 w _ _ HK1.out 0 4096 _ _ HK1.out.k1 _ (by simp)).mono ?_; rintro e w2 ⟨x1, y1, z1, rfl, hk⟩; have HK2 := Lib.hid hk; clear hk; refine Hid.out ?_))
  refine Lib.hid ?_
  go_wp2_with (go_at_call 47; go_must (refine (turn0 w _ _ HK2.out 0 0).mono ?_; rintro e w3 ⟨x2, y2, z2, rfl, hk⟩; have HK3 := Lib.hid hk; clear hk; refine Hid.out ?_))
  refine Lib.hid ?_
  go_wp2_with (go_at_call 47; go_must (refine (turn2 w _ _ HK3.out 0 4096 _ _ _ _ HK3.out.k2 HK3.out.k3 _ (by simp)).mono ?_; rintro e w4 ⟨x3, y3, z3, rfl, hk⟩; have HK4 := Lib.hid hk; clear hk; refine Hid.out ?_))
  refine Lib.hid ?_
  go_wp2_with (go_at_call 47; go_must (refine (turn1 w _ _ HK4.out 0 4096 _ _ HK4.out.k4 _ (by simp)).mono ?_; rintro e w5 ⟨x4, y4, z4, rfl, hk⟩; have HK5 := Lib.hid hk; clear hk; refine Hid.out ?_))
  refine Lib.hid ?_
  go_wp2_with (go_at_call 47; go_must (refine (turn1 w _ _ HK5.out 0 4096 _ _ HK5.out.k4 _ (by simp)).mono ?_; rintro e w6 ⟨x5, y5, z5, rfl, hk⟩; have HK6 := Lib.hid hk; clear hk; refine Hid.out ?_))
  refine Lib.hid ?_
  go_wp2_with (go_at_call 47; go_must (refine (turn1 w _ _ HK6.out 1 1 _ _ HK6.out.k5 _ (by simp)).mono ?_; rintro e w7 ⟨x6, y6, z6, rfl, hk⟩; have HK7 := Lib.hid hk; clear hk; refine Hid.out ?_))
  refine Lib.hid ?_
  go_wp2_with (go_at_call 47; go_must (refine (turn1 w _ _ HK7.out 0 4096 _ _ HK7.out.k5 _ (by simp)).mono ?_; rintro e w8 ⟨x7, y7, z7, rfl, hk⟩; have HK8 := Lib.hid hk; clear hk; refine Hid.out ?_))
  refine Lib.hid ?_
  go_wp2_with (go_at_call 47; go_must (refine (turn0 w _ _ HK8.out 0 0).mono ?_; rintro e w9 ⟨x8, y8, z8, rfl, hk⟩; have HK9 := Lib.hid hk; clear hk; refine Hid.out ?_))
  refine Lib.hid ?_
  go_wp2_with (go_at_call 47; go_must (refine (turn1 w _ _ HK9.out 1 4096 _ _ HK9.out.k5 _ (by simp)).mono ?_; rintro e w10 ⟨x9, y9, z9, rfl, hk⟩; have HK10 := Lib.hid hk; clear hk; refine Hid.out ?_))
  refine Lib.hid ?_
  go_wp2_with (go_at_call 47; go_must (refine (turn0 w _ _ HK10.out 0 0).mono ?_; rintro e w11 ⟨x10, y10, z10, rfl, hk⟩; have HK11 := Lib.hid hk; clear hk; refine Hid.out ?_))
  refine Lib.hid ?_
  go_wp2_with (go_at_call 47; go_must (refine (turn0 w _ _ HK11.out 0 0).mono ?_; rintro e w12 ⟨x11, y11, z11, rfl, hk⟩; have HK12 := Lib.hid hk; clear hk; refine Hid.out ?_))
  refine Lib.hid ?_
  go_wp2_with (go_at_call 47; go_must (refine (turn0 w _ _ HK12.out 0 0).mono ?_; rintro e w13 ⟨x12, y12, z12, rfl, hk⟩; have HK13 := Lib.hid hk; clear hk; refine Hid.out ?_))
  refine Lib.hid ?_
  go_wp2_with (go_at_call 47; go_must (refine (turn0 w _ _ HK13.out 0 0).mono ?_; rintro e w14 ⟨x13, y13, z13, rfl, hk⟩; have HK14 := Lib.hid hk; clear hk; refine Hid.out ?_))
  refine Lib.hid ?_
  go_wp2_with (go_at_call 47; go_must (refine (turn0 w _ _ HK14.out 0 0).mono ?_; rintro e w15 ⟨x14, y14, z14, rfl, hk⟩; have HK15 := Lib.hid hk; clear hk; refine Hid.out ?_))
  refine Lib.hid ?_
  go_wp2_with (go_at_call 47; go_must (refine (turn1 w _ _ HK15.out 1 1 _ _ HK15.out.k5 _ (by simp)).mono ?_; rintro e w16 ⟨x15, y15, z15, rfl, hk⟩; have HK16 := Lib.hid hk; clear hk; refine Hid.out ?_))
  refine Lib.hid ?_
  go_wp2_with (go_at_call 47; go_must (refine (turn1 w _ _ HK16.out 2 2 _ _ HK16.out.k5 _ (by simp)).mono ?_; rintro e w17 ⟨x16, y16, z16, rfl, hk⟩; have HK17 := Lib.hid hk; clear hk; refine Hid.out ?_))
  refine Lib.hid ?_
  go_wp2_with fail
  go_ret
  have h17 := HK17.out.up (below_own (w := w17) (.cells (cellsS (linesOf [clV x0 y0 z0, clV x1 y1 z1, clV x2 y2 z2, clV x3 y3 z3, clV x4 y4 z4, clV x5 y5 z5, clV x6 y6 z6, clV x7 y7 z7, clV x8 y8 z8, clV x9 y9 z9, clV x10 y10 z10, clV x11 y11 z11, clV x12 y12 z12, clV x13 y13 z13, clV x14 y14 z14, clV x15 y15 z15, clV x16 y16 z16])).toArray 89))
  refine ⟨[clV x0 y0 z0, clV x1 y1 z1, clV x2 y2 z2, clV x3 y3 z3, clV x4 y4 z4, clV x5 y5 z5, clV x6 y6 z6, clV x7 y7 z7, clV x8 y8 z8, clV x9 y9 z9, clV x10 y10 z10, clV x11 y11 z11, clV x12 y12 z12, clV x13 y13 z13, clV x14 y14 z14, clV x15 y15 z15, clV x16 y16 z16], _, rfl, rfl, ⟨⟨_, _, rfl, fun _ => ⟨w17.heap.size, 0, rfl, by simp, fun j u hu => ?_⟩⟩, fun p hp => ?_, by show (17 : Nat) ≤ 1000; omega⟩, h17.bel⟩
  · rw [Nat.zero_add]
    exact cells_made w17 (cellsS (linesOf [clV x0 y0 z0, clV x1 y1 z1, clV x2 y2 z2, clV x3 y3 z3, clV x4 y4 z4, clV x5 y5 z5, clV x6 y6 z6, clV x7 y7 z7, clV x8 y8 z8, clV x9 y9 z9, clV x10 y10 z10, clV x11 y11 z11, clV x12 y12 z12, clV x13 y13 z13, clV x14 y14 z14, clV x15 y15 z15, clV x16 y16 z16])).toArray _ j u (by rw [← Array.getElem?_toList]; exact hu)
  · have hp' : p ∈ [((⟨1, fun s => s.toList.isEmpty, 0, 0, 0, 4096, [[2, 4]]⟩ : Sh), 46, clV x0 y0 z0), ((⟨2, fun s => tokK s == 2, 0, 0, 0, 4096, [[3]]⟩ : Sh), 48, clV x1 y1 z1), ((⟨3, fun s => tokK s == 2, 0, 0, 0, 0, []⟩ : Sh), 48, clV x2 y2 z2), ((⟨4, fun s => tokK s == 2, (-2147483647), 2147483647, 0, 4096, [[5, 6, 7], [8, 9, 10, 11]]⟩ : Sh), 48, clV x3 y3 z3), ((⟨5, fun s => tokK s == 2, 0, 0, 0, 4096, [[12, 13, 14, 15]]⟩ : Sh), 48, clV x4 y4 z4), ((⟨6, fun s => tokK s == 2, 0, 0, 0, 4096, [[12, 13, 14, 15]]⟩ : Sh), 48, clV x5 y5 z5), ((⟨7, fun s => s.toList.isEmpty, 0, 0, 1, 1, [[13, 14, 15, 16]]⟩ : Sh), 46, clV x6 y6 z6), ((⟨8, fun s => tokK s == 2, 0, 0, 0, 4096, [[13, 14, 15, 16]]⟩ : Sh), 48, clV x7 y7 z7), ((⟨9, fun s => s.toList.isEmpty, 0, 2147483647, 0, 0, []⟩ : Sh), 46, clV x8 y8 z8), ((⟨10, fun s => s.toList.isEmpty, 0, 0, 1, 4096, [[13, 14, 15, 16]]⟩ : Sh), 46, clV x9 y9 z9), ((⟨11, fun s => s.toList.isEmpty, 0, 0, 0, 0, []⟩ : Sh), 46, clV x10 y10 z10), ((⟨12, fun s => s.toList.isEmpty, 0, 0, 0, 0, []⟩ : Sh), 46, clV x11 y11 z11), ((⟨13, fun s => tokK s == 2 || tokK s == 1, 0, 0, 0, 0, []⟩ : Sh), 49, clV x12 y12 z12), ((⟨14, fun s => numB s.data.toList, 0, 0, 0, 0, []⟩ : Sh), 50, clV x13 y13 z13), ((⟨15, fun s => tokK s == 2 || tokK s == 1, 0, 0, 0, 0, []⟩ : Sh), 49, clV x14 y14 z14), ((⟨16, fun s => oneZ.any fun z => s.toList == z.toList, 0, 0, 1, 1, [[13, 14, 15, 16]]⟩ : Sh), 51, clV x15 y15 z15), ((⟨16, fun s => opsZ.any fun z => s.toList == z.toList, 0, 0, 2, 2, [[13, 14, 15, 16]]⟩ : Sh), 52, clV x16 y16 z16)] := hp
    simp only [List.mem_cons, List.not_mem_nil, or_false] at hp'
    rcases hp' with rfl | rfl | rfl | rfl | rfl | rfl | rfl | rfl | rfl | rfl | rfl | rfl | rfl | rfl | rfl | rfl | rfl
    · exact ⟨text_empty, h17.clos (clV x0 y0 z0, 0, 4096, [[2, 4]]) (by simp), (show ([[2, 4]] : List (List Int)).length ≤ 10 by decide), (show ∀ ks, ks ∈ ([[2, 4]] : List (List Int)) → ks.length ≤ 1000 by decide)⟩
    · exact ⟨text_name, h17.clos (clV x1 y1 z1, 0, 4096, [[3]]) (by simp), (show ([[3]] : List (List Int)).length ≤ 10 by decide), (show ∀ ks, ks ∈ ([[3]] : List (List Int)) → ks.length ≤ 1000 by decide)⟩
    · exact ⟨text_name, h17.clos (clV x2 y2 z2, 0, 0, []) (by simp), (show ([] : List (List Int)).length ≤ 10 by decide), (show ∀ ks, ks ∈ ([] : List (List Int)) → ks.length ≤ 1000 by decide)⟩
    · exact ⟨text_name, h17.clos (clV x3 y3 z3, 0, 4096, [[5, 6, 7], [8, 9, 10, 11]]) (by simp), (show ([[5, 6, 7], [8, 9, 10, 11]] : List (List Int)).length ≤ 10 by decide), (show ∀ ks, ks ∈ ([[5, 6, 7], [8, 9, 10, 11]] : List (List Int)) → ks.length ≤ 1000 by decide)⟩
    · exact ⟨text_name, h17.clos (clV x4 y4 z4, 0, 4096, [[12, 13, 14, 15]]) (by simp), (show ([[12, 13, 14, 15]] : List (List Int)).length ≤ 10 by decide), (show ∀ ks, ks ∈ ([[12, 13, 14, 15]] : List (List Int)) → ks.length ≤ 1000 by decide)⟩
    · exact ⟨text_name, h17.clos (clV x5 y5 z5, 0, 4096, [[12, 13, 14, 15]]) (by simp), (show ([[12, 13, 14, 15]] : List (List Int)).length ≤ 10 by decide), (show ∀ ks, ks ∈ ([[12, 13, 14, 15]] : List (List Int)) → ks.length ≤ 1000 by decide)⟩
    · exact ⟨text_empty, h17.clos (clV x6 y6 z6, 1, 1, [[13, 14, 15, 16]]) (by simp), (show ([[13, 14, 15, 16]] : List (List Int)).length ≤ 10 by decide), (show ∀ ks, ks ∈ ([[13, 14, 15, 16]] : List (List Int)) → ks.length ≤ 1000 by decide)⟩
    · exact ⟨text_name, h17.clos (clV x7 y7 z7, 0, 4096, [[13, 14, 15, 16]]) (by simp), (show ([[13, 14, 15, 16]] : List (List Int)).length ≤ 10 by decide), (show ∀ ks, ks ∈ ([[13, 14, 15, 16]] : List (List Int)) → ks.length ≤ 1000 by decide)⟩
    · exact ⟨text_empty, h17.clos (clV x8 y8 z8, 0, 0, []) (by simp), (show ([] : List (List Int)).length ≤ 10 by decide), (show ∀ ks, ks ∈ ([] : List (List Int)) → ks.length ≤ 1000 by decide)⟩
    · exact ⟨text_empty, h17.clos (clV x9 y9 z9, 1, 4096, [[13, 14, 15, 16]]) (by simp), (show ([[13, 14, 15, 16]] : List (List Int)).length ≤ 10 by decide), (show ∀ ks, ks ∈ ([[13, 14, 15, 16]] : List (List Int)) → ks.length ≤ 1000 by decide)⟩
    · exact ⟨text_empty, h17.clos (clV x10 y10 z10, 0, 0, []) (by simp), (show ([] : List (List Int)).length ≤ 10 by decide), (show ∀ ks, ks ∈ ([] : List (List Int)) → ks.length ≤ 1000 by decide)⟩
    · exact ⟨text_empty, h17.clos (clV x11 y11 z11, 0, 0, []) (by simp), (show ([] : List (List Int)).length ≤ 10 by decide), (show ∀ ks, ks ∈ ([] : List (List Int)) → ks.length ≤ 1000 by decide)⟩
    · exact ⟨text_word, h17.clos (clV x12 y12 z12, 0, 0, []) (by simp), (show ([] : List (List Int)).length ≤ 10 by decide), (show ∀ ks, ks ∈ ([] : List (List Int)) → ks.length ≤ 1000 by decide)⟩
    · exact ⟨text_number, h17.clos (clV x13 y13 z13, 0, 0, []) (by simp), (show ([] : List (List Int)).length ≤ 10 by decide), (show ∀ ks, ks ∈ ([] : List (List Int)) → ks.length ≤ 1000 by decide)⟩
    · exact ⟨text_word, h17.clos (clV x14 y14 z14, 0, 0, []) (by simp), (show ([] : List (List Int)).length ≤ 10 by decide), (show ∀ ks, ks ∈ ([] : List (List Int)) → ks.length ≤ 1000 by decide)⟩
    · exact ⟨text_one, h17.clos (clV x15 y15 z15, 1, 1, [[13, 14, 15, 16]]) (by simp), (show ([[13, 14, 15, 16]] : List (List Int)).length ≤ 10 by decide), (show ∀ ks, ks ∈ ([[13, 14, 15, 16]] : List (List Int)) → ks.length ≤ 1000 by decide)⟩
    · exact ⟨text_two, h17.clos (clV x16 y16 z16, 2, 2, [[13, 14, 15, 16]]) (by simp), (show ([[13, 14, 15, 16]] : List (List Int)).length ≤ 10 by decide), (show ∀ ks, ks ∈ ([[13, 14, 15, 16]] : List (List Int)) → ks.length ≤ 1000 by decide)⟩
end Go.Proofs.YtfmjhbaenpbfoaaGreatDoor
