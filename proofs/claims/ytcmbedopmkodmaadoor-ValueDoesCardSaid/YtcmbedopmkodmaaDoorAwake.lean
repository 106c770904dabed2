/- awake is true. -/
import Derived.Test.YtcmbedopmkodmaaDoorDoAny
import Derived.Test.YtcmbedopmkodmaaDoorText
import Derived.Test.YtcmbedopmkodmaaDoorRefDo
import Derived.Deep.RegionWith
import Derived.Deep.RegionHeld3
namespace Go.Proofs.YtcmbedopmkodmaaDoor
open Go.RowKit

theorem At.made (W : World) (b o : Nat) (cs : Array Value) (k n : Int) (s : ByteArray) (h : ∀ j, W.cell? ⟨b, j, none⟩ = cs[j]?) (h1 : cs[o]? = some (.int .u8 k)) (h2 : cs[o + 1]? = some (.int .i64 n)) (h3 : cs[o + 2]? = some (.string s)) : At W b o (k, n, s) :=
  ⟨(h o).trans h1, (h (o + 1)).trans h2, (h (o + 2)).trans h3⟩

theorem cell_alloc (w : World) (cs : Array Value) (t : TypeId) (j : Nat) : (w.alloc (.cells cs t)).cell? ⟨w.heap.size, j, none⟩ = cs[j]? := by
  show (match (w.heap.push (Obj.cells cs t))[w.heap.size]? with | some (.cells c _ _) => if (none : Option _).isSome then none else c[j]? | _ => none) = _
  rw [Array.getElem?_push_size]
  rfl

/-- A row of two numbers that has just been laid. -/
theorem row_made2 (w : World) (t : TypeId) (x y : V3) : RowAt (w.alloc (.cells #[.int .u8 x.1, .int .i64 x.2.1, .string x.2.2, .int .u8 y.1, .int .i64 y.2.1, .string y.2.2] t)) w.heap.size 0 [x, y] :=
  RowAt.two (At.made _ _ _ _ _ _ _ (cell_alloc w _ t) rfl rfl rfl) (At.made _ _ _ _ _ _ _ (cell_alloc w _ t) rfl rfl rfl)

theorem row_made1 (w : World) (t : TypeId) (x : V3) : RowAt (w.alloc (.cells #[.int .u8 x.1, .int .i64 x.2.1, .string x.2.2] t)) w.heap.size 0 [x] :=
  RowAt.one (At.made _ _ _ _ _ _ _ (cell_alloc w _ t) rfl rfl rfl)

theorem fine_num (a b : Int) (ha : In64 a) (hb : In64 b) : Fine [numT a, numT b] := by
  intro x hx
  simp only [List.mem_cons, List.not_mem_nil, or_false] at hx
  rcases hx with rfl | rfl
  · exact ⟨ha, Nat.zero_le _⟩
  · exact ⟨hb, Nat.zero_le _⟩

theorem fine_num1 (a : Int) (ha : In64 a) : Fine [numT a] := by
  intro x hx
  simp only [List.mem_cons, List.not_mem_nil, or_false] at hx
  subst hx
  exact ⟨ha, Nat.zero_le _⟩

/-- Do at two numbers that have just been laid as a row. -/
theorem do_made2 (op a b : Int) (w : World) (g : Nat) (hg : g = w.heap.size) (ha : In64 a) (hb : In64 b) :
    Calls Tryd.prog 11 #[.int .u8 op, .slice (some ⟨g, 0, none⟩) 2 2] (w.alloc (.cells #[.int .u8 1, .int .i64 a, .string ⟨#[]⟩, .int .u8 1, .int .i64 b, .string ⟨#[]⟩] 29))
      (DoPost (doV op [numT a, numT b]) (w.alloc (.cells #[.int .u8 1, .int .i64 a, .string ⟨#[]⟩, .int .u8 1, .int .i64 b, .string ⟨#[]⟩] 29))) := by
  subst hg
  exact do_any op w.heap.size 0 2 [numT a, numT b] _ (by show 2 ≤ _; decide) (by simp) (row_made2 w _ (numT a) (numT b)) (fine_num a b ha hb)

theorem do_made1 (op a : Int) (w : World) (g : Nat) (hg : g = w.heap.size) (ha : In64 a) :
    Calls Tryd.prog 11 #[.int .u8 op, .slice (some ⟨g, 0, none⟩) 1 1] (w.alloc (.cells #[.int .u8 1, .int .i64 a, .string ⟨#[]⟩] 29))
      (DoPost (doV op [numT a]) (w.alloc (.cells #[.int .u8 1, .int .i64 a, .string ⟨#[]⟩] 29))) := by
  subst hg
  exact do_any op w.heap.size 0 1 [numT a] _ (by show 1 ≤ _; decide) (by simp) (row_made1 w _ (numT a)) (fine_num1 a ha)

theorem do_num2 (op a b r : Int) (h : doV op [numT a, numT b] = (numT r, 0)) (w : World) (g : Nat) (hg : g = w.heap.size) (ha : In64 a) (hb : In64 b) :
    Calls Tryd.prog 11 #[.int .u8 op, .slice (some ⟨g, 0, none⟩) 2 2] (w.alloc (.cells #[.int .u8 1, .int .i64 a, .string ⟨#[]⟩, .int .u8 1, .int .i64 b, .string ⟨#[]⟩] 29))
      fun e w' => e = .returned (.tuple #[.agg #[.int .u8 1, .int .i64 r, .string ⟨#[]⟩], .int .i64 0]) ∧ Below (w.alloc (.cells #[.int .u8 1, .int .i64 a, .string ⟨#[]⟩, .int .u8 1, .int .i64 b, .string ⟨#[]⟩] 29)).heap.size (w.alloc (.cells #[.int .u8 1, .int .i64 a, .string ⟨#[]⟩, .int .u8 1, .int .i64 b, .string ⟨#[]⟩] 29)) w' := by
  have hc := do_made2 op a b w g hg ha hb
  rw [h] at hc
  exact hc

theorem do_err2 (op a b err : Int) (h : doV op [numT a, numT b] = (zeroT, err)) (w : World) (g : Nat) (hg : g = w.heap.size) (ha : In64 a) (hb : In64 b) :
    Calls Tryd.prog 11 #[.int .u8 op, .slice (some ⟨g, 0, none⟩) 2 2] (w.alloc (.cells #[.int .u8 1, .int .i64 a, .string ⟨#[]⟩, .int .u8 1, .int .i64 b, .string ⟨#[]⟩] 29))
      fun e w' => e = .returned (.tuple #[.agg #[.int .u8 0, .int .i64 0, .string ⟨#[]⟩], .int .i64 err]) ∧ Below (w.alloc (.cells #[.int .u8 1, .int .i64 a, .string ⟨#[]⟩, .int .u8 1, .int .i64 b, .string ⟨#[]⟩] 29)).heap.size (w.alloc (.cells #[.int .u8 1, .int .i64 a, .string ⟨#[]⟩, .int .u8 1, .int .i64 b, .string ⟨#[]⟩] 29)) w' := by
  have hc := do_made2 op a b w g hg ha hb
  rw [h] at hc
  exact hc

theorem do_num1 (op a r : Int) (h : doV op [numT a] = (numT r, 0)) (w : World) (g : Nat) (hg : g = w.heap.size) (ha : In64 a) :
    Calls Tryd.prog 11 #[.int .u8 op, .slice (some ⟨g, 0, none⟩) 1 1] (w.alloc (.cells #[.int .u8 1, .int .i64 a, .string ⟨#[]⟩] 29))
      fun e w' => e = .returned (.tuple #[.agg #[.int .u8 1, .int .i64 r, .string ⟨#[]⟩], .int .i64 0]) ∧ Below (w.alloc (.cells #[.int .u8 1, .int .i64 a, .string ⟨#[]⟩] 29)).heap.size (w.alloc (.cells #[.int .u8 1, .int .i64 a, .string ⟨#[]⟩] 29)) w' := by
  have hc := do_made1 op a w g hg ha
  rw [h] at hc
  exact hc

theorem do_err1 (op a err : Int) (h : doV op [numT a] = (zeroT, err)) (w : World) (g : Nat) (hg : g = w.heap.size) (ha : In64 a) :
    Calls Tryd.prog 11 #[.int .u8 op, .slice (some ⟨g, 0, none⟩) 1 1] (w.alloc (.cells #[.int .u8 1, .int .i64 a, .string ⟨#[]⟩] 29))
      fun e w' => e = .returned (.tuple #[.agg #[.int .u8 0, .int .i64 0, .string ⟨#[]⟩], .int .i64 err]) ∧ Below (w.alloc (.cells #[.int .u8 1, .int .i64 a, .string ⟨#[]⟩] 29)).heap.size (w.alloc (.cells #[.int .u8 1, .int .i64 a, .string ⟨#[]⟩] 29)) w' := by
  have hc := do_made1 op a w g hg ha
  rw [h] at hc
  exact hc

theorem right_numT (a : Int) : rightB 1 a ⟨#[]⟩ = true := by simp [rightB, ByteArray.toList_eq]

theorem doV_num2 (op a b : Int) (hk : knownB op = true) (hp : placesN op = 2) : doV op [numT a, numT b] = valV op (numT a) (numT b) := by
  have hw : ([numT a, numT b] : List V3).any wrongB = false := by simp [wrongB, numT, right_numT]
  have hn : ([numT a, numT b] : List V3).any nameB = false := by simp [nameB, numT]
  unfold doV
  rw [hk, hw, hn, hp]
  simp

theorem doV_num1 (op a : Int) (hk : knownB op = true) (hp : placesN op = 1) : doV op [numT a] = valV op (numT a) (numT a) := by
  have hw : ([numT a] : List V3).any wrongB = false := by simp [wrongB, numT, right_numT]
  have hn : ([numT a] : List V3).any nameB = false := by simp [nameB, numT]
  unfold doV
  rw [hk, hw, hn, hp]
  simp

theorem add_num (a b : Int) : doV 1 [numT a, numT b] = if fitB (a + b) = true then (numT (a + b), 0) else (zeroT, 300) := doV_num2 1 a b rfl rfl
theorem sub_num (a b : Int) : doV 2 [numT a, numT b] = if fitB (a - b) = true then (numT (a - b), 0) else (zeroT, 300) := doV_num2 2 a b rfl rfl
theorem mul_num (a b : Int) : doV 3 [numT a, numT b] = if fitB (a * b) = true then (numT (a * b), 0) else (zeroT, 300) := doV_num2 3 a b rfl rfl
theorem neg_num (a : Int) : doV 4 [numT a] = if fitB (-a) = true then (numT (-a), 0) else (zeroT, 300) := doV_num1 4 a rfl rfl
theorem lt_num (a b : Int) : doV 7 [numT a, numT b] = (numT (truthN (decide (a < b))), 0) := doV_num2 7 a b rfl rfl
theorem le_num (a b : Int) : doV 8 [numT a, numT b] = (numT (truthN (decide (a ≤ b))), 0) := doV_num2 8 a b rfl rfl

theorem bone' {W w1 : World} {g : Nat} (hb : Below W.heap.size W w1) (h : g < W.heap.size) : (∀ j, w1.cell? ⟨g, j, none⟩ = W.cell? ⟨g, j, none⟩) ∧ (∀ j, w1.frozen? ⟨g, j, none⟩ = W.frozen? ⟨g, j, none⟩) :=
  ⟨fun j => hb.cell (p := ⟨g, j, none⟩) h, fun j => hb.frozen (p := ⟨g, j, none⟩) h⟩

set_option maxHeartbeats 1000000 in
theorem awake_any (w : World) :
    Calls Tryd.prog 8 #[] w fun e w' => e = .returned (.bool true) ∧ Below w.heap.size w w' := by
  have H1 := Lib.hid (fun w g hg => do_num2 1 2 3 5 (by rw [add_num, if_pos (by decide)]; rfl) w g hg ⟨by decide, by decide⟩ ⟨by decide, by decide⟩)
  have H2 := Lib.hid (fun w g hg => do_err2 1 9223372036854775807 1 300 (by rw [add_num, if_neg (by decide)]) w g hg ⟨by decide, by decide⟩ ⟨by decide, by decide⟩)
  have H3 : Hid (∀ w, Calls Tryd.prog 18 #[.agg #[.int .u8 1, .int .i64 5, .string ⟨#[]⟩]] w fun e w' => e = .returned (.string ⟨#[53]⟩) ∧ Below w.heap.size w w') := fun w => by
    have h := text_small 5 w (by decide)
    rw [Lib.decDigits_one (by decide)] at h
    exact h
  go_enter Tryd.func8, Tryd.ntmps8
  go_wp2_with (go_at_call 22; refine (refNumber_any _ _).mono ?_; rintro e w' ⟨rfl, rfl⟩)
  refine (H1.out _ _ (by simp)).mono ?_
  rintro e w1 ⟨rfl, hb1⟩
  have HB1 : Hid (Below w.heap.size w w1) := (below_new (below_new (below_own _) _) _).trans (hb1.mono (by simp; omega))
  clear hb1
  go_wp2_with (go_at_call 22; refine (refNumber_any _ _).mono ?_; rintro e w' ⟨rfl, rfl⟩)
  refine (H2.out _ _ (by simp)).mono ?_
  rintro e w2 ⟨rfl, hb2⟩
  obtain ⟨hc2, hf2⟩ := bone' hb2 (g := w1.heap.size) (by simp; omega)
  have HB2 : Hid (Below w.heap.size w w2) := (below_new (below_new (below_new (below_new HB1.out _) _) _) _).trans (hb2.mono (by have := HB1.out.size; simp; omega))
  have hz2 : w1.heap.size < w2.heap.size := by have := hb2.size; simp at this; omega
  clear hb2
  have heq := fun w => eqV 1 5 1 5 ⟨#[]⟩ ⟨#[]⟩ w
  rw [show eqvB (1, 5, ⟨#[]⟩) (1, 5, ⟨#[]⟩) = true from (eqvB_iff _ _).2 rfl] at heq
  have hg := eqGuardV
  have hne : w1.heap.size ≠ w2.heap.size := by omega
  go_wp2
  go_region_with (first | (go_at_call 22; refine (refNumber_any _ _).mono ?_; rintro e w' ⟨rfl, rfl⟩) | (go_at_call 18; refine (H3.out _).mono ?_; rintro e w3 ⟨rfl, hb3⟩; have HB3 := Lib.hid hb3; clear hb3))
  all_goals
    go_wp2
    go_ret
    exact ⟨rfl, below_step ((below_new (below_new HB2.out _) _).drew) HB3.out⟩
end Go.Proofs.YtcmbedopmkodmaaDoor
