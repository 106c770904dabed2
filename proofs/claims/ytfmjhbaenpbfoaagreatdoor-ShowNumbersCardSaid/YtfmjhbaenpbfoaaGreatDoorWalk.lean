/- The walk that asks whether a tree is right. -/
import Derived.Test.YtfmjhbaenpbfoaaGreatDoorFind
import Derived.Deep.DeepCutAuto
namespace Go.Proofs.YtfmjhbaenpbfoaaGreatDoor
open Go.RowKit

mutual
/-- The walk: Q: has a look a shape; a nodes stand above; left more may be looked at. -/
def walkR (Q : Int → ByteArray → Int → List T → Bool) : T → ByteArray → Nat → Int → Bool × Int
  | .mk k _ n p l, s, a, left =>
    if (decide (left - 1 < 0) || !(decide (0 ≤ p) && decide ((a : Int) < 30)) || !Q k s n l) = true then (false, left - 1) else walkL Q k l (a + 1) (left - 1)
def walkL (Q : Int → ByteArray → Int → List T → Bool) (k : Int) : List T → Nat → Int → Bool × Int
  | [], _, left => (true, left)
  | q :: r, a, left => if (walkR Q q (seenT k q) a left).1 = true then walkL Q k r a (walkR Q q (seenT k q) a left).2 else (false, (walkR Q q (seenT k q) a left).2)
end
theorem walkR_eq (Q : Int → ByteArray → Int → List T → Bool) (t : T) (s : ByteArray) (a : Nat) (left : Int) : walkR Q t s a left = if (decide (left - 1 < 0) || !(decide (0 ≤ t.pos) && decide ((a : Int) < 30)) || !Q t.kind s t.num t.kids) = true then (false, left - 1) else walkL Q t.kind t.kids (a + 1) (left - 1) := by
  cases t
  rw [walkR]
  rfl
theorem walkL_drop (Q : Int → ByteArray → Int → List T → Bool) (k : Int) (l : List T) (j : Nat) (h : j < l.length) (a : Nat) (left : Int) : walkL Q k (l.drop j) a left = if (walkR Q l[j] (seenT k l[j]) a left).1 = true then walkL Q k (l.drop (j + 1)) a (walkR Q l[j] (seenT k l[j]) a left).2 else (false, (walkR Q l[j] (seenT k l[j]) a left).2) := by
  rw [List.drop_eq_getElem_cons h, walkL]

theorem walk_range (Q : Int → ByteArray → Int → List T → Bool) (t : T) : ∀ (s : ByteArray) (a : Nat) (left : Int), (walkR Q t s a left).1 = true → 0 ≤ (walkR Q t s a left).2 ∧ (walkR Q t s a left).2 ≤ left - 1 := by
  induction t using T.ind with
  | h t ih =>
    intro s a left h
    rw [walkR_eq] at h ⊢
    by_cases hb : (decide (left - 1 < 0) || !(decide (0 ≤ t.pos) && decide ((a : Int) < 30)) || !Q t.kind s t.num t.kids) = true
    · rw [if_pos hb] at h
      cases h
    · rw [if_neg hb] at h ⊢
      have h0 : 0 ≤ left - 1 := by
        have hb' : (decide (left - 1 < 0) || !(decide (0 ≤ t.pos) && decide ((a : Int) < 30)) || !Q t.kind s t.num t.kids) = false := by simpa using hb
        rw [Bool.or_eq_false_iff, Bool.or_eq_false_iff] at hb'
        have := of_decide_eq_false hb'.1.1
        omega
      have hl : ∀ (l : List T), (∀ k, k ∈ l → k ∈ t.kids) → ∀ lf : Int, 0 ≤ lf → (walkL Q t.kind l (a + 1) lf).1 = true → 0 ≤ (walkL Q t.kind l (a + 1) lf).2 ∧ (walkL Q t.kind l (a + 1) lf).2 ≤ lf := by
        intro l
        induction l with
        | nil => intro _ lf hlf _; rw [walkL]; exact ⟨hlf, Int.le_refl _⟩
        | cons q r ihl =>
          intro hk lf hlf hw
          rw [walkL] at hw ⊢
          by_cases hq : (walkR Q q (seenT t.kind q) (a + 1) lf).1 = true
          · rw [if_pos hq] at hw ⊢
            obtain ⟨h1, h2⟩ := ih q (hk q (List.mem_cons_self ..)) _ _ _ hq
            obtain ⟨h3, h4⟩ := ihl (fun k hk' => hk k (List.mem_cons_of_mem _ hk')) _ h1 hw
            omega
          · rw [if_neg hq] at hw
            cases hw
      exact hl _ (fun _ h => h) _ h0 h

def hasQ (L : List Line) : Int → ByteArray → Int → List T → Bool := fun k s n l => L.any fun p => p.1.has k s n l
/-- The walk's box. -/
structure WalkAt (B wb : Nat) (w : World) (sv : Value) (L : List Line) (left : Int) : Prop where
  c0 : w.cell? ⟨wb, 0, none⟩ = some sv
  c1 : w.cell? ⟨wb, 1, none⟩ = some (.int .i64 left)
  fz : ∀ j, w.frozen? ⟨wb, j, none⟩ = false
  lines : LinesAt B w sv L
  laid : Laid w
  low : 5 ≤ B
  le : B ≤ wb
  lt : wb < w.heap.size
/-- A tree whose texts are not too long. -/
inductive Short : T → Prop
  | mk (t : T) (ht : t.text.size ≤ 100000) (hl : t.kids.length ≤ 100000) (hp : ∀ k, k ∈ t.kids → Short k) : Short t
theorem Short.kid {t k : T} (h : Short t) (hk : k ∈ t.kids) : Short k := by cases h with | mk _ _ _ hp => exact hp k hk
theorem Short.size {t : T} (h : Short t) : t.text.size ≤ 100000 := by cases h; assumption
theorem cutS_size (s : ByteArray) : (cutS s).size ≤ s.size := by
  show (cutT s).toArray.size ≤ s.data.size
  unfold cutT
  cases h : s.data.toList with
  | nil => simp
  | cons c r =>
    have : s.data.size = r.length + 1 := by rw [← Array.length_toList, h]; rfl
    rw [this]
    split <;> simp <;> omega
theorem seenT_size (k : Int) (t : T) : (seenT k t).size ≤ t.text.size := by
  unfold seenT
  split
  · exact cutS_size _
  · exact Nat.le_refl _
def RightOK (t : T) : Prop := ∀ (s : ByteArray) (a : Nat) (left : Int) (v sv : Value) (L : List Line) (B wb : Nat) (w : World), WalkAt B wb w sv L left → 0 ≤ left → left ≤ 5000 → a ≤ 100 → s.size ≤ 100000 → Short t → Lies B w t v →
  Calls Tryz.prog 29 #[.pointer (some ⟨wb, 0, none⟩), .agg #[.int .u8 t.kind, .string s, .int .i64 t.num, .int .i64 t.pos, v, .int .i64 a]] w fun e w' => e = .returned (.bool (walkR (hasQ L) t s a left).1) ∧ WalkAt B wb w' sv L (walkR (hasQ L) t s a left).2 ∧ Fr wb w w'

theorem WalkAt.below {B wb : Nat} {w w' : World} {sv : Value} {L : List Line} {left : Int} (h : WalkAt B wb w sv L left) (b : Below w.heap.size w w') : WalkAt B wb w' sv L left :=
  ⟨((bone b h.lt).1 0).trans h.c0, ((bone b h.lt).1 1).trans h.c1, fun j => ((bone b h.lt).2 j).trans (h.fz j), h.lines.up (b.mono (by have := h.le; have := h.lt; omega)) (Nat.le_refl _), h.laid.below b, h.low, h.le, Nat.lt_of_lt_of_le h.lt b.size⟩
theorem Laid.fr {w w' : World} {R : Nat} (h : Laid w) (hR : 5 ≤ R) (b : Fr R w w') : Laid w' :=
  ⟨h.errs.fr hR b, fun i s hs => b.cell (h.one i s hs) (show 0 ≠ R by omega), fun i s hs => b.cell (h.two i s hs) (show 1 ≠ R by omega)⟩
theorem WalkAt.count {B wb : Nat} {w : World} {sv : Value} {L : List Line} {left : Int} (h : WalkAt B wb w sv L left) (n : Int) : WalkAt B wb (w.setCell ⟨wb, 1, none⟩ (.int .i64 n)) sv L n := by
  have hf : Fr wb w (w.setCell ⟨wb, 1, none⟩ (.int .i64 n)) := (Fr.refl wb w).set 1 _
  refine ⟨?_, World.cell?_setCell_same _ _ _ h.c1, fun j => by rw [World.frozen?_setCell]; exact h.fz j, h.lines.up (hf.below (by have := h.le; have := h.lt; omega) h.le) (Nat.le_refl _), h.laid.fr (by have := h.low; have := h.le; omega) hf, h.low, h.le, by rw [World.size_setCell]; exact h.lt⟩
  rw [World.cell?_setCell_other _ _ _ _ (by simp)]
  exact h.c0

/-- A world in which all that was is as it was. -/
structure BelW (W : World) where
  w : World
  h : Below W.heap.size W w
instance (W : World) : Nonempty (BelW W) := ⟨⟨W, Below.refl _ _⟩⟩
theorem wp_region_quiet_bel {P : Program} {id : Nat} {Q : Exit → Act → World → Prop} {a : Act} {w : World} {l : List Oper} (hm : P.follows .mixedOrders = true) (hB : Region.lexB .any l.toArray = true)
    (h : wpQuiet P l.toArray (fun w' => ∃ p : BelW w, w' = p.w) (fun a' => ∀ w', (∃ p : BelW w, w' = p.w) → Q .normal a' w') l a) : (Code.region id l.toArray true).wp P Q a w :=
  wp_region_quiet (C := fun w' => ∃ p : BelW w, w' = p.w) hm hB ⟨⟨w.drew, RowKit_drewN (Below.refl _ _) 1⟩, rfl⟩ (by simpa using h)

set_option maxRecDepth 100000 in
set_option maxHeartbeats 4000000 in
theorem right_step (t : T) (ih : ∀ k, k ∈ t.kids → RightOK k) : RightOK t := by
  intro s a left v sv L B wb w hW h0 h1 ha hs hsh hk
  have HW := Lib.hid hW
  have c1 := hW.c1
  have cf := hW.fz
  have hwb := hW.lt
  have HSh := Lib.hid hsh
  have HI := Lib.hid ih
  have HKd := Lib.hid hk
  obtain ⟨ao, c, ps, rfl, k1⟩ := hk.out
  have hlm := k1.len64
  have HA := Lib.hid k1
  have HE := Lib.hid (walkR_eq (hasQ L) t s a left)
  have HB0 : Hid (B ≤ w.heap.size) := by have := hW.le; have := hW.lt; unfold Hid; omega
  -- behind the count
  have HW2 : Hid (WalkAt B wb ((w.setCell ⟨wb, 1, none⟩ (.int .i64 (left - 1))).alloc (.cells #[.int .u8 t.kind, .string s, .int .i64 t.num, .int .i64 t.pos, .slice ao t.kids.length c, .int .i64 a] 62)) sv L (left - 1)) := (hW.count (left - 1)).below (below_own _)
  have HF2 : Hid (Fr wb w ((w.setCell ⟨wb, 1, none⟩ (.int .i64 (left - 1))).alloc (.cells #[.int .u8 t.kind, .string s, .int .i64 t.num, .int .i64 t.pos, .slice ao t.kids.length c, .int .i64 a] 62))) := ((Fr.refl wb w).set 1 _).alloc _
  have HKd2 : Hid (∀ W, Fr wb w W → Lies B W t (.slice ao t.kids.length c)) := fun W hf => hk.keep (hf.below HB0.out HW.out.le)
  have KS : Hid (∀ W, Calls Tryz.prog 53 #[.agg #[.int .u8 t.kind, .string s, .int .i64 t.num, .int .i64 t.pos, .slice ao t.kids.length c, .int .i64 a]] W fun e w' => e = .returned (.bool (decide (0 ≤ t.pos) && decide ((a : Int) < 30))) ∧ Gr W w') := fun W => stands_any (.mk t.kind s t.num t.pos t.kids) (.slice ao t.kids.length c) a W
  have KC : Hid (∀ W, WalkAt B wb W sv L (left - 1) → Fr wb w W → Calls Tryz.prog 54 #[sv, .func (.func 55) #[.agg #[.int .u8 t.kind, .string s, .int .i64 t.num, .int .i64 t.pos, .slice ao t.kids.length c, .int .i64 a]] #[]] W fun e w' => e = .returned (.bool (hasQ L t.kind s t.num t.kids)) ∧ Below W.heap.size W w') := by
    intro W h hf
    have hl := HKd2.out W hf
    have hl' : Lies W.heap.size W (.mk t.kind s t.num t.pos t.kids) (.slice ao t.kids.length c) := by
      obtain ⟨ao', c', ps', hv, k'⟩ := hl.out
      simp only [Value.slice.injEq, true_and] at hv
      obtain ⟨rfl, rfl⟩ := hv
      have k2 := k'.up (Below.refl _ _) (show B ≤ W.heap.size by have := h.le; have := h.lt; omega)
      exact .mk _ _ _ ps' k2.kids k2.sl k2.nil k2.cap k2.top k2.each
    exact finds_any L sv (.mk t.kind s t.num t.pos t.kids) (.slice ao t.kids.length c) a W (h.lines.up (Below.refl _ _) (by have := h.le; have := h.lt; omega)) h.laid hl' (by show s.size ≤ _; omega)
  clear hW hk k1 hsh ih
  go_enter Tryz.func29, Tryz.ntmps29
  go_wp2_with fail
  go_upto_region 2 with fail
  obtain ⟨st, hst⟩ : ∃ st, st = (decide (0 ≤ t.pos) && decide ((a : Int) < 30)) := ⟨_, rfl⟩
  obtain ⟨q, hq⟩ : ∃ q, q = hasQ L t.kind s t.num t.kids := ⟨_, rfl⟩
  have HSt := Lib.hid hst
  rw [← hst] at KS HE
  rw [← hq] at KC HE
  clear hst hq
  have hl1r : -1 ≤ left - 1 ∧ left - 1 ≤ 5000 := by omega
  generalize left - 1 = l1 at HW2 HF2 KC HE hl1r ⊢
  go_cut [33] (fun s33 wx => s33 = .bool (decide (l1 < 0) || !st || !q) ∧ Hid (Below ((w.setCell ⟨wb, 1, none⟩ (.int .i64 (l1))).alloc (.cells #[.int .u8 t.kind, .string s, .int .i64 t.num, .int .i64 t.pos, .slice ao t.kids.length c, .int .i64 a] 62)).heap.size ((w.setCell ⟨wb, 1, none⟩ (.int .i64 (l1))).alloc (.cells #[.int .u8 t.kind, .string s, .int .i64 t.num, .int .i64 t.pos, .slice ao t.kids.length c, .int .i64 a] 62)) wx))
  case first =>
    have hwb2 : wb < ((w.setCell ⟨wb, 1, none⟩ (.int .i64 (l1))).alloc (.cells #[.int .u8 t.kind, .string s, .int .i64 t.num, .int .i64 t.pos, .slice ao t.kids.length c, .int .i64 a] 62)).heap.size := by simp; omega
    have hws : w.heap.size < ((w.setCell ⟨wb, 1, none⟩ (.int .i64 (l1))).alloc (.cells #[.int .u8 t.kind, .string s, .int .i64 t.num, .int .i64 t.pos, .slice ao t.kids.length c, .int .i64 a] 62)).heap.size := by simp
    by_cases hl : l1 < 0
    · have hl' : decide (l1 < 0) = true := decide_eq_true hl
      have HLn := Lib.hid hl'
      clear hl
      go_region
      all_goals (go_wp2_with fail; go_meet)
      all_goals exact ⟨by rw [HLn.out]; rfl, RowKit_drewN (Below.refl _ _) 1⟩
    · have hl' : decide (l1 < 0) = false := decide_eq_false hl
      have HLn := Lib.hid hl'
      clear hl
      have mixed : Tryz.prog.follows .mixedOrders = true := by kernel_rfl
      have HW3 : Hid (∀ p : BelW ((w.setCell ⟨wb, 1, none⟩ (.int .i64 l1)).alloc (.cells #[.int .u8 t.kind, .string s, .int .i64 t.num, .int .i64 t.pos, .slice ao t.kids.length c, .int .i64 a] 62)), WalkAt B wb p.w sv L l1) := fun p => HW2.out.below p.h
      have HF3 : Hid (∀ p : BelW ((w.setCell ⟨wb, 1, none⟩ (.int .i64 l1)).alloc (.cells #[.int .u8 t.kind, .string s, .int .i64 t.num, .int .i64 t.pos, .slice ao t.kids.length c, .int .i64 a] 62)), Fr wb w p.w) := fun p => HF2.out.trans (Fr.of_below p.h)
      have m0 : ∀ p : BelW ((w.setCell ⟨wb, 1, none⟩ (.int .i64 l1)).alloc (.cells #[.int .u8 t.kind, .string s, .int .i64 t.num, .int .i64 t.pos, .slice ao t.kids.length c, .int .i64 a] 62)), p.w.cell? ⟨wb, 0, none⟩ = some sv := fun p => (HW3.out p).c0
      have m1 : ∀ p : BelW ((w.setCell ⟨wb, 1, none⟩ (.int .i64 l1)).alloc (.cells #[.int .u8 t.kind, .string s, .int .i64 t.num, .int .i64 t.pos, .slice ao t.kids.length c, .int .i64 a] 62)), p.w.cell? ⟨wb, 1, none⟩ = some (.int .i64 l1) := fun p => (HW3.out p).c1
      have n0 : ∀ p : BelW ((w.setCell ⟨wb, 1, none⟩ (.int .i64 l1)).alloc (.cells #[.int .u8 t.kind, .string s, .int .i64 t.num, .int .i64 t.pos, .slice ao t.kids.length c, .int .i64 a] 62)), p.w.cell? ⟨w.heap.size, 0, none⟩ = some (.int .u8 t.kind) := fun p => by
        have := (bret p.h).1 0
        rw [World.size_setCell] at this
        rw [this]
        have e := cells_made (w.setCell ⟨wb, 1, none⟩ (.int .i64 l1)) #[.int .u8 t.kind, .string s, .int .i64 t.num, .int .i64 t.pos, .slice ao t.kids.length c, .int .i64 a] 62 0 _ rfl
        rwa [World.size_setCell] at e
      have n1 : ∀ p : BelW ((w.setCell ⟨wb, 1, none⟩ (.int .i64 l1)).alloc (.cells #[.int .u8 t.kind, .string s, .int .i64 t.num, .int .i64 t.pos, .slice ao t.kids.length c, .int .i64 a] 62)), p.w.cell? ⟨w.heap.size, 1, none⟩ = some (.string s) := fun p => by
        have := (bret p.h).1 1
        rw [World.size_setCell] at this
        rw [this]
        have e := cells_made (w.setCell ⟨wb, 1, none⟩ (.int .i64 l1)) #[.int .u8 t.kind, .string s, .int .i64 t.num, .int .i64 t.pos, .slice ao t.kids.length c, .int .i64 a] 62 1 _ rfl
        rwa [World.size_setCell] at e
      have n2 : ∀ p : BelW ((w.setCell ⟨wb, 1, none⟩ (.int .i64 l1)).alloc (.cells #[.int .u8 t.kind, .string s, .int .i64 t.num, .int .i64 t.pos, .slice ao t.kids.length c, .int .i64 a] 62)), p.w.cell? ⟨w.heap.size, 2, none⟩ = some (.int .i64 t.num) := fun p => by
        have := (bret p.h).1 2
        rw [World.size_setCell] at this
        rw [this]
        have e := cells_made (w.setCell ⟨wb, 1, none⟩ (.int .i64 l1)) #[.int .u8 t.kind, .string s, .int .i64 t.num, .int .i64 t.pos, .slice ao t.kids.length c, .int .i64 a] 62 2 _ rfl
        rwa [World.size_setCell] at e
      have n3 : ∀ p : BelW ((w.setCell ⟨wb, 1, none⟩ (.int .i64 l1)).alloc (.cells #[.int .u8 t.kind, .string s, .int .i64 t.num, .int .i64 t.pos, .slice ao t.kids.length c, .int .i64 a] 62)), p.w.cell? ⟨w.heap.size, 3, none⟩ = some (.int .i64 t.pos) := fun p => by
        have := (bret p.h).1 3
        rw [World.size_setCell] at this
        rw [this]
        have e := cells_made (w.setCell ⟨wb, 1, none⟩ (.int .i64 l1)) #[.int .u8 t.kind, .string s, .int .i64 t.num, .int .i64 t.pos, .slice ao t.kids.length c, .int .i64 a] 62 3 _ rfl
        rwa [World.size_setCell] at e
      have n4 : ∀ p : BelW ((w.setCell ⟨wb, 1, none⟩ (.int .i64 l1)).alloc (.cells #[.int .u8 t.kind, .string s, .int .i64 t.num, .int .i64 t.pos, .slice ao t.kids.length c, .int .i64 a] 62)), p.w.cell? ⟨w.heap.size, 4, none⟩ = some (.slice ao t.kids.length c) := fun p => by
        have := (bret p.h).1 4
        rw [World.size_setCell] at this
        rw [this]
        have e := cells_made (w.setCell ⟨wb, 1, none⟩ (.int .i64 l1)) #[.int .u8 t.kind, .string s, .int .i64 t.num, .int .i64 t.pos, .slice ao t.kids.length c, .int .i64 a] 62 4 _ rfl
        rwa [World.size_setCell] at e
      have n5 : ∀ p : BelW ((w.setCell ⟨wb, 1, none⟩ (.int .i64 l1)).alloc (.cells #[.int .u8 t.kind, .string s, .int .i64 t.num, .int .i64 t.pos, .slice ao t.kids.length c, .int .i64 a] 62)), p.w.cell? ⟨w.heap.size, 5, none⟩ = some (.int .i64 a) := fun p => by
        have := (bret p.h).1 5
        rw [World.size_setCell] at this
        rw [this]
        have e := cells_made (w.setCell ⟨wb, 1, none⟩ (.int .i64 l1)) #[.int .u8 t.kind, .string s, .int .i64 t.num, .int .i64 t.pos, .slice ao t.kids.length c, .int .i64 a] 62 5 _ rfl
        rwa [World.size_setCell] at e
      cases st with
      | false =>
        refine wp_region_quiet_bel (by assumption) (by kernel_rfl) ?_
        repeat (go_big_quiet_step (first | (go_at_call 53; go_must (exact (KS.out _).mono fun _ w' h => ⟨h.1, ⟨w', (BelW.h _).trans (h.2.below.mono (BelW.h _).size)⟩, rfl⟩))))
        refine wpQuiet_nil ?_
        rintro _ ⟨p, rfl⟩
        go_wp2_with fail
        go_meet
        exact ⟨by rw [HLn.out]; rfl, p.h⟩
      | true =>
        refine wp_region_quiet_bel (by assumption) (by kernel_rfl) ?_
        repeat (go_big_quiet_step (first
          | (go_at_call 53; go_must (exact (KS.out _).mono fun _ w' h => ⟨h.1, ⟨w', (BelW.h _).trans (h.2.below.mono (BelW.h _).size)⟩, rfl⟩))
          | (go_at_call 54; go_must (exact (KC.out _ (HW3.out _) (HF3.out _)).mono fun _ w' h => ⟨h.1, ⟨w', (BelW.h _).trans (h.2.mono (BelW.h _).size)⟩, rfl⟩))))
        refine wpQuiet_nil ?_
        rintro _ ⟨p, rfl⟩
        go_wp2_with fail
        go_meet
        exact ⟨by rw [HLn.out]; cases q <;> rfl, p.h⟩
  case rest =>
    obtain ⟨rfl, HBx⟩ := hcut
    have HWx := Lib.hid (HW2.out.below HBx.out)
    have HFx := Lib.hid (HF2.out.trans (Fr.of_below HBx.out))
    cases hbad : (decide (l1 < 0) || !st || !q) with
    | true =>
      have HR : Hid (walkR (hasQ L) t s a left = (false, l1)) := by
        have := HE.out
        rw [hbad, if_pos rfl] at this
        exact this
      clear hbad HE
      go_wp2_with fail
      go_ret
      rw [HR.out]
      exact ⟨rfl, HWx.out, HFx.out⟩
    | false =>
      have HR : Hid (walkR (hasQ L) t s a left = walkL (hasQ L) t.kind (t.kids.drop 0) (a + 1) l1) := by
        have := HE.out
        rw [hbad, if_neg (by decide)] at this
        exact this
      have hl0 : 0 ≤ l1 := by
        have : decide (l1 < 0) = false := by
          cases h : decide (l1 < 0) with
          | false => rfl
          | true => rw [h] at hbad; cases hbad
        have := of_decide_eq_false this
        omega
      have ha30 : a < 30 := by
        have h1 : st = true := by
          cases h : st with
          | true => rfl
          | false => rw [h] at hbad; simp at hbad
        have h2 := HSt.out
        rw [h1] at h2
        have h3 := (Bool.and_eq_true _ _ ▸ h2.symm).2
        have := of_decide_eq_true h3
        omega
      have n0 : wc.cell? ⟨w.heap.size, 0, none⟩ = some (.int .u8 t.kind) := by
        have := (bret HBx.out).1 0
        rw [World.size_setCell] at this
        rw [this]
        have e := cells_made (w.setCell ⟨wb, 1, none⟩ (.int .i64 l1)) #[.int .u8 t.kind, .string s, .int .i64 t.num, .int .i64 t.pos, .slice ao t.kids.length c, .int .i64 a] 62 0 _ rfl
        rwa [World.size_setCell] at e
      have n1 : wc.cell? ⟨w.heap.size, 1, none⟩ = some (.string s) := by
        have := (bret HBx.out).1 1
        rw [World.size_setCell] at this
        rw [this]
        have e := cells_made (w.setCell ⟨wb, 1, none⟩ (.int .i64 l1)) #[.int .u8 t.kind, .string s, .int .i64 t.num, .int .i64 t.pos, .slice ao t.kids.length c, .int .i64 a] 62 1 _ rfl
        rwa [World.size_setCell] at e
      have n2 : wc.cell? ⟨w.heap.size, 2, none⟩ = some (.int .i64 t.num) := by
        have := (bret HBx.out).1 2
        rw [World.size_setCell] at this
        rw [this]
        have e := cells_made (w.setCell ⟨wb, 1, none⟩ (.int .i64 l1)) #[.int .u8 t.kind, .string s, .int .i64 t.num, .int .i64 t.pos, .slice ao t.kids.length c, .int .i64 a] 62 2 _ rfl
        rwa [World.size_setCell] at e
      have n3 : wc.cell? ⟨w.heap.size, 3, none⟩ = some (.int .i64 t.pos) := by
        have := (bret HBx.out).1 3
        rw [World.size_setCell] at this
        rw [this]
        have e := cells_made (w.setCell ⟨wb, 1, none⟩ (.int .i64 l1)) #[.int .u8 t.kind, .string s, .int .i64 t.num, .int .i64 t.pos, .slice ao t.kids.length c, .int .i64 a] 62 3 _ rfl
        rwa [World.size_setCell] at e
      have n4 : wc.cell? ⟨w.heap.size, 4, none⟩ = some (.slice ao t.kids.length c) := by
        have := (bret HBx.out).1 4
        rw [World.size_setCell] at this
        rw [this]
        have e := cells_made (w.setCell ⟨wb, 1, none⟩ (.int .i64 l1)) #[.int .u8 t.kind, .string s, .int .i64 t.num, .int .i64 t.pos, .slice ao t.kids.length c, .int .i64 a] 62 4 _ rfl
        rwa [World.size_setCell] at e
      have n5 : wc.cell? ⟨w.heap.size, 5, none⟩ = some (.int .i64 a) := by
        have := (bret HBx.out).1 5
        rw [World.size_setCell] at this
        rw [this]
        have e := cells_made (w.setCell ⟨wb, 1, none⟩ (.int .i64 l1)) #[.int .u8 t.kind, .string s, .int .i64 t.num, .int .i64 t.pos, .slice ao t.kids.length c, .int .i64 a] 62 5 _ rfl
        rwa [World.size_setCell] at e
      clear hbad HE
      go_wp2_with fail
      go_loopw [38] (fun i wr => ∃ (j : Nat) (lf : Int), j ≤ t.kids.length ∧ i = .int .i64 j ∧ 0 ≤ lf ∧ lf ≤ 5000 ∧ Hid (walkR (hasQ L) t s a left = walkL (hasQ L) t.kind (t.kids.drop j) (a + 1) lf) ∧ Hid (WalkAt B wb wr sv L lf) ∧ Hid (Fr wb wc wr)) (fun i _ => t.kids.length - (intOf i).toNat)
      case atStart => exact ⟨0, l1, by omega, rfl, hl0, hl1r.2, HR, HWx, Fr.refl _ _⟩
      case round =>
        clear HR HWx hl0
        obtain ⟨j, lf, hj, rfl, hlf0, hlf1, HR, HWr, HFc⟩ := hrel
        have HFw := Lib.hid (HFx.out.trans HFc.out)
        by_cases hlt : j < t.kids.length
        · have hjn : (j : Int) < (t.kids.length : Int) := by omega
          have hcz : w.heap.size < wc.heap.size := by
            have := HBx.out.size
            simp at this
            omega
          have hwn : w.heap.size ≠ wb := by omega
          have v0 := HFc.out.cell n0 hwn
          have v1 := HFc.out.cell n1 hwn
          have v2 := HFc.out.cell n2 hwn
          have v3 := HFc.out.cell n3 hwn
          have v4 := HFc.out.cell n4 hwn
          have v5 := HFc.out.cell n5 hwn
          have hbz : w.heap.size < wr.heap.size := Nat.lt_of_lt_of_le hcz HFc.out.size
          obtain ⟨sb, off, rfl, hsb, hc⟩ := (HA.out.up (HFw.out.below HB0.out HW.out.le) (Nat.le_refl _)).at (by omega)
          obtain ⟨u1, d0, d1, d2, d3, d4, hL1⟩ := hc j hlt
          have hsl : sb < wr.heap.size := by have := HWr.out.le; have := HWr.out.lt; omega
          have HSk := Lib.hid (HSh.out.kid (List.getElem_mem hlt))
          have HIk := Lib.hid (HI.out _ (List.getElem_mem hlt))
          have HR1 : Hid (walkR (hasQ L) t s a left = if (walkR (hasQ L) t.kids[j] (seenT t.kind t.kids[j]) (a + 1) lf).1 = true then walkL (hasQ L) t.kind (t.kids.drop (j + 1)) (a + 1) (walkR (hasQ L) t.kids[j] (seenT t.kind t.kids[j]) (a + 1) lf).2 else (false, (walkR (hasQ L) t.kids[j] (seenT t.kind t.kids[j]) (a + 1) lf).2)) := by
            have := HR.out
            rw [walkL_drop _ _ _ j hlt] at this
            exact this
          have HRg := Lib.hid (walk_range (hasQ L) t.kids[j] (seenT t.kind t.kids[j]) (a + 1) lf)
          clear hc HR
          generalize t.kids[j] = u at d0 d1 d2 d3 d4 hL1 HSk HIk HR1 HRg
          obtain ⟨ua, uc, ups, rfl, -⟩ := hL1.out
          have HLu := Lib.hid hL1
          have KB : Hid (∀ W, Calls Tryz.prog 56 #[.agg #[.int .u8 t.kind, .string s, .int .i64 t.num, .int .i64 t.pos, .slice (some ⟨sb, off, none⟩) t.kids.length c, .int .i64 a], .agg #[.int .u8 u.kind, .string u.text, .int .i64 u.num, .int .i64 u.pos, .slice ua u.kids.length uc]] W fun e w' => e = .returned (.agg #[.int .u8 u.kind, .string (seenT t.kind u), .int .i64 u.num, .int .i64 u.pos, .slice ua u.kids.length uc, .int .i64 (a + 1)]) ∧ Below W.heap.size W w') := fun W => below_any (.mk t.kind s t.num t.pos t.kids) u (.slice (some ⟨sb, off, none⟩) t.kids.length c) ua u.kids.length uc a (by omega) (by omega) W
          have KR : Hid (∀ W, Below wr.heap.size wr W → Calls Tryz.prog 29 #[.pointer (some ⟨wb, 0, none⟩), .agg #[.int .u8 u.kind, .string (seenT t.kind u), .int .i64 u.num, .int .i64 u.pos, .slice ua u.kids.length uc, .int .i64 (a + 1)]] W fun e w' => e = .returned (.bool (walkR (hasQ L) u (seenT t.kind u) (a + 1) lf).1) ∧ WalkAt B wb w' sv L (walkR (hasQ L) u (seenT t.kind u) (a + 1) lf).2 ∧ Fr wb W w') := fun W hb => by
            have := HIk.out (seenT t.kind u) (a + 1) lf (.slice ua u.kids.length uc) sv L B wb W (HWr.out.below hb) hlf0 hlf1 (by omega) (Nat.le_trans (seenT_size _ _) HSk.out.size) HSk.out (HLu.out.keep (hb.mono (by have := HWr.out.le; have := HWr.out.lt; omega)))
            rw [show ((a + 1 : Nat) : Int) = (a : Int) + 1 by omega] at this
            exact this
          clear HIk HSk hL1
          generalize seenT t.kind u = su at KB KR HR1 HRg
          generalize walkR (hasQ L) u su (a + 1) lf = rr at KR HR1 HRg
          obtain ⟨r1, r2⟩ := rr
          cases r1 with
          | true =>
            have hrg := HRg.out rfl
            have hr0 : 0 ≤ r2 := hrg.1
            have hr1 : r2 ≤ 5000 := by have := hrg.2; simp only at this; omega
            have HR2 : Hid (walkR (hasQ L) t s a left = walkL (hasQ L) t.kind (t.kids.drop (j + 1)) (a + 1) r2) := by
              have := HR1.out
              rw [if_pos rfl] at this
              exact this
            clear HR1 HRg hrg
            go_wp2_with (first
              | (go_at_call 56; go_must (refine (KB.out _).mono ?_; rintro e w4 ⟨rfl, hb4⟩; have HB4 := Lib.hid (below_step (below_own _) hb4); clear hb4))
              | (go_at_call 29; go_must (refine (KR.out _ HB4.out).mono ?_; rintro e w5 ⟨rfl, hw5, hf5⟩; have HW5 := Lib.hid hw5; have HF5 := Lib.hid (HFc.out.trans ((Fr.of_below HB4.out).trans hf5)); clear hw5 hf5)))
            clear KB KR d0 d1 d2 d3 d4 v0 v1 v2 v3 v4 v5 HWr HFc HFw HLu
            go_roundw
            case rel => exact ⟨j + 1, r2, by omega, by go_num, hr0, hr1, HR2, HW5, HF5⟩
            case measure => simp [intOf]; omega
          | false =>
            have HR2 : Hid (walkR (hasQ L) t s a left = (false, r2)) := by
              have := HR1.out
              rw [if_neg (by simp)] at this
              exact this
            clear HR1 HRg
            go_wp2_with (first
              | (go_at_call 56; go_must (refine (KB.out _).mono ?_; rintro e w4 ⟨rfl, hb4⟩; have HB4 := Lib.hid (below_step (below_own _) hb4); clear hb4))
              | (go_at_call 29; go_must (refine (KR.out _ HB4.out).mono ?_; rintro e w5 ⟨rfl, hw5, hf5⟩; have HW5 := Lib.hid hw5; have HF5 := Lib.hid (HFw.out.trans ((Fr.of_below HB4.out).trans hf5)); clear hw5 hf5)))
            go_ret
            rw [HR2.out]
            exact ⟨rfl, HW5.out, HF5.out⟩
        · obtain rfl : j = t.kids.length := by omega
          have HR1 : Hid (walkR (hasQ L) t s a left = (true, lf)) := by
            have := HR.out
            rw [List.drop_length, walkL] at this
            exact this
          clear HR
          go_wp2_with fail
          go_ret
          rw [HR1.out]
          exact ⟨rfl, HWr.out, HFw.out⟩
theorem progRight_walk (t : T) : RightOK t := T.ind right_step t
end Go.Proofs.YtfmjhbaenpbfoaaGreatDoor
