/- Do: each of its ends by a walk of its own. -/
import Derived.Test.YtkbkkhfmejpbeaaAns
namespace Go.Proofs.Ytkbkkhfmejpbeaa
open Go.RowKit

theorem bcell {W w1 : World} (hb : Below W.heap.size W w1) : (∀ b o, b < W.heap.size → w1.cell? ⟨b, o, none⟩ = W.cell? ⟨b, o, none⟩) ∧ (∀ b o, b < W.heap.size → w1.frozen? ⟨b, o, none⟩ = W.frozen? ⟨b, o, none⟩) :=
  ⟨fun b o h => hb.cell (p := ⟨b, o, none⟩) h, fun b o h => hb.frozen (p := ⟨b, o, none⟩) h⟩

theorem wrong_p (x : Int × Int × ByteArray) (W : World) (h : x.2.2.size ≤ maxLen) : Calls Try.prog 55 #[.agg #[.int .u8 x.1, .int .i64 x.2.1, .string x.2.2]] W fun e w' => e = .returned (.bool (!rightB x.1 x.2.1 x.2.2)) ∧ Below W.heap.size W w' :=
  wrong_any _ _ _ _ h

theorem isName_p (x : Int × Int × ByteArray) (W : World) (_ : x.2.2.size ≤ maxLen) : Calls Try.prog 57 #[.agg #[.int .u8 x.1, .int .i64 x.2.1, .string x.2.2]] W fun e w' => e = .returned (.bool (x.1 == 2)) ∧ Below W.heap.size W w' :=
  isName_any _ _ _ _

def wrongB (x : Int × Int × ByteArray) : Bool := !rightB x.1 x.2.1 x.2.2
def nameB (x : Int × Int × ByteArray) : Bool := x.1 == 2

theorem contains_wrong (b off c : Nat) (zs : List (Int × Int × ByteArray)) (w : World) (hz : zs.length ≤ 9223372036854775807) (hb : b < w.heap.size) (hc : RowAt w b off zs) (hm : ∀ x, x ∈ zs → x.2.2.size ≤ maxLen) :
    Calls Try.prog 54 #[.slice (some ⟨b, off, none⟩) zs.length c, .func (.func 55) #[] #[]] w fun e w' => e = .returned (.bool (zs.any wrongB)) ∧ Below w.heap.size w w' :=
  contains_any 55 wrongB (enters_of Try.func55 (by kernel_rfl) rfl) (fun x W h => wrong_p x W h) b off c zs w hz hb hc hm

theorem contains_name (b off c : Nat) (zs : List (Int × Int × ByteArray)) (w : World) (hz : zs.length ≤ 9223372036854775807) (hb : b < w.heap.size) (hc : RowAt w b off zs) (hm : ∀ x, x ∈ zs → x.2.2.size ≤ maxLen) :
    Calls Try.prog 54 #[.slice (some ⟨b, off, none⟩) zs.length c, .func (.func 57) #[] #[]] w fun e w' => e = .returned (.bool (zs.any nameB)) ∧ Below w.heap.size w w' :=
  contains_any 57 nameB (enters_of Try.func57 (by kernel_rfl) rfl) (fun x W h => isName_p x W h) b off c zs w hz hb hc hm

/-- The two results of Do. -/
def DoPost (r : (Int × Int × ByteArray) × Int) (w : World) (e : Ending) (w' : World) : Prop :=
  e = .returned (.tuple #[.agg #[.int .u8 r.1.1, .int .i64 r.1.2.1, .string r.1.2.2], .int .i64 r.2]) ∧ Below w.heap.size w w'

def zeroT : Int × Int × ByteArray := (0, 0, ⟨#[]⟩)
def numT (n : Int) : Int × Int × ByteArray := (1, n, ⟨#[]⟩)

theorem RowAt.later {w w' : World} {b off : Nat} {zs : List (Int × Int × ByteArray)} (h : RowAt w b off zs) (hb : Below w.heap.size w w') (hl : b < w.heap.size) : RowAt w' b off zs :=
  fun j hj => (h j hj).later hb hl

theorem RowAt.two {w : World} {b off : Nat} {x y : Int × Int × ByteArray} (hx : At w b off x) (hy : At w b (off + 3) y) : RowAt w b off [x, y] := by
  intro j hj
  match j, hj with
  | 0, _ => simpa using hx
  | 1, _ => simpa using hy

theorem RowAt.one {w : World} {b off : Nat} {x : Int × Int × ByteArray} (hx : At w b off x) : RowAt w b off [x] := by
  intro j hj
  match j, hj with
  | 0, _ => simpa using hx

theorem below_own {w : World} (o : Obj) : Below w.heap.size w (w.alloc o) := (Below.refl _ w).alloc (Nat.le_refl _) o

theorem below_step {w W w1 : World} (h : Below w.heap.size w W) (h1 : Below W.heap.size W w1) : Below w.heap.size w w1 := h.trans (h1.mono h.size)

theorem below_put3 {w W : World} (h : Below w.heap.size w W) (x y z : Value) : Below w.heap.size w (((W.setCell ⟨w.heap.size, 0, none⟩ x).setCell ⟨w.heap.size, 1, none⟩ y).setCell ⟨w.heap.size, 2, none⟩ z) :=
  ((h.setCell (Nat.le_refl _) x).setCell (Nat.le_refl _) y).setCell (Nat.le_refl _) z

theorem below_new {w W : World} (h : Below w.heap.size w W) (o : Obj) : Below w.heap.size w (W.alloc o) := h.alloc h.size o

theorem do_unknown (op : Int) (v : Value) (w : World) (h : knownB op = false) :
    Calls Try.prog 44 #[.int .u8 op, v] w (DoPost (zeroT, 2) w) := by
  go_enter Try.func44, Try.ntmps44
  go_wp2_with (go_at_call 52; refine (known_any _ _).mono ?_; rintro e w' ⟨rfl, rfl⟩)
  refine bodyPost_ret (v := .tuple #[.agg #[.int .u8 0, .int .i64 0, .string ⟨#[]⟩], .int .i64 2]) (by simp [results, Try.results44, go_sem]) rfl ⟨rfl, ?_⟩
  exact below_own _

theorem do_places (op : Int) (a : Option Addr) (n c : Nat) (w : World) (h : knownB op = true) (h2 : ((n : Int) != placesN op) = true) :
    Calls Try.prog 44 #[.int .u8 op, .slice a n c] w (DoPost (zeroT, 2) w) := by
  go_enter Try.func44, Try.ntmps44
  go_wp2_with (first | (go_at_call 52; refine (known_any _ _).mono ?_; rintro e w' ⟨rfl, rfl⟩) | (go_at_call 53; refine (places_any _ _).mono ?_; rintro e w' ⟨rfl, rfl⟩))
  refine bodyPost_ret (v := .tuple #[.agg #[.int .u8 0, .int .i64 0, .string ⟨#[]⟩], .int .i64 2]) (by simp [results, Try.results44, go_sem]) rfl ⟨rfl, ?_⟩
  exact below_own _

theorem do_wrong (op : Int) (b off n c : Nat) (w : World) (h : knownB op = true) (h2 : ((n : Int) != placesN op) = false)
    (HW : Hid (∀ W, Below w.heap.size w W → Calls Try.prog 54 #[.slice (some ⟨b, off, none⟩) n c, .func (.func 55) #[] #[]] W fun e w' => e = .returned (.bool true) ∧ Below W.heap.size W w')) :
    Calls Try.prog 44 #[.int .u8 op, .slice (some ⟨b, off, none⟩) n c] w (DoPost (zeroT, 2) w) := by
  go_enter Try.func44, Try.ntmps44
  go_wp2_with (first | (go_at_call 52; refine (known_any _ _).mono ?_; rintro e w' ⟨rfl, rfl⟩) | (go_at_call 53; refine (places_any _ _).mono ?_; rintro e w' ⟨rfl, rfl⟩))
  refine (HW.out _ ?_).mono ?_
  · exact below_own _
  rintro e w1 ⟨rfl, hb1⟩
  obtain ⟨hc1, hf1⟩ := bcell hb1
  have hz1 : w.heap.size < w1.heap.size := by have := hb1.size; simp at this; omega
  have HB1 := Lib.hid hb1
  clear hb1
  go_wp2
  refine bodyPost_ret (v := .tuple #[.agg #[.int .u8 0, .int .i64 0, .string ⟨#[]⟩], .int .i64 2]) (by simp [results, Try.results44, go_sem, hc1]) rfl ⟨rfl, ?_⟩
  exact (below_step (below_own _) HB1.out).setCell (by simp) _ |>.setCell (by simp) _ |>.setCell (by simp) _

set_option maxHeartbeats 400000 in
theorem do_kind (op : Int) (b off n c : Nat) (w : World) (h : knownB op = true) (h2 : ((n : Int) != placesN op) = false) (h3 : takesB op = false)
    (HW : Hid (∀ W, Below w.heap.size w W → Calls Try.prog 54 #[.slice (some ⟨b, off, none⟩) n c, .func (.func 55) #[] #[]] W fun e w' => e = .returned (.bool false) ∧ Below W.heap.size W w'))
    (HN : Hid (∀ W, Below w.heap.size w W → Calls Try.prog 54 #[.slice (some ⟨b, off, none⟩) n c, .func (.func 57) #[] #[]] W fun e w' => e = .returned (.bool true) ∧ Below W.heap.size W w')) :
    Calls Try.prog 44 #[.int .u8 op, .slice (some ⟨b, off, none⟩) n c] w (DoPost (zeroT, 301) w) := by
  go_enter Try.func44, Try.ntmps44
  go_wp2_with (first | (go_at_call 52; refine (known_any _ _).mono ?_; rintro e w' ⟨rfl, rfl⟩) | (go_at_call 53; refine (places_any _ _).mono ?_; rintro e w' ⟨rfl, rfl⟩))
  refine (HW.out _ ?_).mono ?_
  · exact below_own _
  rintro e w1 ⟨rfl, hb1⟩
  obtain ⟨hc1, hf1⟩ := bcell hb1
  have hz1 : w.heap.size < w1.heap.size := by have := hb1.size; simp at this; omega
  have HB1 : Hid (Below w.heap.size w w1) := below_step (below_own _) hb1
  clear hb1
  go_wp2_with (go_at_call 56; refine (takesNames_any _ _).mono ?_; rintro e w' ⟨rfl, rfl⟩)
  refine (HN.out _ HB1.out).mono ?_
  rintro e w2 ⟨rfl, hb2⟩
  obtain ⟨hc2, hf2⟩ := bcell hb2
  have hz2 : w.heap.size < w2.heap.size := by have := hb2.size; omega
  have HB2 : Hid (Below w.heap.size w w2) := below_step HB1.out hb2
  clear hb2
  go_wp2
  refine bodyPost_ret (v := .tuple #[.agg #[.int .u8 0, .int .i64 0, .string ⟨#[]⟩], .int .i64 301]) (by simp [results, Try.results44, go_sem, hc1, hc2, hz1]) rfl ⟨rfl, ?_⟩
  exact below_put3 HB2.out _ _ _

set_option maxHeartbeats 400000 in
theorem do_asked (op : Int) (r : Bool) (b off n c : Nat) (w : World) (h : knownB op = true) (h2 : ((n : Int) != placesN op) = false) (h3 : takesB op = true)
    (HW : Hid (∀ W, Below w.heap.size w W → Calls Try.prog 54 #[.slice (some ⟨b, off, none⟩) n c, .func (.func 55) #[] #[]] W fun e w' => e = .returned (.bool false) ∧ Below W.heap.size W w'))
    (HA : Hid (∀ W, Below w.heap.size w W → Calls Try.prog 58 #[.int .u8 op, .slice (some ⟨b, off, none⟩) n c] W fun e w' => e = .returned (.tuple #[.bool r, .bool true]) ∧ Below W.heap.size W w')) :
    Calls Try.prog 44 #[.int .u8 op, .slice (some ⟨b, off, none⟩) n c] w (DoPost (numT (truthN r), 0) w) := by
  go_enter Try.func44, Try.ntmps44
  go_wp2_with (first | (go_at_call 52; refine (known_any _ _).mono ?_; rintro e w' ⟨rfl, rfl⟩) | (go_at_call 53; refine (places_any _ _).mono ?_; rintro e w' ⟨rfl, rfl⟩))
  refine (HW.out _ ?_).mono ?_
  · exact below_own _
  rintro e w1 ⟨rfl, hb1⟩
  obtain ⟨hc1, hf1⟩ := bcell hb1
  have hz1 : w.heap.size < w1.heap.size := by have := hb1.size; simp at this; omega
  have HB1 : Hid (Below w.heap.size w w1) := below_step (below_own _) hb1
  clear hb1
  go_wp2_with (go_at_call 56; refine (takesNames_any _ _).mono ?_; rintro e w' ⟨rfl, rfl⟩)
  refine (HA.out _ HB1.out).mono ?_
  rintro e w2 ⟨rfl, hb2⟩
  obtain ⟨hc2, hf2⟩ := bcell hb2
  have hz2 : w.heap.size < w2.heap.size := by have := hb2.size; omega
  have HB2 : Hid (Below w.heap.size w w2) := below_step HB1.out hb2
  clear hb2
  go_wp2_with (go_at_call 59; refine (truth_any _ _).mono ?_; rintro e w' ⟨rfl, rfl⟩)
  refine bodyPost_ret (v := .tuple #[.agg #[.int .u8 1, .int .i64 (truthN r), .string ⟨#[]⟩], .int .i64 0]) (by simp [results, Try.results44, go_sem, hc1, hc2, hz1, hz2]) rfl ⟨rfl, ?_⟩
  exact below_new (below_new (below_put3 HB2.out _ _ _) _) _

set_option maxHeartbeats 400000 in
theorem do_asked' (op : Int) (r : Bool) (b off n c : Nat) (w : World) (h : knownB op = true) (h2 : ((n : Int) != placesN op) = false) (h3 : takesB op = false)
    (HW : Hid (∀ W, Below w.heap.size w W → Calls Try.prog 54 #[.slice (some ⟨b, off, none⟩) n c, .func (.func 55) #[] #[]] W fun e w' => e = .returned (.bool false) ∧ Below W.heap.size W w'))
    (HN : Hid (∀ W, Below w.heap.size w W → Calls Try.prog 54 #[.slice (some ⟨b, off, none⟩) n c, .func (.func 57) #[] #[]] W fun e w' => e = .returned (.bool false) ∧ Below W.heap.size W w'))
    (HA : Hid (∀ W, Below w.heap.size w W → Calls Try.prog 58 #[.int .u8 op, .slice (some ⟨b, off, none⟩) n c] W fun e w' => e = .returned (.tuple #[.bool r, .bool true]) ∧ Below W.heap.size W w')) :
    Calls Try.prog 44 #[.int .u8 op, .slice (some ⟨b, off, none⟩) n c] w (DoPost (numT (truthN r), 0) w) := by
  go_enter Try.func44, Try.ntmps44
  go_wp2_with (first | (go_at_call 52; refine (known_any _ _).mono ?_; rintro e w' ⟨rfl, rfl⟩) | (go_at_call 53; refine (places_any _ _).mono ?_; rintro e w' ⟨rfl, rfl⟩))
  refine (HW.out _ ?_).mono ?_
  · exact below_own _
  rintro e w1 ⟨rfl, hb1⟩
  obtain ⟨hc1, hf1⟩ := bcell hb1
  have hz1 : w.heap.size < w1.heap.size := by have := hb1.size; simp at this; omega
  have HB1 : Hid (Below w.heap.size w w1) := below_step (below_own _) hb1
  clear hb1
  go_wp2_with (go_at_call 56; refine (takesNames_any _ _).mono ?_; rintro e w' ⟨rfl, rfl⟩)
  refine (HN.out _ HB1.out).mono ?_
  rintro e w2 ⟨rfl, hb2⟩
  obtain ⟨hc2, hf2⟩ := bcell hb2
  have hz2 : w.heap.size < w2.heap.size := by have := hb2.size; omega
  have HB2 : Hid (Below w.heap.size w w2) := below_step HB1.out hb2
  clear hb2
  go_wp2_with fail
  refine (HA.out _ HB2.out).mono ?_
  rintro e w3 ⟨rfl, hb3⟩
  obtain ⟨hc3, hf3⟩ := bcell hb3
  have hz3 : w.heap.size < w3.heap.size := by have := hb3.size; omega
  have HB3 : Hid (Below w.heap.size w w3) := below_step HB2.out hb3
  clear hb3
  go_wp2_with (go_at_call 59; refine (truth_any _ _).mono ?_; rintro e w' ⟨rfl, rfl⟩)
  refine bodyPost_ret (v := .tuple #[.agg #[.int .u8 1, .int .i64 (truthN r), .string ⟨#[]⟩], .int .i64 0]) (by simp [results, Try.results44, go_sem, hc1, hc2, hc3, hz1, hz2, hz3]) rfl ⟨rfl, ?_⟩
  exact below_new (below_new (below_put3 HB3.out _ _ _) _) _

set_option maxHeartbeats 400000 in
theorem do_fits (op : Int) (m : Int) (b off n c : Nat) (w : World) (h : knownB op = true) (h2 : ((n : Int) != placesN op) = false) (h3 : takesB op = false)
    (HW : Hid (∀ W, Below w.heap.size w W → Calls Try.prog 54 #[.slice (some ⟨b, off, none⟩) n c, .func (.func 55) #[] #[]] W fun e w' => e = .returned (.bool false) ∧ Below W.heap.size W w'))
    (HN : Hid (∀ W, Below w.heap.size w W → Calls Try.prog 54 #[.slice (some ⟨b, off, none⟩) n c, .func (.func 57) #[] #[]] W fun e w' => e = .returned (.bool false) ∧ Below W.heap.size W w'))
    (HA : Hid (∀ W, Below w.heap.size w W → Calls Try.prog 58 #[.int .u8 op, .slice (some ⟨b, off, none⟩) n c] W fun e w' => e = .returned (.tuple #[.bool false, .bool false]) ∧ Below W.heap.size W w'))
    (HR : Hid (∀ W, Below w.heap.size w W → Calls Try.prog 60 #[.int .u8 op, .slice (some ⟨b, off, none⟩) n c] W fun e w' => e = .returned (.tuple #[.int .i64 m, .bool true]) ∧ Below W.heap.size W w')) :
    Calls Try.prog 44 #[.int .u8 op, .slice (some ⟨b, off, none⟩) n c] w (DoPost (numT m, 0) w) := by
  go_enter Try.func44, Try.ntmps44
  go_wp2_with (first | (go_at_call 52; refine (known_any _ _).mono ?_; rintro e w' ⟨rfl, rfl⟩) | (go_at_call 53; refine (places_any _ _).mono ?_; rintro e w' ⟨rfl, rfl⟩))
  refine (HW.out _ ?_).mono ?_
  · exact below_own _
  rintro e w1 ⟨rfl, hb1⟩
  obtain ⟨hc1, hf1⟩ := bcell hb1
  have hz1 : w.heap.size < w1.heap.size := by have := hb1.size; simp at this; omega
  have HB1 : Hid (Below w.heap.size w w1) := below_step (below_own _) hb1
  clear hb1
  go_wp2_with (go_at_call 56; refine (takesNames_any _ _).mono ?_; rintro e w' ⟨rfl, rfl⟩)
  refine (HN.out _ HB1.out).mono ?_
  rintro e w2 ⟨rfl, hb2⟩
  obtain ⟨hc2, hf2⟩ := bcell hb2
  have hz2 : w.heap.size < w2.heap.size := by have := hb2.size; omega
  have HB2 : Hid (Below w.heap.size w w2) := below_step HB1.out hb2
  clear hb2
  go_wp2_with fail
  refine (HA.out _ HB2.out).mono ?_
  rintro e w3 ⟨rfl, hb3⟩
  obtain ⟨hc3, hf3⟩ := bcell hb3
  have hz3 : w.heap.size < w3.heap.size := by have := hb3.size; omega
  have HB3 : Hid (Below w.heap.size w w3) := below_step HB2.out hb3
  clear hb3
  go_wp2_with fail
  refine (HR.out _ HB3.out).mono ?_
  rintro e w4 ⟨rfl, hb4⟩
  obtain ⟨hc4, hf4⟩ := bcell hb4
  have hz4 : w.heap.size < w4.heap.size := by have := hb4.size; omega
  have HB4 : Hid (Below w.heap.size w w4) := below_step HB3.out hb4
  clear hb4
  go_wp2_with (go_at_call 61; refine (number_any _ _).mono ?_; rintro e w' ⟨rfl, rfl⟩)
  refine bodyPost_ret (v := .tuple #[.agg #[.int .u8 1, .int .i64 m, .string ⟨#[]⟩], .int .i64 0]) (by simp [results, Try.results44, go_sem, hc1, hc2, hc3, hc4, hz1, hz2, hz3, hz4]) rfl ⟨rfl, ?_⟩
  exact below_new (below_put3 HB4.out _ _ _) _

set_option maxHeartbeats 400000 in
theorem do_over (op : Int) (m : Int) (b off n c : Nat) (w : World) (h : knownB op = true) (h2 : ((n : Int) != placesN op) = false) (h3 : takesB op = false)
    (HW : Hid (∀ W, Below w.heap.size w W → Calls Try.prog 54 #[.slice (some ⟨b, off, none⟩) n c, .func (.func 55) #[] #[]] W fun e w' => e = .returned (.bool false) ∧ Below W.heap.size W w'))
    (HN : Hid (∀ W, Below w.heap.size w W → Calls Try.prog 54 #[.slice (some ⟨b, off, none⟩) n c, .func (.func 57) #[] #[]] W fun e w' => e = .returned (.bool false) ∧ Below W.heap.size W w'))
    (HA : Hid (∀ W, Below w.heap.size w W → Calls Try.prog 58 #[.int .u8 op, .slice (some ⟨b, off, none⟩) n c] W fun e w' => e = .returned (.tuple #[.bool false, .bool false]) ∧ Below W.heap.size W w'))
    (HR : Hid (∀ W, Below w.heap.size w W → Calls Try.prog 60 #[.int .u8 op, .slice (some ⟨b, off, none⟩) n c] W fun e w' => e = .returned (.tuple #[.int .i64 m, .bool false]) ∧ Below W.heap.size W w')) :
    Calls Try.prog 44 #[.int .u8 op, .slice (some ⟨b, off, none⟩) n c] w (DoPost (zeroT, 300) w) := by
  go_enter Try.func44, Try.ntmps44
  go_wp2_with (first | (go_at_call 52; refine (known_any _ _).mono ?_; rintro e w' ⟨rfl, rfl⟩) | (go_at_call 53; refine (places_any _ _).mono ?_; rintro e w' ⟨rfl, rfl⟩))
  refine (HW.out _ ?_).mono ?_
  · exact below_own _
  rintro e w1 ⟨rfl, hb1⟩
  obtain ⟨hc1, hf1⟩ := bcell hb1
  have hz1 : w.heap.size < w1.heap.size := by have := hb1.size; simp at this; omega
  have HB1 : Hid (Below w.heap.size w w1) := below_step (below_own _) hb1
  clear hb1
  go_wp2_with (go_at_call 56; refine (takesNames_any _ _).mono ?_; rintro e w' ⟨rfl, rfl⟩)
  refine (HN.out _ HB1.out).mono ?_
  rintro e w2 ⟨rfl, hb2⟩
  obtain ⟨hc2, hf2⟩ := bcell hb2
  have hz2 : w.heap.size < w2.heap.size := by have := hb2.size; omega
  have HB2 : Hid (Below w.heap.size w w2) := below_step HB1.out hb2
  clear hb2
  go_wp2_with fail
  refine (HA.out _ HB2.out).mono ?_
  rintro e w3 ⟨rfl, hb3⟩
  obtain ⟨hc3, hf3⟩ := bcell hb3
  have hz3 : w.heap.size < w3.heap.size := by have := hb3.size; omega
  have HB3 : Hid (Below w.heap.size w w3) := below_step HB2.out hb3
  clear hb3
  go_wp2_with fail
  refine (HR.out _ HB3.out).mono ?_
  rintro e w4 ⟨rfl, hb4⟩
  obtain ⟨hc4, hf4⟩ := bcell hb4
  have hz4 : w.heap.size < w4.heap.size := by have := hb4.size; omega
  have HB4 : Hid (Below w.heap.size w w4) := below_step HB3.out hb4
  clear hb4
  go_wp2
  refine bodyPost_ret (v := .tuple #[.agg #[.int .u8 0, .int .i64 0, .string ⟨#[]⟩], .int .i64 300]) (by simp [results, Try.results44, go_sem, hc1, hc2, hc3, hc4, hz1, hz2, hz3]) rfl ⟨rfl, ?_⟩
  exact below_put3 HB4.out _ _ _

end Go.Proofs.Ytkbkkhfmejpbeaa
