/- No reader, and one that nobody made, tell nothing. -/
import Derived.Test.YtmocfielcllfmaaDoorAwake
namespace Go.Proofs.YtmocfielcllfmaaDoor
open Go.RowKit

def Dead (w : World) (r : Value) : Prop := r = .pointer none ∨ ∃ g, r = .pointer (some ⟨g, 0, none⟩) ∧ g < w.heap.size ∧ w.cell? ⟨g, 0, none⟩ = some (.pointer none)
theorem Dead.below {w w' : World} {r : Value} (h : Dead w r) (b : Below w.heap.size w w') : Dead w' r := by
  rcases h with h | ⟨g, h1, h2, h3⟩
  · exact Or.inl h
  · exact Or.inr ⟨g, h1, Nat.lt_of_lt_of_le h2 b.size, (b.cell (p := ⟨g, 0, none⟩) h2).trans h3⟩

theorem made_no (r : Value) (w : World) (h : Dead w r) :
    Calls Tryd.prog 46 #[r] w fun e w' => e = .returned (.bool false) ∧ w = w' := by
  rcases h with rfl | ⟨g, rfl, -, c0⟩
  · go_enter Tryd.func46, Tryd.ntmps46
    go_wp2
    go_ret
    exact ⟨rfl, rfl⟩
  · go_enter Tryd.func46, Tryd.ntmps46
    go_wp2
    go_ret
    exact ⟨rfl, rfl⟩

theorem bad_no (r : Value) (w : World) (h : Dead w r) :
    Calls Tryd.prog 14 #[r] w fun e w' => e = .returned (.bool false) ∧ w = w' := by
  have HM := Lib.hid (made_no r w h)
  clear h
  go_enter Tryd.func14, Tryd.ntmps14
  go_wp2_with (go_at_call 46; refine (HM.out).mono ?_; rintro e w0 ⟨rfl, rfl⟩)
  go_ret
  exact ⟨rfl, rfl⟩
theorem done_no (r : Value) (w : World) (h : Dead w r) :
    Calls Tryd.prog 15 #[r] w fun e w' => e = .returned (.bool false) ∧ w = w' := by
  have HM := Lib.hid (made_no r w h)
  clear h
  go_enter Tryd.func15, Tryd.ntmps15
  go_wp2_with (go_at_call 46; refine (HM.out).mono ?_; rintro e w0 ⟨rfl, rfl⟩)
  go_ret
  exact ⟨rfl, rfl⟩

theorem noN (r : Value) (w : World) (h : Dead w r) :
    Calls Tryd.prog 18 #[r] w fun e w' => e = .returned (.int .i64 0) ∧ Below w.heap.size w w' := by
  have HM := Lib.hid (made_no r w h)
  clear h
  have HW : Hid (Calls Tryd.prog 56 #[r, .func (.func 57) #[] #[]] w fun e w' => e = .returned (.int .i64 0) ∧ w = w') := by
    unfold Hid
    go_enter Tryd.func56, Tryd.ntmps56
    go_wp2_with (go_at_call 46; refine (HM.out).mono ?_; rintro e w0 ⟨rfl, rfl⟩)
    go_ret
    exact ⟨rfl, rfl⟩
  clear HM
  go_enter Tryd.func18, Tryd.ntmps18
  go_wp2_with (go_at_call 56; refine (HW.out).mono ?_; rintro e w0 ⟨rfl, rfl⟩)
  go_ret
  exact ⟨rfl, Below.refl _ _⟩

theorem noS (r : Value) (w : World) (h : Dead w r) :
    Calls Tryd.prog 19 #[r] w fun e w' => e = .returned (.string ⟨#[]⟩) ∧ Below w.heap.size w w' := by
  have HM := Lib.hid (made_no r w h)
  clear h
  have HW : Hid (Calls Tryd.prog 58 #[r, .func (.func 59) #[] #[]] w fun e w' => e = .returned (.string ⟨#[]⟩) ∧ w = w') := by
    unfold Hid
    go_enter Tryd.func58, Tryd.ntmps58
    go_wp2_with (go_at_call 46; refine (HM.out).mono ?_; rintro e w0 ⟨rfl, rfl⟩)
    go_ret
    exact ⟨rfl, rfl⟩
  clear HM
  go_enter Tryd.func19, Tryd.ntmps19
  go_wp2_with (go_at_call 58; refine (HW.out).mono ?_; rintro e w0 ⟨rfl, rfl⟩)
  go_ret
  exact ⟨rfl, Below.refl _ _⟩

theorem noL (r : Value) (w : World) (h : Dead w r) :
    Calls Tryd.prog 21 #[r] w fun e w' => e = .returned (.slice none 0 0) ∧ Below w.heap.size w w' := by
  have HM := Lib.hid (made_no r w h)
  clear h
  have HW : Hid (Calls Tryd.prog 62 #[r, .func (.func 63) #[] #[]] w fun e w' => e = .returned (.slice none 0 0) ∧ w = w') := by
    unfold Hid
    go_enter Tryd.func62, Tryd.ntmps62
    go_wp2_with (go_at_call 46; refine (HM.out).mono ?_; rintro e w0 ⟨rfl, rfl⟩)
    go_ret
    exact ⟨rfl, rfl⟩
  clear HM
  go_enter Tryd.func21, Tryd.ntmps21
  go_wp2_with (go_at_call 62; refine (HW.out).mono ?_; rintro e w0 ⟨rfl, rfl⟩)
  go_ret
  exact ⟨rfl, Below.refl _ _⟩

set_option maxRecDepth 100000 in
theorem noV (r : Value) (w : World) (h : Dead w r) :
    Calls Tryd.prog 20 #[r] w fun e w' => e = .returned (.agg #[.int .u8 0, .int .i64 0, .string ⟨#[]⟩]) ∧ Below w.heap.size w w' := by
  have HW : Hid (∀ w, Dead w r → Calls Tryd.prog 60 #[r, .func (.func 61) #[] #[]] w fun e w' => e = .returned (.agg #[.int .u8 0, .int .i64 0, .string ⟨#[]⟩]) ∧ Below w.heap.size w w') := by
    unfold Hid
    intro w h
    have HM := Lib.hid (made_no r _ (h.below (below_two w (.cells #[.int .u8 0, .int .i64 0, .string ⟨#[]⟩] 46) (.cells #[.int .u8 0, .int .i64 0, .string ⟨#[]⟩] 46))))
    clear h
    go_enter Tryd.func60, Tryd.ntmps60
    go_wp2_with (go_at_call 46; refine (HM.out).mono ?_; rintro e w0 ⟨rfl, rfl⟩)
    exact bodyPost_ret (v := .agg #[.int .u8 0, .int .i64 0, .string ⟨#[]⟩]) (by simp [results, Tryd.results60, go_sem]) rfl ⟨rfl, below_two w _ _⟩
  have HC := Lib.hid (HW.out _ (h.below (below_own (.cells #[.int .u8 0, .int .i64 0, .string ⟨#[]⟩] 46))))
  clear h HW
  go_enter Tryd.func20, Tryd.ntmps20
  go_wp2_with (go_at_call 60; refine (HC.out).mono ?_; rintro e w1 ⟨rfl, hb⟩; refine Hid.out ?_)
  obtain ⟨hc, hz⟩ := bret hb
  refine Lib.hid ?_
  go_wp2_with fail
  exact bodyPost_ret (v := .agg #[.int .u8 0, .int .i64 0, .string ⟨#[]⟩]) (by simp [results, Tryd.results20, go_sem, hc]) rfl ⟨rfl, ((((below_step (below_own _) hb).setCell (p := ⟨w.heap.size, 0, none⟩) (Nat.le_refl _) _).setCell (p := ⟨w.heap.size, 1, none⟩) (Nat.le_refl _) _).setCell (p := ⟨w.heap.size, 2, none⟩) (Nat.le_refl _) _)⟩

set_option maxRecDepth 100000 in
theorem noF (r : Value) (w : World) (h : Dead w r) :
    Calls Tryd.prog 23 #[r] w fun e w' => e = .returned (.agg #[.int .i64 0, .int .i64 0, .slice none 0 0]) ∧ Below w.heap.size w w' := by
  have HW : Hid (∀ w, Dead w r → Calls Tryd.prog 64 #[r, .func (.func 65) #[] #[]] w fun e w' => e = .returned (.agg #[.int .i64 0, .int .i64 0, .slice none 0 0]) ∧ Below w.heap.size w w') := by
    unfold Hid
    intro w h
    have HM := Lib.hid (made_no r _ (h.below (below_two w (.cells #[.int .i64 0, .int .i64 0, .slice none 0 0] 52) (.cells #[.int .i64 0, .int .i64 0, .slice none 0 0] 52))))
    clear h
    go_enter Tryd.func64, Tryd.ntmps64
    go_wp2_with (go_at_call 46; refine (HM.out).mono ?_; rintro e w0 ⟨rfl, rfl⟩)
    exact bodyPost_ret (v := .agg #[.int .i64 0, .int .i64 0, .slice none 0 0]) (by simp [results, Tryd.results64, go_sem]) rfl ⟨rfl, below_two w _ _⟩
  have HC := Lib.hid (HW.out _ (h.below (below_own (.cells #[.int .i64 0, .int .i64 0, .slice none 0 0] 52))))
  clear h HW
  go_enter Tryd.func23, Tryd.ntmps23
  go_wp2_with (go_at_call 64; refine (HC.out).mono ?_; rintro e w1 ⟨rfl, hb⟩; refine Hid.out ?_)
  obtain ⟨hc, hz⟩ := bret hb
  refine Lib.hid ?_
  go_wp2_with fail
  exact bodyPost_ret (v := .agg #[.int .i64 0, .int .i64 0, .slice none 0 0]) (by simp [results, Tryd.results23, go_sem, hc]) rfl ⟨rfl, ((((below_step (below_own _) hb).setCell (p := ⟨w.heap.size, 0, none⟩) (Nat.le_refl _) _).setCell (p := ⟨w.heap.size, 1, none⟩) (Nat.le_refl _) _).setCell (p := ⟨w.heap.size, 2, none⟩) (Nat.le_refl _) _)⟩

set_option maxRecDepth 100000 in
theorem noC (r : Value) (w : World) (h : Dead w r) :
    Calls Tryd.prog 25 #[r] w fun e w' => e = .returned (.agg #[.int .u8 0, .string ⟨#[]⟩, .slice none 0 0, .int .i64 0]) ∧ Below w.heap.size w w' := by
  have HW : Hid (∀ w, Dead w r → Calls Tryd.prog 66 #[r, .func (.func 67) #[] #[]] w fun e w' => e = .returned (.agg #[.int .u8 0, .string ⟨#[]⟩, .slice none 0 0, .int .i64 0]) ∧ Below w.heap.size w w') := by
    unfold Hid
    intro w h
    have HM := Lib.hid (made_no r _ (h.below (below_two w (.cells #[.int .u8 0, .string ⟨#[]⟩, .slice none 0 0, .int .i64 0] 57) (.cells #[.int .u8 0, .string ⟨#[]⟩, .slice none 0 0, .int .i64 0] 57))))
    clear h
    go_enter Tryd.func66, Tryd.ntmps66
    go_wp2_with (go_at_call 46; refine (HM.out).mono ?_; rintro e w0 ⟨rfl, rfl⟩)
    exact bodyPost_ret (v := .agg #[.int .u8 0, .string ⟨#[]⟩, .slice none 0 0, .int .i64 0]) (by simp [results, Tryd.results66, go_sem]) rfl ⟨rfl, below_two w _ _⟩
  have HC := Lib.hid (HW.out _ (h.below (below_own (.cells #[.int .u8 0, .string ⟨#[]⟩, .slice none 0 0, .int .i64 0] 57))))
  clear h HW
  go_enter Tryd.func25, Tryd.ntmps25
  go_wp2_with (go_at_call 66; refine (HC.out).mono ?_; rintro e w1 ⟨rfl, hb⟩; refine Hid.out ?_)
  obtain ⟨hc, hz⟩ := bret hb
  refine Lib.hid ?_
  go_wp2_with fail
  exact bodyPost_ret (v := .agg #[.int .u8 0, .string ⟨#[]⟩, .slice none 0 0, .int .i64 0]) (by simp [results, Tryd.results25, go_sem, hc]) rfl ⟨rfl, (((((below_step (below_own _) hb).setCell (p := ⟨w.heap.size, 0, none⟩) (Nat.le_refl _) _).setCell (p := ⟨w.heap.size, 1, none⟩) (Nat.le_refl _) _).setCell (p := ⟨w.heap.size, 2, none⟩) (Nat.le_refl _) _).setCell (p := ⟨w.heap.size, 3, none⟩) (Nat.le_refl _) _)⟩

set_option maxRecDepth 100000 in
theorem noR (r : Value) (w : World) (h : Dead w r) :
    Calls Tryd.prog 27 #[r] w fun e w' => e = .returned (.agg #[.int .i64 0, .int .i64 0, .slice none 0 0, .slice none 0 0]) ∧ Below w.heap.size w w' := by
  have HW : Hid (∀ w, Dead w r → Calls Tryd.prog 69 #[r, .func (.func 70) #[] #[]] w fun e w' => e = .returned (.agg #[.int .i64 0, .int .i64 0, .slice none 0 0, .slice none 0 0]) ∧ Below w.heap.size w w') := by
    unfold Hid
    intro w h
    have HM := Lib.hid (made_no r _ (h.below (below_two w (.cells #[.int .i64 0, .int .i64 0, .slice none 0 0, .slice none 0 0] 63) (.cells #[.int .i64 0, .int .i64 0, .slice none 0 0, .slice none 0 0] 63))))
    clear h
    go_enter Tryd.func69, Tryd.ntmps69
    go_wp2_with (go_at_call 46; refine (HM.out).mono ?_; rintro e w0 ⟨rfl, rfl⟩)
    exact bodyPost_ret (v := .agg #[.int .i64 0, .int .i64 0, .slice none 0 0, .slice none 0 0]) (by simp [results, Tryd.results69, go_sem]) rfl ⟨rfl, below_two w _ _⟩
  have HC := Lib.hid (HW.out _ (h.below (below_own (.cells #[.int .i64 0, .int .i64 0, .slice none 0 0, .slice none 0 0] 63))))
  clear h HW
  go_enter Tryd.func27, Tryd.ntmps27
  go_wp2_with (go_at_call 69; refine (HC.out).mono ?_; rintro e w1 ⟨rfl, hb⟩; refine Hid.out ?_)
  obtain ⟨hc, hz⟩ := bret hb
  refine Lib.hid ?_
  go_wp2_with fail
  exact bodyPost_ret (v := .agg #[.int .i64 0, .int .i64 0, .slice none 0 0, .slice none 0 0]) (by simp [results, Tryd.results27, go_sem, hc]) rfl ⟨rfl, (((((below_step (below_own _) hb).setCell (p := ⟨w.heap.size, 0, none⟩) (Nat.le_refl _) _).setCell (p := ⟨w.heap.size, 1, none⟩) (Nat.le_refl _) _).setCell (p := ⟨w.heap.size, 2, none⟩) (Nat.le_refl _) _).setCell (p := ⟨w.heap.size, 3, none⟩) (Nat.le_refl _) _)⟩

set_option maxRecDepth 100000 in
theorem noE (r : Value) (w : World) (h : Dead w r) :
    Calls Tryd.prog 29 #[r] w fun e w' => e = .returned (.agg #[.int .i64 0, .int .u8 0, .int .i64 0, .int .i64 0, .int .u8 0, .string ⟨#[]⟩, .slice none 0 0, .int .i64 0, .slice none 0 0]) ∧ Below w.heap.size w w' := by
  have HW : Hid (∀ w, Dead w r → Calls Tryd.prog 72 #[r, .func (.func 73) #[] #[]] w fun e w' => e = .returned (.agg #[.int .i64 0, .int .u8 0, .int .i64 0, .int .i64 0, .int .u8 0, .string ⟨#[]⟩, .slice none 0 0, .int .i64 0, .slice none 0 0]) ∧ Below w.heap.size w w') := by
    unfold Hid
    intro w h
    have HM := Lib.hid (made_no r _ (h.below (below_two w (.cells #[.int .i64 0, .int .u8 0, .int .i64 0, .int .i64 0, .int .u8 0, .string ⟨#[]⟩, .slice none 0 0, .int .i64 0, .slice none 0 0] 68) (.cells #[.int .i64 0, .int .u8 0, .int .i64 0, .int .i64 0, .int .u8 0, .string ⟨#[]⟩, .slice none 0 0, .int .i64 0, .slice none 0 0] 68))))
    clear h
    go_enter Tryd.func72, Tryd.ntmps72
    go_wp2_with (go_at_call 46; refine (HM.out).mono ?_; rintro e w0 ⟨rfl, rfl⟩)
    exact bodyPost_ret (v := .agg #[.int .i64 0, .int .u8 0, .int .i64 0, .int .i64 0, .int .u8 0, .string ⟨#[]⟩, .slice none 0 0, .int .i64 0, .slice none 0 0]) (by simp [results, Tryd.results72, go_sem]) rfl ⟨rfl, below_two w _ _⟩
  have HC := Lib.hid (HW.out _ (h.below (below_own (.cells #[.int .i64 0, .int .u8 0, .int .i64 0, .int .i64 0, .int .u8 0, .string ⟨#[]⟩, .slice none 0 0, .int .i64 0, .slice none 0 0] 68))))
  clear h HW
  go_enter Tryd.func29, Tryd.ntmps29
  go_wp2_with (go_at_call 72; refine (HC.out).mono ?_; rintro e w1 ⟨rfl, hb⟩; refine Hid.out ?_)
  obtain ⟨hc, hz⟩ := bret hb
  refine Lib.hid ?_
  go_wp2_with fail
  exact bodyPost_ret (v := .agg #[.int .i64 0, .int .u8 0, .int .i64 0, .int .i64 0, .int .u8 0, .string ⟨#[]⟩, .slice none 0 0, .int .i64 0, .slice none 0 0]) (by simp [results, Tryd.results29, go_sem, hc]) rfl ⟨rfl, ((((((((((below_step (below_own _) hb).setCell (p := ⟨w.heap.size, 0, none⟩) (Nat.le_refl _) _).setCell (p := ⟨w.heap.size, 1, none⟩) (Nat.le_refl _) _).setCell (p := ⟨w.heap.size, 2, none⟩) (Nat.le_refl _) _).setCell (p := ⟨w.heap.size, 3, none⟩) (Nat.le_refl _) _).setCell (p := ⟨w.heap.size, 4, none⟩) (Nat.le_refl _) _).setCell (p := ⟨w.heap.size, 5, none⟩) (Nat.le_refl _) _).setCell (p := ⟨w.heap.size, 6, none⟩) (Nat.le_refl _) _).setCell (p := ⟨w.heap.size, 7, none⟩) (Nat.le_refl _) _).setCell (p := ⟨w.heap.size, 8, none⟩) (Nat.le_refl _) _)⟩
end Go.Proofs.YtmocfielcllfmaaDoor
