/- token reads the next one. -/
import Derived.Test.YtfmjhbaenpbfoaaGreatDoorTok3
namespace Go.Proofs.YtfmjhbaenpbfoaaGreatDoor
open Go.RowKit

theorem prefix_one (x c : UInt8) (r : Bs) : List.isPrefixOf [x] (c :: r) = (x == c) := by simp [List.isPrefixOf]

/-- What the cell of the result holds behind calls that turned the reader alone. -/
structure LexAt (w wk : World) : Prop where
  c0 : wk.cell? ⟨w.heap.size, 0, none⟩ = some (.int .u8 0)
  c1 : wk.cell? ⟨w.heap.size, 1, none⟩ = some (.string ⟨#[]⟩)
  c2 : wk.cell? ⟨w.heap.size, 2, none⟩ = some (.int .i64 0)
  f : ∀ j, wk.frozen? ⟨w.heap.size, j, none⟩ = false
theorem lexAt {R : Nat} {w wk : World} (h : Fr R (w.alloc (.cells lexC 99)) wk) (hR : R < w.heap.size) : LexAt w wk :=
  ⟨Lib.cell_of_heap (h.made hR) 0, Lib.cell_of_heap (h.made hR) 1, Lib.cell_of_heap (h.made hR) 2, fun j => Lib.frozen_of_heap (h.made hR) j⟩

/-- Three cells of a block. -/
structure Lex3 (W : World) (b : Nat) (x y z : Value) : Prop where
  c0 : W.cell? ⟨b, 0, none⟩ = some x
  c1 : W.cell? ⟨b, 1, none⟩ = some y
  c2 : W.cell? ⟨b, 2, none⟩ = some z
theorem cell_other (W : World) (b i j : Nat) (v : Value) (h : i ≠ j) : (W.setCell ⟨b, i, none⟩ v).cell? ⟨b, j, none⟩ = W.cell? ⟨b, j, none⟩ := World.cell?_setCell_other _ _ _ _ (fun e => by cases e; exact h rfl)
theorem cell_same (W : World) (b i : Nat) (v u : Value) (h : W.cell? ⟨b, i, none⟩ = some u) : (W.setCell ⟨b, i, none⟩ v).cell? ⟨b, i, none⟩ = some v := World.cell?_setCell_same' _ _ _ (by rw [h]; rfl)
theorem Lex3.set0 {W : World} {b : Nat} {x y z : Value} (h : Lex3 W b x y z) (v : Value) : Lex3 (W.setCell ⟨b, 0, none⟩ v) b v y z := ⟨cell_same _ _ _ _ _ h.c0, (cell_other _ _ _ _ _ (by decide)).trans h.c1, (cell_other _ _ _ _ _ (by decide)).trans h.c2⟩
theorem Lex3.set1 {W : World} {b : Nat} {x y z : Value} (h : Lex3 W b x y z) (v : Value) : Lex3 (W.setCell ⟨b, 1, none⟩ v) b x v z := ⟨(cell_other _ _ _ _ _ (by decide)).trans h.c0, cell_same _ _ _ _ _ h.c1, (cell_other _ _ _ _ _ (by decide)).trans h.c2⟩
theorem Lex3.set2 {W : World} {b : Nat} {x y z : Value} (h : Lex3 W b x y z) (v : Value) : Lex3 (W.setCell ⟨b, 2, none⟩ v) b x y v := ⟨(cell_other _ _ _ _ _ (by decide)).trans h.c0, (cell_other _ _ _ _ _ (by decide)).trans h.c1, cell_same _ _ _ _ _ h.c2⟩
theorem LexAt.lex3 {w wk : World} (h : LexAt w wk) : Lex3 wk w.heap.size (.int .u8 0) (.string ⟨#[]⟩) (.int .i64 0) := ⟨h.c0, h.c1, h.c2⟩


set_option maxRecDepth 100000 in
set_option maxHeartbeats 4000000 in
theorem token_word (R a : Nat) (s : ByteArray) (w : World) (x : Tk) (HR : Hid (R < w.heap.size)) (HNE : Hid (w.heap.size ≠ R))
    (KB : Hid (Calls Tryz.prog 110 #[.pointer (some ⟨R, 0, none⟩)] (w.alloc (.cells lexC 99)) fun e w' => (∃ v, e = .returned v) ∧ Went R s a (w.alloc (.cells lexC 99)) w'))
    (KE : Hid (∀ w', Rd w' R s a → Calls Tryz.prog 111 #[.pointer (some ⟨R, 0, none⟩)] w' fun e w'' => e = .returned (.bool false) ∧ Went R s a w' w''))
    (KL : Hid (∀ w', Rd w' R s a → Calls Tryz.prog 112 #[.pointer (some ⟨R, 0, none⟩), .slice (some ⟨w'.heap.size, 0, none⟩) 1 1] (w'.alloc (.cells #[.string lettersZ] 9)) fun e w'' => e = .returned (.bool true) ∧ Went R s a w' w''))
    (KX : Hid (∀ w', Rd w' R s a → Calls Tryz.prog 113 #[.pointer (some ⟨R, 0, none⟩)] w' fun e w'' => e = .returned (.tuple #[.agg #[.int .u8 x.kind, .string ⟨x.text.toArray⟩, .int .i64 0], .int .i64 x.err]) ∧ To R s x.rest w' w'')) :
    Calls Tryz.prog 81 #[.pointer (some ⟨R, 0, none⟩)] w fun e w' => e = .returned (tkV x a) ∧ To R s x.rest w w' := by
  obtain ⟨er, kk, tx, rs⟩ := x
  simp only at KX ⊢
  go_enter Tryz.func81, Tryz.ntmps81
  go_wp2_with (first
    | (go_at_call 110; refine (KB.out).mono ?_; rintro e w1 ⟨⟨v, rfl⟩, hw⟩; have hp := hw.rd.pos; have HW := Lib.hid hw; clear hw)
    | (go_at_call 111; refine (KE.out _ HW.out.rd).mono ?_; rintro e w2 ⟨rfl, hw⟩; replace HW := Lib.hid (HW.out.of hw); clear hw)
    | (go_at_call 112; refine (KL.out _ HW.out.rd).mono ?_; clear KL; rintro e w3 ⟨rfl, hw⟩; replace HW := Lib.hid (HW.out.of hw); clear hw)
    | (go_at_call 113; refine (KX.out _ HW.out.rd).mono ?_; rintro e w7 ⟨rfl, hw⟩; have HT := Lib.hid (To.first HW.out hw); clear hw
       have HL := Lib.hid (lexAt HT.out.fr HR.out).lex3
       obtain ⟨c0, c1, c2, f0⟩ := lexAt HT.out.fr HR.out
       have d2 := ((((HL.out.set0 (.int .u8 kk)).set1 (.string ⟨tx.toArray⟩)).set2 (.int .i64 0)).set2 (.int .i64 (a : Int))).c2))
  obtain ⟨e0, e1, e2⟩ := ((((((HL.out.set0 (.int .u8 kk)).set1 (.string ⟨tx.toArray⟩)).set2 (.int .i64 0)).set2 (.int .i64 (a : Int))).set0 (.int .u8 kk)).set1 (.string ⟨tx.toArray⟩)).set2 (.int .i64 (a : Int))
  exact bodyPost_ret (v := .tuple #[.agg #[.int .u8 kk, .string ⟨tx.toArray⟩, .int .i64 (a : Int)], .int .i64 er]) (by simp [results, Tryz.results81, go_sem, e0, e1, e2]) rfl ⟨rfl, (((((((HT.out.alloc.setNew (Nat.le_refl _) HNE.out _ _).setNew (Nat.le_refl _) HNE.out _ _).setNew (Nat.le_refl _) HNE.out _ _).setNew (Nat.le_refl _) HNE.out _ _).setNew (Nat.le_refl _) HNE.out _ _).setNew (Nat.le_refl _) HNE.out _ _).setNew (Nat.le_refl _) HNE.out _ _)⟩

set_option maxRecDepth 100000 in
set_option maxHeartbeats 4000000 in
theorem token_var (R a : Nat) (s : ByteArray) (w : World) (x : Tk) (HR : Hid (R < w.heap.size)) (HNE : Hid (w.heap.size ≠ R))
    (KB : Hid (Calls Tryz.prog 110 #[.pointer (some ⟨R, 0, none⟩)] (w.alloc (.cells lexC 99)) fun e w' => (∃ v, e = .returned v) ∧ Went R s a (w.alloc (.cells lexC 99)) w'))
    (KE : Hid (∀ w', Rd w' R s a → Calls Tryz.prog 111 #[.pointer (some ⟨R, 0, none⟩)] w' fun e w'' => e = .returned (.bool false) ∧ Went R s a w' w''))
    (KL : Hid (∀ w', Rd w' R s a → Calls Tryz.prog 112 #[.pointer (some ⟨R, 0, none⟩), .slice (some ⟨w'.heap.size, 0, none⟩) 1 1] (w'.alloc (.cells #[.string lettersZ] 9)) fun e w'' => e = .returned (.bool false) ∧ Went R s a w' w''))
    (KQ : Hid (∀ w', Rd w' R s a → Calls Tryz.prog 114 #[.pointer (some ⟨R, 0, none⟩), .string ⟨#[63]⟩] w' fun e w'' => e = .returned (.bool true) ∧ Went R s (a + 1) w' w''))
    (KX : Hid (∀ w', Rd w' R s (a + 1) → Calls Tryz.prog 115 #[.pointer (some ⟨R, 0, none⟩), .int .u8 3] w' fun e w'' => e = .returned (.tuple #[.agg #[.int .u8 x.kind, .string ⟨x.text.toArray⟩, .int .i64 0], .int .i64 x.err]) ∧ To R s x.rest w' w'')) :
    Calls Tryz.prog 81 #[.pointer (some ⟨R, 0, none⟩)] w fun e w' => e = .returned (tkV x a) ∧ To R s x.rest w w' := by
  obtain ⟨er, kk, tx, rs⟩ := x
  simp only at KX ⊢
  go_enter Tryz.func81, Tryz.ntmps81
  go_wp2_with (first
    | (go_at_call 110; refine (KB.out).mono ?_; rintro e w1 ⟨⟨v, rfl⟩, hw⟩; have hp := hw.rd.pos; have HW := Lib.hid hw; clear hw)
    | (go_at_call 111; refine (KE.out _ HW.out.rd).mono ?_; rintro e w2 ⟨rfl, hw⟩; replace HW := Lib.hid (HW.out.of hw); clear hw)
    | (go_at_call 112; refine (KL.out _ HW.out.rd).mono ?_; clear KL; rintro e w3 ⟨rfl, hw⟩; replace HW := Lib.hid (HW.out.of hw); clear hw)
    | (go_at_call 114; refine (KQ.out _ HW.out.rd).mono ?_; clear KQ; rintro e w4 ⟨rfl, hw⟩; replace HW := Lib.hid (HW.out.of hw); clear hw)
    | (go_at_call 115; refine (KX.out _ HW.out.rd).mono ?_; rintro e w7 ⟨rfl, hw⟩; have HT := Lib.hid (To.first HW.out hw); clear hw
       have HL := Lib.hid (lexAt HT.out.fr HR.out).lex3
       obtain ⟨c0, c1, c2, f0⟩ := lexAt HT.out.fr HR.out
       have d2 := ((((HL.out.set0 (.int .u8 kk)).set1 (.string ⟨tx.toArray⟩)).set2 (.int .i64 0)).set2 (.int .i64 (a : Int))).c2))
  obtain ⟨e0, e1, e2⟩ := ((((((HL.out.set0 (.int .u8 kk)).set1 (.string ⟨tx.toArray⟩)).set2 (.int .i64 0)).set2 (.int .i64 (a : Int))).set0 (.int .u8 kk)).set1 (.string ⟨tx.toArray⟩)).set2 (.int .i64 (a : Int))
  exact bodyPost_ret (v := .tuple #[.agg #[.int .u8 kk, .string ⟨tx.toArray⟩, .int .i64 (a : Int)], .int .i64 er]) (by simp [results, Tryz.results81, go_sem, e0, e1, e2]) rfl ⟨rfl, (((((((HT.out.alloc.setNew (Nat.le_refl _) HNE.out _ _).setNew (Nat.le_refl _) HNE.out _ _).setNew (Nat.le_refl _) HNE.out _ _).setNew (Nat.le_refl _) HNE.out _ _).setNew (Nat.le_refl _) HNE.out _ _).setNew (Nat.le_refl _) HNE.out _ _).setNew (Nat.le_refl _) HNE.out _ _)⟩

set_option maxRecDepth 100000 in
set_option maxHeartbeats 4000000 in
theorem token_atom (R a : Nat) (s : ByteArray) (w : World) (x : Tk) (HR : Hid (R < w.heap.size)) (HNE : Hid (w.heap.size ≠ R))
    (KB : Hid (Calls Tryz.prog 110 #[.pointer (some ⟨R, 0, none⟩)] (w.alloc (.cells lexC 99)) fun e w' => (∃ v, e = .returned v) ∧ Went R s a (w.alloc (.cells lexC 99)) w'))
    (KE : Hid (∀ w', Rd w' R s a → Calls Tryz.prog 111 #[.pointer (some ⟨R, 0, none⟩)] w' fun e w'' => e = .returned (.bool false) ∧ Went R s a w' w''))
    (KL : Hid (∀ w', Rd w' R s a → Calls Tryz.prog 112 #[.pointer (some ⟨R, 0, none⟩), .slice (some ⟨w'.heap.size, 0, none⟩) 1 1] (w'.alloc (.cells #[.string lettersZ] 9)) fun e w'' => e = .returned (.bool false) ∧ Went R s a w' w''))
    (KQ : Hid (∀ w', Rd w' R s a → Calls Tryz.prog 114 #[.pointer (some ⟨R, 0, none⟩), .string ⟨#[63]⟩] w' fun e w'' => e = .returned (.bool false) ∧ Went R s a w' w''))
    (KA : Hid (∀ w', Rd w' R s a → Calls Tryz.prog 114 #[.pointer (some ⟨R, 0, none⟩), .string ⟨#[39]⟩] w' fun e w'' => e = .returned (.bool true) ∧ Went R s (a + 1) w' w''))
    (KX : Hid (∀ w', Rd w' R s (a + 1) → Calls Tryz.prog 115 #[.pointer (some ⟨R, 0, none⟩), .int .u8 5] w' fun e w'' => e = .returned (.tuple #[.agg #[.int .u8 x.kind, .string ⟨x.text.toArray⟩, .int .i64 0], .int .i64 x.err]) ∧ To R s x.rest w' w'')) :
    Calls Tryz.prog 81 #[.pointer (some ⟨R, 0, none⟩)] w fun e w' => e = .returned (tkV x a) ∧ To R s x.rest w w' := by
  obtain ⟨er, kk, tx, rs⟩ := x
  simp only at KX ⊢
  go_enter Tryz.func81, Tryz.ntmps81
  go_wp2_with (first
    | (go_at_call 110; refine (KB.out).mono ?_; rintro e w1 ⟨⟨v, rfl⟩, hw⟩; have hp := hw.rd.pos; have HW := Lib.hid hw; clear hw)
    | (go_at_call 111; refine (KE.out _ HW.out.rd).mono ?_; rintro e w2 ⟨rfl, hw⟩; replace HW := Lib.hid (HW.out.of hw); clear hw)
    | (go_at_call 112; refine (KL.out _ HW.out.rd).mono ?_; clear KL; rintro e w3 ⟨rfl, hw⟩; replace HW := Lib.hid (HW.out.of hw); clear hw)
    | (go_at_call 114; refine (KQ.out _ HW.out.rd).mono ?_; clear KQ; rintro e w4 ⟨rfl, hw⟩; replace HW := Lib.hid (HW.out.of hw); clear hw)
    | (go_at_call 114; refine (KA.out _ HW.out.rd).mono ?_; clear KA; rintro e w5 ⟨rfl, hw⟩; replace HW := Lib.hid (HW.out.of hw); clear hw)
    | (go_at_call 115; refine (KX.out _ HW.out.rd).mono ?_; rintro e w7 ⟨rfl, hw⟩; have HT := Lib.hid (To.first HW.out hw); clear hw
       have HL := Lib.hid (lexAt HT.out.fr HR.out).lex3
       obtain ⟨c0, c1, c2, f0⟩ := lexAt HT.out.fr HR.out
       have d2 := ((((HL.out.set0 (.int .u8 kk)).set1 (.string ⟨tx.toArray⟩)).set2 (.int .i64 0)).set2 (.int .i64 (a : Int))).c2))
  obtain ⟨e0, e1, e2⟩ := ((((((HL.out.set0 (.int .u8 kk)).set1 (.string ⟨tx.toArray⟩)).set2 (.int .i64 0)).set2 (.int .i64 (a : Int))).set0 (.int .u8 kk)).set1 (.string ⟨tx.toArray⟩)).set2 (.int .i64 (a : Int))
  exact bodyPost_ret (v := .tuple #[.agg #[.int .u8 kk, .string ⟨tx.toArray⟩, .int .i64 (a : Int)], .int .i64 er]) (by simp [results, Tryz.results81, go_sem, e0, e1, e2]) rfl ⟨rfl, (((((((HT.out.alloc.setNew (Nat.le_refl _) HNE.out _ _).setNew (Nat.le_refl _) HNE.out _ _).setNew (Nat.le_refl _) HNE.out _ _).setNew (Nat.le_refl _) HNE.out _ _).setNew (Nat.le_refl _) HNE.out _ _).setNew (Nat.le_refl _) HNE.out _ _).setNew (Nat.le_refl _) HNE.out _ _)⟩

set_option maxRecDepth 100000 in
set_option maxHeartbeats 4000000 in
theorem token_number (R a : Nat) (s : ByteArray) (w : World) (x : Tk) (HR : Hid (R < w.heap.size)) (HNE : Hid (w.heap.size ≠ R)) (H2 : Hid (5 ≤ R)) (HE : Hid (Errs (w.alloc (.cells lexC 99))))
    (KB : Hid (Calls Tryz.prog 110 #[.pointer (some ⟨R, 0, none⟩)] (w.alloc (.cells lexC 99)) fun e w' => (∃ v, e = .returned v) ∧ Went R s a (w.alloc (.cells lexC 99)) w'))
    (KE : Hid (∀ w', Rd w' R s a → Calls Tryz.prog 111 #[.pointer (some ⟨R, 0, none⟩)] w' fun e w'' => e = .returned (.bool false) ∧ Went R s a w' w''))
    (KL : Hid (∀ w', Rd w' R s a → Calls Tryz.prog 112 #[.pointer (some ⟨R, 0, none⟩), .slice (some ⟨w'.heap.size, 0, none⟩) 1 1] (w'.alloc (.cells #[.string lettersZ] 9)) fun e w'' => e = .returned (.bool false) ∧ Went R s a w' w''))
    (KQ : Hid (∀ w', Rd w' R s a → Calls Tryz.prog 114 #[.pointer (some ⟨R, 0, none⟩), .string ⟨#[63]⟩] w' fun e w'' => e = .returned (.bool false) ∧ Went R s a w' w''))
    (KA : Hid (∀ w', Rd w' R s a → Calls Tryz.prog 114 #[.pointer (some ⟨R, 0, none⟩), .string ⟨#[39]⟩] w' fun e w'' => e = .returned (.bool false) ∧ Went R s a w' w''))
    (KG : Hid (∀ w', Rd w' R s a → Calls Tryz.prog 112 #[.pointer (some ⟨R, 0, none⟩), .slice (some ⟨w'.heap.size, 0, none⟩) 1 1] (w'.alloc (.cells #[.string digitsZ] 9)) fun e w'' => e = .returned (.bool true) ∧ Went R s a w' w''))
    (KX : Hid (∀ w', Rd w' R s a → Errs w' → Calls Tryz.prog 116 #[.pointer (some ⟨R, 0, none⟩)] w' fun e w'' => e = .returned (.tuple #[.agg #[.int .u8 x.kind, .string ⟨x.text.toArray⟩, .int .i64 0], .int .i64 x.err]) ∧ To R s x.rest w' w'')) :
    Calls Tryz.prog 81 #[.pointer (some ⟨R, 0, none⟩)] w fun e w' => e = .returned (tkV x a) ∧ To R s x.rest w w' := by
  obtain ⟨er, kk, tx, rs⟩ := x
  simp only at KX ⊢
  go_enter Tryz.func81, Tryz.ntmps81
  go_wp2_with (first
    | (go_at_call 110; refine (KB.out).mono ?_; rintro e w1 ⟨⟨v, rfl⟩, hw⟩; have hp := hw.rd.pos; have HW := Lib.hid hw; clear hw)
    | (go_at_call 111; refine (KE.out _ HW.out.rd).mono ?_; rintro e w2 ⟨rfl, hw⟩; replace HW := Lib.hid (HW.out.of hw); clear hw)
    | (go_at_call 112; refine (KL.out _ HW.out.rd).mono ?_; clear KL; rintro e w3 ⟨rfl, hw⟩; replace HW := Lib.hid (HW.out.of hw); clear hw)
    | (go_at_call 114; refine (KQ.out _ HW.out.rd).mono ?_; clear KQ; rintro e w4 ⟨rfl, hw⟩; replace HW := Lib.hid (HW.out.of hw); clear hw)
    | (go_at_call 114; refine (KA.out _ HW.out.rd).mono ?_; clear KA; rintro e w5 ⟨rfl, hw⟩; replace HW := Lib.hid (HW.out.of hw); clear hw)
    | (go_at_call 112; refine (KG.out _ HW.out.rd).mono ?_; clear KG; rintro e w6 ⟨rfl, hw⟩; replace HW := Lib.hid (HW.out.of hw); clear hw)
    | (go_at_call 116; refine (KX.out _ HW.out.rd (HE.out.fr H2.out HW.out.fr)).mono ?_; rintro e w7 ⟨rfl, hw⟩; have HT := Lib.hid (To.first HW.out hw); clear hw
       have HL := Lib.hid (lexAt HT.out.fr HR.out).lex3
       obtain ⟨c0, c1, c2, f0⟩ := lexAt HT.out.fr HR.out
       have d2 := ((((HL.out.set0 (.int .u8 kk)).set1 (.string ⟨tx.toArray⟩)).set2 (.int .i64 0)).set2 (.int .i64 (a : Int))).c2))
  obtain ⟨e0, e1, e2⟩ := ((((((HL.out.set0 (.int .u8 kk)).set1 (.string ⟨tx.toArray⟩)).set2 (.int .i64 0)).set2 (.int .i64 (a : Int))).set0 (.int .u8 kk)).set1 (.string ⟨tx.toArray⟩)).set2 (.int .i64 (a : Int))
  exact bodyPost_ret (v := .tuple #[.agg #[.int .u8 kk, .string ⟨tx.toArray⟩, .int .i64 (a : Int)], .int .i64 er]) (by simp [results, Tryz.results81, go_sem, e0, e1, e2]) rfl ⟨rfl, (((((((HT.out.alloc.setNew (Nat.le_refl _) HNE.out _ _).setNew (Nat.le_refl _) HNE.out _ _).setNew (Nat.le_refl _) HNE.out _ _).setNew (Nat.le_refl _) HNE.out _ _).setNew (Nat.le_refl _) HNE.out _ _).setNew (Nat.le_refl _) HNE.out _ _).setNew (Nat.le_refl _) HNE.out _ _)⟩

set_option maxRecDepth 100000 in
set_option maxHeartbeats 4000000 in
theorem token_sign (R a : Nat) (s : ByteArray) (w : World) (x : Tk) (HR : Hid (R < w.heap.size)) (HNE : Hid (w.heap.size ≠ R))
    (KB : Hid (Calls Tryz.prog 110 #[.pointer (some ⟨R, 0, none⟩)] (w.alloc (.cells lexC 99)) fun e w' => (∃ v, e = .returned v) ∧ Went R s a (w.alloc (.cells lexC 99)) w'))
    (KE : Hid (∀ w', Rd w' R s a → Calls Tryz.prog 111 #[.pointer (some ⟨R, 0, none⟩)] w' fun e w'' => e = .returned (.bool false) ∧ Went R s a w' w''))
    (KL : Hid (∀ w', Rd w' R s a → Calls Tryz.prog 112 #[.pointer (some ⟨R, 0, none⟩), .slice (some ⟨w'.heap.size, 0, none⟩) 1 1] (w'.alloc (.cells #[.string lettersZ] 9)) fun e w'' => e = .returned (.bool false) ∧ Went R s a w' w''))
    (KQ : Hid (∀ w', Rd w' R s a → Calls Tryz.prog 114 #[.pointer (some ⟨R, 0, none⟩), .string ⟨#[63]⟩] w' fun e w'' => e = .returned (.bool false) ∧ Went R s a w' w''))
    (KA : Hid (∀ w', Rd w' R s a → Calls Tryz.prog 114 #[.pointer (some ⟨R, 0, none⟩), .string ⟨#[39]⟩] w' fun e w'' => e = .returned (.bool false) ∧ Went R s a w' w''))
    (KG : Hid (∀ w', Rd w' R s a → Calls Tryz.prog 112 #[.pointer (some ⟨R, 0, none⟩), .slice (some ⟨w'.heap.size, 0, none⟩) 1 1] (w'.alloc (.cells #[.string digitsZ] 9)) fun e w'' => e = .returned (.bool false) ∧ Went R s a w' w''))
    (KX : Hid (∀ w', Rd w' R s a → Calls Tryz.prog 117 #[.pointer (some ⟨R, 0, none⟩)] w' fun e w'' => e = .returned (.tuple #[.agg #[.int .u8 x.kind, .string ⟨x.text.toArray⟩, .int .i64 0], .int .i64 x.err]) ∧ To R s x.rest w' w'')) :
    Calls Tryz.prog 81 #[.pointer (some ⟨R, 0, none⟩)] w fun e w' => e = .returned (tkV x a) ∧ To R s x.rest w w' := by
  obtain ⟨er, kk, tx, rs⟩ := x
  simp only at KX ⊢
  go_enter Tryz.func81, Tryz.ntmps81
  go_wp2_with (first
    | (go_at_call 110; refine (KB.out).mono ?_; rintro e w1 ⟨⟨v, rfl⟩, hw⟩; have hp := hw.rd.pos; have HW := Lib.hid hw; clear hw)
    | (go_at_call 111; refine (KE.out _ HW.out.rd).mono ?_; rintro e w2 ⟨rfl, hw⟩; replace HW := Lib.hid (HW.out.of hw); clear hw)
    | (go_at_call 112; refine (KL.out _ HW.out.rd).mono ?_; clear KL; rintro e w3 ⟨rfl, hw⟩; replace HW := Lib.hid (HW.out.of hw); clear hw)
    | (go_at_call 114; refine (KQ.out _ HW.out.rd).mono ?_; clear KQ; rintro e w4 ⟨rfl, hw⟩; replace HW := Lib.hid (HW.out.of hw); clear hw)
    | (go_at_call 114; refine (KA.out _ HW.out.rd).mono ?_; clear KA; rintro e w5 ⟨rfl, hw⟩; replace HW := Lib.hid (HW.out.of hw); clear hw)
    | (go_at_call 112; refine (KG.out _ HW.out.rd).mono ?_; clear KG; rintro e w6 ⟨rfl, hw⟩; replace HW := Lib.hid (HW.out.of hw); clear hw)
    | (go_at_call 117; refine (KX.out _ HW.out.rd).mono ?_; rintro e w7 ⟨rfl, hw⟩; have HT := Lib.hid (To.first HW.out hw); clear hw
       have HL := Lib.hid (lexAt HT.out.fr HR.out).lex3
       obtain ⟨c0, c1, c2, f0⟩ := lexAt HT.out.fr HR.out
       have d2 := ((((HL.out.set0 (.int .u8 kk)).set1 (.string ⟨tx.toArray⟩)).set2 (.int .i64 0)).set2 (.int .i64 (a : Int))).c2))
  obtain ⟨e0, e1, e2⟩ := ((((((HL.out.set0 (.int .u8 kk)).set1 (.string ⟨tx.toArray⟩)).set2 (.int .i64 0)).set2 (.int .i64 (a : Int))).set0 (.int .u8 kk)).set1 (.string ⟨tx.toArray⟩)).set2 (.int .i64 (a : Int))
  exact bodyPost_ret (v := .tuple #[.agg #[.int .u8 kk, .string ⟨tx.toArray⟩, .int .i64 (a : Int)], .int .i64 er]) (by simp [results, Tryz.results81, go_sem, e0, e1, e2]) rfl ⟨rfl, (((((((HT.out.alloc.setNew (Nat.le_refl _) HNE.out _ _).setNew (Nat.le_refl _) HNE.out _ _).setNew (Nat.le_refl _) HNE.out _ _).setNew (Nat.le_refl _) HNE.out _ _).setNew (Nat.le_refl _) HNE.out _ _).setNew (Nat.le_refl _) HNE.out _ _).setNew (Nat.le_refl _) HNE.out _ _)⟩
end Go.Proofs.YtfmjhbaenpbfoaaGreatDoor
