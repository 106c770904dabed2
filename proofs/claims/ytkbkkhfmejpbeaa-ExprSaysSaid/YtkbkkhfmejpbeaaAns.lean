/- The two maps of closures: each is made, filled and asked in one go. -/
import Derived.Test.YtkbkkhfmejpbeaaClos
namespace Go.Proofs.Ytkbkkhfmejpbeaa
open Go.RowKit
theorem answer_put0 (w : World) : (Instr.mapUpdate 91 (.map (some w.heap.size)) (.int .u8 5) (.func (.func 65) #[] #[])).run Try.prog (w.alloc (.map #[] 0)) = .ok () (w.alloc (.map #[⟨.int .u8 5, (.func (.func 65) #[] #[]), 0⟩] 1)) :=
  run_put w 91 26 89 #[] 0 5 _ Try.underlying91 Try.underlying26 rfl
theorem answer_put1 (w : World) : (Instr.mapUpdate 91 (.map (some w.heap.size)) (.int .u8 6) (.func (.func 66) #[] #[])).run Try.prog (w.alloc (.map #[⟨.int .u8 5, (.func (.func 65) #[] #[]), 0⟩] 1)) = .ok () (w.alloc (.map #[⟨.int .u8 5, (.func (.func 65) #[] #[]), 0⟩, ⟨.int .u8 6, (.func (.func 66) #[] #[]), 1⟩] 2)) :=
  run_put w 91 26 89 #[⟨.int .u8 5, (.func (.func 65) #[] #[]), 0⟩] 1 6 _ Try.underlying91 Try.underlying26 rfl
theorem answer_put2 (w : World) : (Instr.mapUpdate 91 (.map (some w.heap.size)) (.int .u8 7) (.func (.func 67) #[] #[])).run Try.prog (w.alloc (.map #[⟨.int .u8 5, (.func (.func 65) #[] #[]), 0⟩, ⟨.int .u8 6, (.func (.func 66) #[] #[]), 1⟩] 2)) = .ok () (w.alloc (.map #[⟨.int .u8 5, (.func (.func 65) #[] #[]), 0⟩, ⟨.int .u8 6, (.func (.func 66) #[] #[]), 1⟩, ⟨.int .u8 7, (.func (.func 67) #[] #[]), 2⟩] 3)) :=
  run_put w 91 26 89 #[⟨.int .u8 5, (.func (.func 65) #[] #[]), 0⟩, ⟨.int .u8 6, (.func (.func 66) #[] #[]), 1⟩] 2 7 _ Try.underlying91 Try.underlying26 rfl
theorem answer_put3 (w : World) : (Instr.mapUpdate 91 (.map (some w.heap.size)) (.int .u8 8) (.func (.func 68) #[] #[])).run Try.prog (w.alloc (.map #[⟨.int .u8 5, (.func (.func 65) #[] #[]), 0⟩, ⟨.int .u8 6, (.func (.func 66) #[] #[]), 1⟩, ⟨.int .u8 7, (.func (.func 67) #[] #[]), 2⟩] 3)) = .ok () (w.alloc (.map #[⟨.int .u8 5, (.func (.func 65) #[] #[]), 0⟩, ⟨.int .u8 6, (.func (.func 66) #[] #[]), 1⟩, ⟨.int .u8 7, (.func (.func 67) #[] #[]), 2⟩, ⟨.int .u8 8, (.func (.func 68) #[] #[]), 3⟩] 4)) :=
  run_put w 91 26 89 #[⟨.int .u8 5, (.func (.func 65) #[] #[]), 0⟩, ⟨.int .u8 6, (.func (.func 66) #[] #[]), 1⟩, ⟨.int .u8 7, (.func (.func 67) #[] #[]), 2⟩] 3 8 _ Try.underlying91 Try.underlying26 rfl
theorem answer_put4 (w : World) : (Instr.mapUpdate 91 (.map (some w.heap.size)) (.int .u8 9) (.func (.func 69) #[] #[])).run Try.prog (w.alloc (.map #[⟨.int .u8 5, (.func (.func 65) #[] #[]), 0⟩, ⟨.int .u8 6, (.func (.func 66) #[] #[]), 1⟩, ⟨.int .u8 7, (.func (.func 67) #[] #[]), 2⟩, ⟨.int .u8 8, (.func (.func 68) #[] #[]), 3⟩] 4)) = .ok () (w.alloc (.map #[⟨.int .u8 5, (.func (.func 65) #[] #[]), 0⟩, ⟨.int .u8 6, (.func (.func 66) #[] #[]), 1⟩, ⟨.int .u8 7, (.func (.func 67) #[] #[]), 2⟩, ⟨.int .u8 8, (.func (.func 68) #[] #[]), 3⟩, ⟨.int .u8 9, (.func (.func 69) #[] #[]), 4⟩] 5)) :=
  run_put w 91 26 89 #[⟨.int .u8 5, (.func (.func 65) #[] #[]), 0⟩, ⟨.int .u8 6, (.func (.func 66) #[] #[]), 1⟩, ⟨.int .u8 7, (.func (.func 67) #[] #[]), 2⟩, ⟨.int .u8 8, (.func (.func 68) #[] #[]), 3⟩] 4 9 _ Try.underlying91 Try.underlying26 rfl
theorem answer_put5 (w : World) : (Instr.mapUpdate 91 (.map (some w.heap.size)) (.int .u8 10) (.func (.func 71) #[] #[])).run Try.prog (w.alloc (.map #[⟨.int .u8 5, (.func (.func 65) #[] #[]), 0⟩, ⟨.int .u8 6, (.func (.func 66) #[] #[]), 1⟩, ⟨.int .u8 7, (.func (.func 67) #[] #[]), 2⟩, ⟨.int .u8 8, (.func (.func 68) #[] #[]), 3⟩, ⟨.int .u8 9, (.func (.func 69) #[] #[]), 4⟩] 5)) = .ok () (w.alloc (.map #[⟨.int .u8 5, (.func (.func 65) #[] #[]), 0⟩, ⟨.int .u8 6, (.func (.func 66) #[] #[]), 1⟩, ⟨.int .u8 7, (.func (.func 67) #[] #[]), 2⟩, ⟨.int .u8 8, (.func (.func 68) #[] #[]), 3⟩, ⟨.int .u8 9, (.func (.func 69) #[] #[]), 4⟩, ⟨.int .u8 10, (.func (.func 71) #[] #[]), 5⟩] 6)) :=
  run_put w 91 26 89 #[⟨.int .u8 5, (.func (.func 65) #[] #[]), 0⟩, ⟨.int .u8 6, (.func (.func 66) #[] #[]), 1⟩, ⟨.int .u8 7, (.func (.func 67) #[] #[]), 2⟩, ⟨.int .u8 8, (.func (.func 68) #[] #[]), 3⟩, ⟨.int .u8 9, (.func (.func 69) #[] #[]), 4⟩] 5 10 _ Try.underlying91 Try.underlying26 rfl
theorem answer_put6 (w : World) : (Instr.mapUpdate 91 (.map (some w.heap.size)) (.int .u8 11) (.func (.func 72) #[] #[])).run Try.prog (w.alloc (.map #[⟨.int .u8 5, (.func (.func 65) #[] #[]), 0⟩, ⟨.int .u8 6, (.func (.func 66) #[] #[]), 1⟩, ⟨.int .u8 7, (.func (.func 67) #[] #[]), 2⟩, ⟨.int .u8 8, (.func (.func 68) #[] #[]), 3⟩, ⟨.int .u8 9, (.func (.func 69) #[] #[]), 4⟩, ⟨.int .u8 10, (.func (.func 71) #[] #[]), 5⟩] 6)) = .ok () (w.alloc (.map #[⟨.int .u8 5, (.func (.func 65) #[] #[]), 0⟩, ⟨.int .u8 6, (.func (.func 66) #[] #[]), 1⟩, ⟨.int .u8 7, (.func (.func 67) #[] #[]), 2⟩, ⟨.int .u8 8, (.func (.func 68) #[] #[]), 3⟩, ⟨.int .u8 9, (.func (.func 69) #[] #[]), 4⟩, ⟨.int .u8 10, (.func (.func 71) #[] #[]), 5⟩, ⟨.int .u8 11, (.func (.func 72) #[] #[]), 6⟩] 7)) :=
  run_put w 91 26 89 #[⟨.int .u8 5, (.func (.func 65) #[] #[]), 0⟩, ⟨.int .u8 6, (.func (.func 66) #[] #[]), 1⟩, ⟨.int .u8 7, (.func (.func 67) #[] #[]), 2⟩, ⟨.int .u8 8, (.func (.func 68) #[] #[]), 3⟩, ⟨.int .u8 9, (.func (.func 69) #[] #[]), 4⟩, ⟨.int .u8 10, (.func (.func 71) #[] #[]), 5⟩] 6 11 _ Try.underlying91 Try.underlying26 rfl
theorem result_put0 (w : World) : (Instr.mapUpdate 93 (.map (some w.heap.size)) (.int .u8 1) (.func (.func 73) #[] #[])).run Try.prog (w.alloc (.map #[] 0)) = .ok () (w.alloc (.map #[⟨.int .u8 1, (.func (.func 73) #[] #[]), 0⟩] 1)) :=
  run_put w 93 26 92 #[] 0 1 _ Try.underlying93 Try.underlying26 rfl
theorem result_put1 (w : World) : (Instr.mapUpdate 93 (.map (some w.heap.size)) (.int .u8 2) (.func (.func 75) #[] #[])).run Try.prog (w.alloc (.map #[⟨.int .u8 1, (.func (.func 73) #[] #[]), 0⟩] 1)) = .ok () (w.alloc (.map #[⟨.int .u8 1, (.func (.func 73) #[] #[]), 0⟩, ⟨.int .u8 2, (.func (.func 75) #[] #[]), 1⟩] 2)) :=
  run_put w 93 26 92 #[⟨.int .u8 1, (.func (.func 73) #[] #[]), 0⟩] 1 2 _ Try.underlying93 Try.underlying26 rfl
theorem result_put2 (w : World) : (Instr.mapUpdate 93 (.map (some w.heap.size)) (.int .u8 3) (.func (.func 77) #[] #[])).run Try.prog (w.alloc (.map #[⟨.int .u8 1, (.func (.func 73) #[] #[]), 0⟩, ⟨.int .u8 2, (.func (.func 75) #[] #[]), 1⟩] 2)) = .ok () (w.alloc (.map #[⟨.int .u8 1, (.func (.func 73) #[] #[]), 0⟩, ⟨.int .u8 2, (.func (.func 75) #[] #[]), 1⟩, ⟨.int .u8 3, (.func (.func 77) #[] #[]), 2⟩] 3)) :=
  run_put w 93 26 92 #[⟨.int .u8 1, (.func (.func 73) #[] #[]), 0⟩, ⟨.int .u8 2, (.func (.func 75) #[] #[]), 1⟩] 2 3 _ Try.underlying93 Try.underlying26 rfl
theorem result_put3 (w : World) : (Instr.mapUpdate 93 (.map (some w.heap.size)) (.int .u8 4) (.func (.func 79) #[] #[])).run Try.prog (w.alloc (.map #[⟨.int .u8 1, (.func (.func 73) #[] #[]), 0⟩, ⟨.int .u8 2, (.func (.func 75) #[] #[]), 1⟩, ⟨.int .u8 3, (.func (.func 77) #[] #[]), 2⟩] 3)) = .ok () (w.alloc (.map #[⟨.int .u8 1, (.func (.func 73) #[] #[]), 0⟩, ⟨.int .u8 2, (.func (.func 75) #[] #[]), 1⟩, ⟨.int .u8 3, (.func (.func 77) #[] #[]), 2⟩, ⟨.int .u8 4, (.func (.func 79) #[] #[]), 3⟩] 4)) :=
  run_put w 93 26 92 #[⟨.int .u8 1, (.func (.func 73) #[] #[]), 0⟩, ⟨.int .u8 2, (.func (.func 75) #[] #[]), 1⟩, ⟨.int .u8 3, (.func (.func 77) #[] #[]), 2⟩] 3 4 _ Try.underlying93 Try.underlying26 rfl

set_option maxHeartbeats 400000 in
theorem answer_5 (b off c : Nat) (x1 x2 y1 y2 : Int) (x3 y3 : ByteArray) (w : World) (hx : At w b off (x1, x2, x3)) (hy : At w b (off + 3) (y1, y2, y3)) (hl : b < w.heap.size) :
    Calls Try.prog 58 #[.int .u8 5, .slice (some ⟨b, off, none⟩) 2 c] w fun e w' => e = .returned (.tuple #[.bool (eqvB (x1, x2, x3) (y1, y2, y3)), .bool true]) ∧ Below w.heap.size w w' := by
  have hB : Below w.heap.size w (w.alloc (.map #[⟨.int .u8 5, (.func (.func 65) #[] #[]), 0⟩, ⟨.int .u8 6, (.func (.func 66) #[] #[]), 1⟩, ⟨.int .u8 7, (.func (.func 67) #[] #[]), 2⟩, ⟨.int .u8 8, (.func (.func 68) #[] #[]), 3⟩, ⟨.int .u8 9, (.func (.func 69) #[] #[]), 4⟩, ⟨.int .u8 10, (.func (.func 71) #[] #[]), 5⟩, ⟨.int .u8 11, (.func (.func 72) #[] #[]), 6⟩] 7)) := (Below.refl _ w).alloc (Nat.le_refl _) _
  have hc := ans1 b off c x1 x2 y1 y2 x3 y3 (w.alloc (.map #[⟨.int .u8 5, (.func (.func 65) #[] #[]), 0⟩, ⟨.int .u8 6, (.func (.func 66) #[] #[]), 1⟩, ⟨.int .u8 7, (.func (.func 67) #[] #[]), 2⟩, ⟨.int .u8 8, (.func (.func 68) #[] #[]), 3⟩, ⟨.int .u8 9, (.func (.func 69) #[] #[]), 4⟩, ⟨.int .u8 10, (.func (.func 71) #[] #[]), 5⟩, ⟨.int .u8 11, (.func (.func 72) #[] #[]), 6⟩] 7)) (hx.later hB hl) (hy.later hB hl)
  have hask := fun (ok : Bool) => run_ask (P := Try.prog) (w.alloc (.map #[⟨.int .u8 5, (.func (.func 65) #[] #[]), 0⟩, ⟨.int .u8 6, (.func (.func 66) #[] #[]), 1⟩, ⟨.int .u8 7, (.func (.func 67) #[] #[]), 2⟩, ⟨.int .u8 8, (.func (.func 68) #[] #[]), 3⟩, ⟨.int .u8 9, (.func (.func 69) #[] #[]), 4⟩, ⟨.int .u8 10, (.func (.func 71) #[] #[]), 5⟩, ⟨.int .u8 11, (.func (.func 72) #[] #[]), 6⟩] 7)) 91 26 89 w.heap.size #[⟨.int .u8 5, (.func (.func 65) #[] #[]), 0⟩, ⟨.int .u8 6, (.func (.func 66) #[] #[]), 1⟩, ⟨.int .u8 7, (.func (.func 67) #[] #[]), 2⟩, ⟨.int .u8 8, (.func (.func 68) #[] #[]), 3⟩, ⟨.int .u8 9, (.func (.func 69) #[] #[]), 4⟩, ⟨.int .u8 10, (.func (.func 71) #[] #[]), 5⟩, ⟨.int .u8 11, (.func (.func 72) #[] #[]), 6⟩] 7 5 0 (.func (.func 65) #[] #[]) Try.underlying91 Try.underlying26 (by show (w.heap.push _)[w.heap.size]? = _; simp) rfl ok
  have hmm := @run_makeMap Try.prog
  have p0 := answer_put0 w
  have p1 := answer_put1 w
  have p2 := answer_put2 w
  have p3 := answer_put3 w
  have p4 := answer_put4 w
  have p5 := answer_put5 w
  have p6 := answer_put6 w
  generalize (eqvB (x1, x2, x3) (y1, y2, y3)) = r at hc ⊢
  clear hx hy hl
  have HB := Lib.hid hB
  clear hB
  go_enter Try.func58, Try.ntmps58
  go_wp2_with fail
  refine hc.mono ?_
  rintro e w1 ⟨rfl, hb1⟩
  go_wp2
  go_ret2
  exact ⟨rfl, HB.out.trans (hb1.mono HB.out.size)⟩

set_option maxHeartbeats 400000 in
theorem answer_6 (b off c : Nat) (x1 x2 y1 y2 : Int) (x3 y3 : ByteArray) (w : World) (hx : At w b off (x1, x2, x3)) (hy : At w b (off + 3) (y1, y2, y3)) (hl : b < w.heap.size) :
    Calls Try.prog 58 #[.int .u8 6, .slice (some ⟨b, off, none⟩) 2 c] w fun e w' => e = .returned (.tuple #[.bool (!eqvB (x1, x2, x3) (y1, y2, y3)), .bool true]) ∧ Below w.heap.size w w' := by
  have hB : Below w.heap.size w (w.alloc (.map #[⟨.int .u8 5, (.func (.func 65) #[] #[]), 0⟩, ⟨.int .u8 6, (.func (.func 66) #[] #[]), 1⟩, ⟨.int .u8 7, (.func (.func 67) #[] #[]), 2⟩, ⟨.int .u8 8, (.func (.func 68) #[] #[]), 3⟩, ⟨.int .u8 9, (.func (.func 69) #[] #[]), 4⟩, ⟨.int .u8 10, (.func (.func 71) #[] #[]), 5⟩, ⟨.int .u8 11, (.func (.func 72) #[] #[]), 6⟩] 7)) := (Below.refl _ w).alloc (Nat.le_refl _) _
  have hc := ans2 b off c x1 x2 y1 y2 x3 y3 (w.alloc (.map #[⟨.int .u8 5, (.func (.func 65) #[] #[]), 0⟩, ⟨.int .u8 6, (.func (.func 66) #[] #[]), 1⟩, ⟨.int .u8 7, (.func (.func 67) #[] #[]), 2⟩, ⟨.int .u8 8, (.func (.func 68) #[] #[]), 3⟩, ⟨.int .u8 9, (.func (.func 69) #[] #[]), 4⟩, ⟨.int .u8 10, (.func (.func 71) #[] #[]), 5⟩, ⟨.int .u8 11, (.func (.func 72) #[] #[]), 6⟩] 7)) (hx.later hB hl) (hy.later hB hl)
  have hask := fun (ok : Bool) => run_ask (P := Try.prog) (w.alloc (.map #[⟨.int .u8 5, (.func (.func 65) #[] #[]), 0⟩, ⟨.int .u8 6, (.func (.func 66) #[] #[]), 1⟩, ⟨.int .u8 7, (.func (.func 67) #[] #[]), 2⟩, ⟨.int .u8 8, (.func (.func 68) #[] #[]), 3⟩, ⟨.int .u8 9, (.func (.func 69) #[] #[]), 4⟩, ⟨.int .u8 10, (.func (.func 71) #[] #[]), 5⟩, ⟨.int .u8 11, (.func (.func 72) #[] #[]), 6⟩] 7)) 91 26 89 w.heap.size #[⟨.int .u8 5, (.func (.func 65) #[] #[]), 0⟩, ⟨.int .u8 6, (.func (.func 66) #[] #[]), 1⟩, ⟨.int .u8 7, (.func (.func 67) #[] #[]), 2⟩, ⟨.int .u8 8, (.func (.func 68) #[] #[]), 3⟩, ⟨.int .u8 9, (.func (.func 69) #[] #[]), 4⟩, ⟨.int .u8 10, (.func (.func 71) #[] #[]), 5⟩, ⟨.int .u8 11, (.func (.func 72) #[] #[]), 6⟩] 7 6 1 (.func (.func 66) #[] #[]) Try.underlying91 Try.underlying26 (by show (w.heap.push _)[w.heap.size]? = _; simp) rfl ok
  have hmm := @run_makeMap Try.prog
  have p0 := answer_put0 w
  have p1 := answer_put1 w
  have p2 := answer_put2 w
  have p3 := answer_put3 w
  have p4 := answer_put4 w
  have p5 := answer_put5 w
  have p6 := answer_put6 w
  generalize (!eqvB (x1, x2, x3) (y1, y2, y3)) = r at hc ⊢
  clear hx hy hl
  have HB := Lib.hid hB
  clear hB
  go_enter Try.func58, Try.ntmps58
  go_wp2_with fail
  refine hc.mono ?_
  rintro e w1 ⟨rfl, hb1⟩
  go_wp2
  go_ret2
  exact ⟨rfl, HB.out.trans (hb1.mono HB.out.size)⟩

set_option maxHeartbeats 400000 in
theorem answer_7 (b off c : Nat) (x1 x2 y1 y2 : Int) (x3 y3 : ByteArray) (w : World) (hx : At w b off (x1, x2, x3)) (hy : At w b (off + 3) (y1, y2, y3)) (hl : b < w.heap.size) :
    Calls Try.prog 58 #[.int .u8 7, .slice (some ⟨b, off, none⟩) 2 c] w fun e w' => e = .returned (.tuple #[.bool (decide (x2 < y2)), .bool true]) ∧ Below w.heap.size w w' := by
  have hB : Below w.heap.size w (w.alloc (.map #[⟨.int .u8 5, (.func (.func 65) #[] #[]), 0⟩, ⟨.int .u8 6, (.func (.func 66) #[] #[]), 1⟩, ⟨.int .u8 7, (.func (.func 67) #[] #[]), 2⟩, ⟨.int .u8 8, (.func (.func 68) #[] #[]), 3⟩, ⟨.int .u8 9, (.func (.func 69) #[] #[]), 4⟩, ⟨.int .u8 10, (.func (.func 71) #[] #[]), 5⟩, ⟨.int .u8 11, (.func (.func 72) #[] #[]), 6⟩] 7)) := (Below.refl _ w).alloc (Nat.le_refl _) _
  have hc := ans3 b off c x1 x2 y1 y2 x3 y3 (w.alloc (.map #[⟨.int .u8 5, (.func (.func 65) #[] #[]), 0⟩, ⟨.int .u8 6, (.func (.func 66) #[] #[]), 1⟩, ⟨.int .u8 7, (.func (.func 67) #[] #[]), 2⟩, ⟨.int .u8 8, (.func (.func 68) #[] #[]), 3⟩, ⟨.int .u8 9, (.func (.func 69) #[] #[]), 4⟩, ⟨.int .u8 10, (.func (.func 71) #[] #[]), 5⟩, ⟨.int .u8 11, (.func (.func 72) #[] #[]), 6⟩] 7)) (hx.later hB hl) (hy.later hB hl)
  have hask := fun (ok : Bool) => run_ask (P := Try.prog) (w.alloc (.map #[⟨.int .u8 5, (.func (.func 65) #[] #[]), 0⟩, ⟨.int .u8 6, (.func (.func 66) #[] #[]), 1⟩, ⟨.int .u8 7, (.func (.func 67) #[] #[]), 2⟩, ⟨.int .u8 8, (.func (.func 68) #[] #[]), 3⟩, ⟨.int .u8 9, (.func (.func 69) #[] #[]), 4⟩, ⟨.int .u8 10, (.func (.func 71) #[] #[]), 5⟩, ⟨.int .u8 11, (.func (.func 72) #[] #[]), 6⟩] 7)) 91 26 89 w.heap.size #[⟨.int .u8 5, (.func (.func 65) #[] #[]), 0⟩, ⟨.int .u8 6, (.func (.func 66) #[] #[]), 1⟩, ⟨.int .u8 7, (.func (.func 67) #[] #[]), 2⟩, ⟨.int .u8 8, (.func (.func 68) #[] #[]), 3⟩, ⟨.int .u8 9, (.func (.func 69) #[] #[]), 4⟩, ⟨.int .u8 10, (.func (.func 71) #[] #[]), 5⟩, ⟨.int .u8 11, (.func (.func 72) #[] #[]), 6⟩] 7 7 2 (.func (.func 67) #[] #[]) Try.underlying91 Try.underlying26 (by show (w.heap.push _)[w.heap.size]? = _; simp) rfl ok
  have hmm := @run_makeMap Try.prog
  have p0 := answer_put0 w
  have p1 := answer_put1 w
  have p2 := answer_put2 w
  have p3 := answer_put3 w
  have p4 := answer_put4 w
  have p5 := answer_put5 w
  have p6 := answer_put6 w
  generalize (decide (x2 < y2)) = r at hc ⊢
  clear hx hy hl
  have HB := Lib.hid hB
  clear hB
  go_enter Try.func58, Try.ntmps58
  go_wp2_with fail
  refine hc.mono ?_
  rintro e w1 ⟨rfl, hb1⟩
  go_wp2
  go_ret2
  exact ⟨rfl, HB.out.trans (hb1.mono HB.out.size)⟩

set_option maxHeartbeats 400000 in
theorem answer_8 (b off c : Nat) (x1 x2 y1 y2 : Int) (x3 y3 : ByteArray) (w : World) (hx : At w b off (x1, x2, x3)) (hy : At w b (off + 3) (y1, y2, y3)) (hl : b < w.heap.size) :
    Calls Try.prog 58 #[.int .u8 8, .slice (some ⟨b, off, none⟩) 2 c] w fun e w' => e = .returned (.tuple #[.bool (decide (x2 ≤ y2)), .bool true]) ∧ Below w.heap.size w w' := by
  have hB : Below w.heap.size w (w.alloc (.map #[⟨.int .u8 5, (.func (.func 65) #[] #[]), 0⟩, ⟨.int .u8 6, (.func (.func 66) #[] #[]), 1⟩, ⟨.int .u8 7, (.func (.func 67) #[] #[]), 2⟩, ⟨.int .u8 8, (.func (.func 68) #[] #[]), 3⟩, ⟨.int .u8 9, (.func (.func 69) #[] #[]), 4⟩, ⟨.int .u8 10, (.func (.func 71) #[] #[]), 5⟩, ⟨.int .u8 11, (.func (.func 72) #[] #[]), 6⟩] 7)) := (Below.refl _ w).alloc (Nat.le_refl _) _
  have hc := ans4 b off c x1 x2 y1 y2 x3 y3 (w.alloc (.map #[⟨.int .u8 5, (.func (.func 65) #[] #[]), 0⟩, ⟨.int .u8 6, (.func (.func 66) #[] #[]), 1⟩, ⟨.int .u8 7, (.func (.func 67) #[] #[]), 2⟩, ⟨.int .u8 8, (.func (.func 68) #[] #[]), 3⟩, ⟨.int .u8 9, (.func (.func 69) #[] #[]), 4⟩, ⟨.int .u8 10, (.func (.func 71) #[] #[]), 5⟩, ⟨.int .u8 11, (.func (.func 72) #[] #[]), 6⟩] 7)) (hx.later hB hl) (hy.later hB hl)
  have hask := fun (ok : Bool) => run_ask (P := Try.prog) (w.alloc (.map #[⟨.int .u8 5, (.func (.func 65) #[] #[]), 0⟩, ⟨.int .u8 6, (.func (.func 66) #[] #[]), 1⟩, ⟨.int .u8 7, (.func (.func 67) #[] #[]), 2⟩, ⟨.int .u8 8, (.func (.func 68) #[] #[]), 3⟩, ⟨.int .u8 9, (.func (.func 69) #[] #[]), 4⟩, ⟨.int .u8 10, (.func (.func 71) #[] #[]), 5⟩, ⟨.int .u8 11, (.func (.func 72) #[] #[]), 6⟩] 7)) 91 26 89 w.heap.size #[⟨.int .u8 5, (.func (.func 65) #[] #[]), 0⟩, ⟨.int .u8 6, (.func (.func 66) #[] #[]), 1⟩, ⟨.int .u8 7, (.func (.func 67) #[] #[]), 2⟩, ⟨.int .u8 8, (.func (.func 68) #[] #[]), 3⟩, ⟨.int .u8 9, (.func (.func 69) #[] #[]), 4⟩, ⟨.int .u8 10, (.func (.func 71) #[] #[]), 5⟩, ⟨.int .u8 11, (.func (.func 72) #[] #[]), 6⟩] 7 8 3 (.func (.func 68) #[] #[]) Try.underlying91 Try.underlying26 (by show (w.heap.push _)[w.heap.size]? = _; simp) rfl ok
  have hmm := @run_makeMap Try.prog
  have p0 := answer_put0 w
  have p1 := answer_put1 w
  have p2 := answer_put2 w
  have p3 := answer_put3 w
  have p4 := answer_put4 w
  have p5 := answer_put5 w
  have p6 := answer_put6 w
  generalize (decide (x2 ≤ y2)) = r at hc ⊢
  clear hx hy hl
  have HB := Lib.hid hB
  clear hB
  go_enter Try.func58, Try.ntmps58
  go_wp2_with fail
  refine hc.mono ?_
  rintro e w1 ⟨rfl, hb1⟩
  go_wp2
  go_ret2
  exact ⟨rfl, HB.out.trans (hb1.mono HB.out.size)⟩

set_option maxHeartbeats 400000 in
theorem answer_9 (b off c : Nat) (x1 x2 y1 y2 : Int) (x3 y3 : ByteArray) (w : World) (hx : At w b off (x1, x2, x3)) (hy : At w b (off + 3) (y1, y2, y3)) (hl : b < w.heap.size) :
    Calls Try.prog 58 #[.int .u8 9, .slice (some ⟨b, off, none⟩) 2 c] w fun e w' => e = .returned (.tuple #[.bool (x2 != 0 && y2 != 0), .bool true]) ∧ Below w.heap.size w w' := by
  have hB : Below w.heap.size w (w.alloc (.map #[⟨.int .u8 5, (.func (.func 65) #[] #[]), 0⟩, ⟨.int .u8 6, (.func (.func 66) #[] #[]), 1⟩, ⟨.int .u8 7, (.func (.func 67) #[] #[]), 2⟩, ⟨.int .u8 8, (.func (.func 68) #[] #[]), 3⟩, ⟨.int .u8 9, (.func (.func 69) #[] #[]), 4⟩, ⟨.int .u8 10, (.func (.func 71) #[] #[]), 5⟩, ⟨.int .u8 11, (.func (.func 72) #[] #[]), 6⟩] 7)) := (Below.refl _ w).alloc (Nat.le_refl _) _
  have hc := ans5 b off c x1 x2 y1 y2 x3 y3 (w.alloc (.map #[⟨.int .u8 5, (.func (.func 65) #[] #[]), 0⟩, ⟨.int .u8 6, (.func (.func 66) #[] #[]), 1⟩, ⟨.int .u8 7, (.func (.func 67) #[] #[]), 2⟩, ⟨.int .u8 8, (.func (.func 68) #[] #[]), 3⟩, ⟨.int .u8 9, (.func (.func 69) #[] #[]), 4⟩, ⟨.int .u8 10, (.func (.func 71) #[] #[]), 5⟩, ⟨.int .u8 11, (.func (.func 72) #[] #[]), 6⟩] 7)) (hx.later hB hl) (hy.later hB hl) (Nat.lt_of_lt_of_le hl hB.size)
  have hask := fun (ok : Bool) => run_ask (P := Try.prog) (w.alloc (.map #[⟨.int .u8 5, (.func (.func 65) #[] #[]), 0⟩, ⟨.int .u8 6, (.func (.func 66) #[] #[]), 1⟩, ⟨.int .u8 7, (.func (.func 67) #[] #[]), 2⟩, ⟨.int .u8 8, (.func (.func 68) #[] #[]), 3⟩, ⟨.int .u8 9, (.func (.func 69) #[] #[]), 4⟩, ⟨.int .u8 10, (.func (.func 71) #[] #[]), 5⟩, ⟨.int .u8 11, (.func (.func 72) #[] #[]), 6⟩] 7)) 91 26 89 w.heap.size #[⟨.int .u8 5, (.func (.func 65) #[] #[]), 0⟩, ⟨.int .u8 6, (.func (.func 66) #[] #[]), 1⟩, ⟨.int .u8 7, (.func (.func 67) #[] #[]), 2⟩, ⟨.int .u8 8, (.func (.func 68) #[] #[]), 3⟩, ⟨.int .u8 9, (.func (.func 69) #[] #[]), 4⟩, ⟨.int .u8 10, (.func (.func 71) #[] #[]), 5⟩, ⟨.int .u8 11, (.func (.func 72) #[] #[]), 6⟩] 7 9 4 (.func (.func 69) #[] #[]) Try.underlying91 Try.underlying26 (by show (w.heap.push _)[w.heap.size]? = _; simp) rfl ok
  have hmm := @run_makeMap Try.prog
  have p0 := answer_put0 w
  have p1 := answer_put1 w
  have p2 := answer_put2 w
  have p3 := answer_put3 w
  have p4 := answer_put4 w
  have p5 := answer_put5 w
  have p6 := answer_put6 w
  generalize (x2 != 0 && y2 != 0) = r at hc ⊢
  clear hx hy hl
  have HB := Lib.hid hB
  clear hB
  go_enter Try.func58, Try.ntmps58
  go_wp2_with fail
  refine hc.mono ?_
  rintro e w1 ⟨rfl, hb1⟩
  go_wp2
  go_ret2
  exact ⟨rfl, HB.out.trans (hb1.mono HB.out.size)⟩

set_option maxHeartbeats 400000 in
theorem answer_10 (b off c : Nat) (x1 x2 y1 y2 : Int) (x3 y3 : ByteArray) (w : World) (hx : At w b off (x1, x2, x3)) (hy : At w b (off + 3) (y1, y2, y3)) (hl : b < w.heap.size) :
    Calls Try.prog 58 #[.int .u8 10, .slice (some ⟨b, off, none⟩) 2 c] w fun e w' => e = .returned (.tuple #[.bool (x2 != 0 || y2 != 0), .bool true]) ∧ Below w.heap.size w w' := by
  have hB : Below w.heap.size w (w.alloc (.map #[⟨.int .u8 5, (.func (.func 65) #[] #[]), 0⟩, ⟨.int .u8 6, (.func (.func 66) #[] #[]), 1⟩, ⟨.int .u8 7, (.func (.func 67) #[] #[]), 2⟩, ⟨.int .u8 8, (.func (.func 68) #[] #[]), 3⟩, ⟨.int .u8 9, (.func (.func 69) #[] #[]), 4⟩, ⟨.int .u8 10, (.func (.func 71) #[] #[]), 5⟩, ⟨.int .u8 11, (.func (.func 72) #[] #[]), 6⟩] 7)) := (Below.refl _ w).alloc (Nat.le_refl _) _
  have hc := ans6 b off c x1 x2 y1 y2 x3 y3 (w.alloc (.map #[⟨.int .u8 5, (.func (.func 65) #[] #[]), 0⟩, ⟨.int .u8 6, (.func (.func 66) #[] #[]), 1⟩, ⟨.int .u8 7, (.func (.func 67) #[] #[]), 2⟩, ⟨.int .u8 8, (.func (.func 68) #[] #[]), 3⟩, ⟨.int .u8 9, (.func (.func 69) #[] #[]), 4⟩, ⟨.int .u8 10, (.func (.func 71) #[] #[]), 5⟩, ⟨.int .u8 11, (.func (.func 72) #[] #[]), 6⟩] 7)) (hx.later hB hl) (hy.later hB hl) (Nat.lt_of_lt_of_le hl hB.size)
  have hask := fun (ok : Bool) => run_ask (P := Try.prog) (w.alloc (.map #[⟨.int .u8 5, (.func (.func 65) #[] #[]), 0⟩, ⟨.int .u8 6, (.func (.func 66) #[] #[]), 1⟩, ⟨.int .u8 7, (.func (.func 67) #[] #[]), 2⟩, ⟨.int .u8 8, (.func (.func 68) #[] #[]), 3⟩, ⟨.int .u8 9, (.func (.func 69) #[] #[]), 4⟩, ⟨.int .u8 10, (.func (.func 71) #[] #[]), 5⟩, ⟨.int .u8 11, (.func (.func 72) #[] #[]), 6⟩] 7)) 91 26 89 w.heap.size #[⟨.int .u8 5, (.func (.func 65) #[] #[]), 0⟩, ⟨.int .u8 6, (.func (.func 66) #[] #[]), 1⟩, ⟨.int .u8 7, (.func (.func 67) #[] #[]), 2⟩, ⟨.int .u8 8, (.func (.func 68) #[] #[]), 3⟩, ⟨.int .u8 9, (.func (.func 69) #[] #[]), 4⟩, ⟨.int .u8 10, (.func (.func 71) #[] #[]), 5⟩, ⟨.int .u8 11, (.func (.func 72) #[] #[]), 6⟩] 7 10 5 (.func (.func 71) #[] #[]) Try.underlying91 Try.underlying26 (by show (w.heap.push _)[w.heap.size]? = _; simp) rfl ok
  have hmm := @run_makeMap Try.prog
  have p0 := answer_put0 w
  have p1 := answer_put1 w
  have p2 := answer_put2 w
  have p3 := answer_put3 w
  have p4 := answer_put4 w
  have p5 := answer_put5 w
  have p6 := answer_put6 w
  generalize (x2 != 0 || y2 != 0) = r at hc ⊢
  clear hx hy hl
  have HB := Lib.hid hB
  clear hB
  go_enter Try.func58, Try.ntmps58
  go_wp2_with fail
  refine hc.mono ?_
  rintro e w1 ⟨rfl, hb1⟩
  go_wp2
  go_ret2
  exact ⟨rfl, HB.out.trans (hb1.mono HB.out.size)⟩

set_option maxHeartbeats 400000 in
theorem answer_11 (b off c : Nat) (x1 x2 : Int) (x3 : ByteArray) (w : World) (hx : At w b off (x1, x2, x3)) (hl : b < w.heap.size) :
    Calls Try.prog 58 #[.int .u8 11, .slice (some ⟨b, off, none⟩) 1 c] w fun e w' => e = .returned (.tuple #[.bool (!(x2 != 0)), .bool true]) ∧ Below w.heap.size w w' := by
  have hB : Below w.heap.size w (w.alloc (.map #[⟨.int .u8 5, (.func (.func 65) #[] #[]), 0⟩, ⟨.int .u8 6, (.func (.func 66) #[] #[]), 1⟩, ⟨.int .u8 7, (.func (.func 67) #[] #[]), 2⟩, ⟨.int .u8 8, (.func (.func 68) #[] #[]), 3⟩, ⟨.int .u8 9, (.func (.func 69) #[] #[]), 4⟩, ⟨.int .u8 10, (.func (.func 71) #[] #[]), 5⟩, ⟨.int .u8 11, (.func (.func 72) #[] #[]), 6⟩] 7)) := (Below.refl _ w).alloc (Nat.le_refl _) _
  have hc := ans7 b off c x1 x2 x3 (w.alloc (.map #[⟨.int .u8 5, (.func (.func 65) #[] #[]), 0⟩, ⟨.int .u8 6, (.func (.func 66) #[] #[]), 1⟩, ⟨.int .u8 7, (.func (.func 67) #[] #[]), 2⟩, ⟨.int .u8 8, (.func (.func 68) #[] #[]), 3⟩, ⟨.int .u8 9, (.func (.func 69) #[] #[]), 4⟩, ⟨.int .u8 10, (.func (.func 71) #[] #[]), 5⟩, ⟨.int .u8 11, (.func (.func 72) #[] #[]), 6⟩] 7)) (hx.later hB hl)
  have hask := fun (ok : Bool) => run_ask (P := Try.prog) (w.alloc (.map #[⟨.int .u8 5, (.func (.func 65) #[] #[]), 0⟩, ⟨.int .u8 6, (.func (.func 66) #[] #[]), 1⟩, ⟨.int .u8 7, (.func (.func 67) #[] #[]), 2⟩, ⟨.int .u8 8, (.func (.func 68) #[] #[]), 3⟩, ⟨.int .u8 9, (.func (.func 69) #[] #[]), 4⟩, ⟨.int .u8 10, (.func (.func 71) #[] #[]), 5⟩, ⟨.int .u8 11, (.func (.func 72) #[] #[]), 6⟩] 7)) 91 26 89 w.heap.size #[⟨.int .u8 5, (.func (.func 65) #[] #[]), 0⟩, ⟨.int .u8 6, (.func (.func 66) #[] #[]), 1⟩, ⟨.int .u8 7, (.func (.func 67) #[] #[]), 2⟩, ⟨.int .u8 8, (.func (.func 68) #[] #[]), 3⟩, ⟨.int .u8 9, (.func (.func 69) #[] #[]), 4⟩, ⟨.int .u8 10, (.func (.func 71) #[] #[]), 5⟩, ⟨.int .u8 11, (.func (.func 72) #[] #[]), 6⟩] 7 11 6 (.func (.func 72) #[] #[]) Try.underlying91 Try.underlying26 (by show (w.heap.push _)[w.heap.size]? = _; simp) rfl ok
  have hmm := @run_makeMap Try.prog
  have p0 := answer_put0 w
  have p1 := answer_put1 w
  have p2 := answer_put2 w
  have p3 := answer_put3 w
  have p4 := answer_put4 w
  have p5 := answer_put5 w
  have p6 := answer_put6 w
  generalize (!(x2 != 0)) = r at hc ⊢
  clear hx hl
  have HB := Lib.hid hB
  clear hB
  go_enter Try.func58, Try.ntmps58
  go_wp2_with fail
  refine hc.mono ?_
  rintro e w1 ⟨rfl, hb1⟩
  go_wp2
  go_ret2
  exact ⟨rfl, HB.out.trans (hb1.mono HB.out.size)⟩

set_option maxHeartbeats 400000 in
theorem answer_1 (v : Value) (w : World) :
    Calls Try.prog 58 #[.int .u8 1, v] w fun e w' => e = .returned (.tuple #[.bool false, .bool false]) ∧ Below w.heap.size w w' := by
  have hB : Below w.heap.size w (w.alloc (.map #[⟨.int .u8 5, (.func (.func 65) #[] #[]), 0⟩, ⟨.int .u8 6, (.func (.func 66) #[] #[]), 1⟩, ⟨.int .u8 7, (.func (.func 67) #[] #[]), 2⟩, ⟨.int .u8 8, (.func (.func 68) #[] #[]), 3⟩, ⟨.int .u8 9, (.func (.func 69) #[] #[]), 4⟩, ⟨.int .u8 10, (.func (.func 71) #[] #[]), 5⟩, ⟨.int .u8 11, (.func (.func 72) #[] #[]), 6⟩] 7)) := (Below.refl _ w).alloc (Nat.le_refl _) _
  have hask := run_ask_none (P := Try.prog) (w.alloc (.map #[⟨.int .u8 5, (.func (.func 65) #[] #[]), 0⟩, ⟨.int .u8 6, (.func (.func 66) #[] #[]), 1⟩, ⟨.int .u8 7, (.func (.func 67) #[] #[]), 2⟩, ⟨.int .u8 8, (.func (.func 68) #[] #[]), 3⟩, ⟨.int .u8 9, (.func (.func 69) #[] #[]), 4⟩, ⟨.int .u8 10, (.func (.func 71) #[] #[]), 5⟩, ⟨.int .u8 11, (.func (.func 72) #[] #[]), 6⟩] 7)) 91 26 89 w.heap.size #[⟨.int .u8 5, (.func (.func 65) #[] #[]), 0⟩, ⟨.int .u8 6, (.func (.func 66) #[] #[]), 1⟩, ⟨.int .u8 7, (.func (.func 67) #[] #[]), 2⟩, ⟨.int .u8 8, (.func (.func 68) #[] #[]), 3⟩, ⟨.int .u8 9, (.func (.func 69) #[] #[]), 4⟩, ⟨.int .u8 10, (.func (.func 71) #[] #[]), 5⟩, ⟨.int .u8 11, (.func (.func 72) #[] #[]), 6⟩] 7 1 .nilFunc Try.underlying91 Try.underlying26 Try.zeroValue89 (by show (w.heap.push _)[w.heap.size]? = _; simp) rfl
  have hmm := @run_makeMap Try.prog
  have p0 := answer_put0 w
  have p1 := answer_put1 w
  have p2 := answer_put2 w
  have p3 := answer_put3 w
  have p4 := answer_put4 w
  have p5 := answer_put5 w
  have p6 := answer_put6 w
  have HB := Lib.hid hB
  clear hB
  go_enter Try.func58, Try.ntmps58
  go_wp2
  go_ret2
  exact ⟨rfl, HB.out⟩

set_option maxHeartbeats 400000 in
theorem answer_2 (v : Value) (w : World) :
    Calls Try.prog 58 #[.int .u8 2, v] w fun e w' => e = .returned (.tuple #[.bool false, .bool false]) ∧ Below w.heap.size w w' := by
  have hB : Below w.heap.size w (w.alloc (.map #[⟨.int .u8 5, (.func (.func 65) #[] #[]), 0⟩, ⟨.int .u8 6, (.func (.func 66) #[] #[]), 1⟩, ⟨.int .u8 7, (.func (.func 67) #[] #[]), 2⟩, ⟨.int .u8 8, (.func (.func 68) #[] #[]), 3⟩, ⟨.int .u8 9, (.func (.func 69) #[] #[]), 4⟩, ⟨.int .u8 10, (.func (.func 71) #[] #[]), 5⟩, ⟨.int .u8 11, (.func (.func 72) #[] #[]), 6⟩] 7)) := (Below.refl _ w).alloc (Nat.le_refl _) _
  have hask := run_ask_none (P := Try.prog) (w.alloc (.map #[⟨.int .u8 5, (.func (.func 65) #[] #[]), 0⟩, ⟨.int .u8 6, (.func (.func 66) #[] #[]), 1⟩, ⟨.int .u8 7, (.func (.func 67) #[] #[]), 2⟩, ⟨.int .u8 8, (.func (.func 68) #[] #[]), 3⟩, ⟨.int .u8 9, (.func (.func 69) #[] #[]), 4⟩, ⟨.int .u8 10, (.func (.func 71) #[] #[]), 5⟩, ⟨.int .u8 11, (.func (.func 72) #[] #[]), 6⟩] 7)) 91 26 89 w.heap.size #[⟨.int .u8 5, (.func (.func 65) #[] #[]), 0⟩, ⟨.int .u8 6, (.func (.func 66) #[] #[]), 1⟩, ⟨.int .u8 7, (.func (.func 67) #[] #[]), 2⟩, ⟨.int .u8 8, (.func (.func 68) #[] #[]), 3⟩, ⟨.int .u8 9, (.func (.func 69) #[] #[]), 4⟩, ⟨.int .u8 10, (.func (.func 71) #[] #[]), 5⟩, ⟨.int .u8 11, (.func (.func 72) #[] #[]), 6⟩] 7 2 .nilFunc Try.underlying91 Try.underlying26 Try.zeroValue89 (by show (w.heap.push _)[w.heap.size]? = _; simp) rfl
  have hmm := @run_makeMap Try.prog
  have p0 := answer_put0 w
  have p1 := answer_put1 w
  have p2 := answer_put2 w
  have p3 := answer_put3 w
  have p4 := answer_put4 w
  have p5 := answer_put5 w
  have p6 := answer_put6 w
  have HB := Lib.hid hB
  clear hB
  go_enter Try.func58, Try.ntmps58
  go_wp2
  go_ret2
  exact ⟨rfl, HB.out⟩

set_option maxHeartbeats 400000 in
theorem answer_3 (v : Value) (w : World) :
    Calls Try.prog 58 #[.int .u8 3, v] w fun e w' => e = .returned (.tuple #[.bool false, .bool false]) ∧ Below w.heap.size w w' := by
  have hB : Below w.heap.size w (w.alloc (.map #[⟨.int .u8 5, (.func (.func 65) #[] #[]), 0⟩, ⟨.int .u8 6, (.func (.func 66) #[] #[]), 1⟩, ⟨.int .u8 7, (.func (.func 67) #[] #[]), 2⟩, ⟨.int .u8 8, (.func (.func 68) #[] #[]), 3⟩, ⟨.int .u8 9, (.func (.func 69) #[] #[]), 4⟩, ⟨.int .u8 10, (.func (.func 71) #[] #[]), 5⟩, ⟨.int .u8 11, (.func (.func 72) #[] #[]), 6⟩] 7)) := (Below.refl _ w).alloc (Nat.le_refl _) _
  have hask := run_ask_none (P := Try.prog) (w.alloc (.map #[⟨.int .u8 5, (.func (.func 65) #[] #[]), 0⟩, ⟨.int .u8 6, (.func (.func 66) #[] #[]), 1⟩, ⟨.int .u8 7, (.func (.func 67) #[] #[]), 2⟩, ⟨.int .u8 8, (.func (.func 68) #[] #[]), 3⟩, ⟨.int .u8 9, (.func (.func 69) #[] #[]), 4⟩, ⟨.int .u8 10, (.func (.func 71) #[] #[]), 5⟩, ⟨.int .u8 11, (.func (.func 72) #[] #[]), 6⟩] 7)) 91 26 89 w.heap.size #[⟨.int .u8 5, (.func (.func 65) #[] #[]), 0⟩, ⟨.int .u8 6, (.func (.func 66) #[] #[]), 1⟩, ⟨.int .u8 7, (.func (.func 67) #[] #[]), 2⟩, ⟨.int .u8 8, (.func (.func 68) #[] #[]), 3⟩, ⟨.int .u8 9, (.func (.func 69) #[] #[]), 4⟩, ⟨.int .u8 10, (.func (.func 71) #[] #[]), 5⟩, ⟨.int .u8 11, (.func (.func 72) #[] #[]), 6⟩] 7 3 .nilFunc Try.underlying91 Try.underlying26 Try.zeroValue89 (by show (w.heap.push _)[w.heap.size]? = _; simp) rfl
  have hmm := @run_makeMap Try.prog
  have p0 := answer_put0 w
  have p1 := answer_put1 w
  have p2 := answer_put2 w
  have p3 := answer_put3 w
  have p4 := answer_put4 w
  have p5 := answer_put5 w
  have p6 := answer_put6 w
  have HB := Lib.hid hB
  clear hB
  go_enter Try.func58, Try.ntmps58
  go_wp2
  go_ret2
  exact ⟨rfl, HB.out⟩

set_option maxHeartbeats 400000 in
theorem answer_4 (v : Value) (w : World) :
    Calls Try.prog 58 #[.int .u8 4, v] w fun e w' => e = .returned (.tuple #[.bool false, .bool false]) ∧ Below w.heap.size w w' := by
  have hB : Below w.heap.size w (w.alloc (.map #[⟨.int .u8 5, (.func (.func 65) #[] #[]), 0⟩, ⟨.int .u8 6, (.func (.func 66) #[] #[]), 1⟩, ⟨.int .u8 7, (.func (.func 67) #[] #[]), 2⟩, ⟨.int .u8 8, (.func (.func 68) #[] #[]), 3⟩, ⟨.int .u8 9, (.func (.func 69) #[] #[]), 4⟩, ⟨.int .u8 10, (.func (.func 71) #[] #[]), 5⟩, ⟨.int .u8 11, (.func (.func 72) #[] #[]), 6⟩] 7)) := (Below.refl _ w).alloc (Nat.le_refl _) _
  have hask := run_ask_none (P := Try.prog) (w.alloc (.map #[⟨.int .u8 5, (.func (.func 65) #[] #[]), 0⟩, ⟨.int .u8 6, (.func (.func 66) #[] #[]), 1⟩, ⟨.int .u8 7, (.func (.func 67) #[] #[]), 2⟩, ⟨.int .u8 8, (.func (.func 68) #[] #[]), 3⟩, ⟨.int .u8 9, (.func (.func 69) #[] #[]), 4⟩, ⟨.int .u8 10, (.func (.func 71) #[] #[]), 5⟩, ⟨.int .u8 11, (.func (.func 72) #[] #[]), 6⟩] 7)) 91 26 89 w.heap.size #[⟨.int .u8 5, (.func (.func 65) #[] #[]), 0⟩, ⟨.int .u8 6, (.func (.func 66) #[] #[]), 1⟩, ⟨.int .u8 7, (.func (.func 67) #[] #[]), 2⟩, ⟨.int .u8 8, (.func (.func 68) #[] #[]), 3⟩, ⟨.int .u8 9, (.func (.func 69) #[] #[]), 4⟩, ⟨.int .u8 10, (.func (.func 71) #[] #[]), 5⟩, ⟨.int .u8 11, (.func (.func 72) #[] #[]), 6⟩] 7 4 .nilFunc Try.underlying91 Try.underlying26 Try.zeroValue89 (by show (w.heap.push _)[w.heap.size]? = _; simp) rfl
  have hmm := @run_makeMap Try.prog
  have p0 := answer_put0 w
  have p1 := answer_put1 w
  have p2 := answer_put2 w
  have p3 := answer_put3 w
  have p4 := answer_put4 w
  have p5 := answer_put5 w
  have p6 := answer_put6 w
  have HB := Lib.hid hB
  clear hB
  go_enter Try.func58, Try.ntmps58
  go_wp2
  go_ret2
  exact ⟨rfl, HB.out⟩

set_option maxHeartbeats 400000 in
theorem result_1 (b off c : Nat) (x1 x2 y1 y2 : Int) (x3 y3 : ByteArray) (w : World) (hx : At w b off (x1, x2, x3)) (hy : At w b (off + 3) (y1, y2, y3)) (hl : b < w.heap.size) (h1 : In64 x2) (h2 : In64 y2) :
    Calls Try.prog 60 #[.int .u8 1, .slice (some ⟨b, off, none⟩) 2 c] w fun e w' => e = .returned (.tuple #[.int .i64 (wrap64 (x2 + y2)), .bool (fitB (x2 + y2))]) ∧ Below w.heap.size w w' := by
  have hB : Below w.heap.size w (w.alloc (.map #[⟨.int .u8 1, (.func (.func 73) #[] #[]), 0⟩, ⟨.int .u8 2, (.func (.func 75) #[] #[]), 1⟩, ⟨.int .u8 3, (.func (.func 77) #[] #[]), 2⟩, ⟨.int .u8 4, (.func (.func 79) #[] #[]), 3⟩] 4)) := (Below.refl _ w).alloc (Nat.le_refl _) _
  have hc := res1 b off c x1 x2 y1 y2 x3 y3 (w.alloc (.map #[⟨.int .u8 1, (.func (.func 73) #[] #[]), 0⟩, ⟨.int .u8 2, (.func (.func 75) #[] #[]), 1⟩, ⟨.int .u8 3, (.func (.func 77) #[] #[]), 2⟩, ⟨.int .u8 4, (.func (.func 79) #[] #[]), 3⟩] 4)) (hx.later hB hl) (hy.later hB hl) h1 h2
  have hask := fun (ok : Bool) => run_ask (P := Try.prog) (w.alloc (.map #[⟨.int .u8 1, (.func (.func 73) #[] #[]), 0⟩, ⟨.int .u8 2, (.func (.func 75) #[] #[]), 1⟩, ⟨.int .u8 3, (.func (.func 77) #[] #[]), 2⟩, ⟨.int .u8 4, (.func (.func 79) #[] #[]), 3⟩] 4)) 93 26 92 w.heap.size #[⟨.int .u8 1, (.func (.func 73) #[] #[]), 0⟩, ⟨.int .u8 2, (.func (.func 75) #[] #[]), 1⟩, ⟨.int .u8 3, (.func (.func 77) #[] #[]), 2⟩, ⟨.int .u8 4, (.func (.func 79) #[] #[]), 3⟩] 4 1 0 (.func (.func 73) #[] #[]) Try.underlying93 Try.underlying26 (by show (w.heap.push _)[w.heap.size]? = _; simp) rfl ok
  have hmm := @run_makeMap Try.prog
  have p0 := result_put0 w
  have p1 := result_put1 w
  have p2 := result_put2 w
  have p3 := result_put3 w
  generalize wrap64 (x2 + y2) = n at hc ⊢
  generalize fitB (x2 + y2) = r at hc ⊢
  clear hx hy h2 hl h1
  have HB := Lib.hid hB
  clear hB
  go_enter Try.func60, Try.ntmps60
  go_wp2_with fail
  refine hc.mono ?_
  rintro e w1 ⟨rfl, hb1⟩
  go_wp2
  go_ret2
  exact ⟨rfl, HB.out.trans (hb1.mono HB.out.size)⟩

set_option maxHeartbeats 400000 in
theorem result_2 (b off c : Nat) (x1 x2 y1 y2 : Int) (x3 y3 : ByteArray) (w : World) (hx : At w b off (x1, x2, x3)) (hy : At w b (off + 3) (y1, y2, y3)) (hl : b < w.heap.size) (h1 : In64 x2) (h2 : In64 y2) :
    Calls Try.prog 60 #[.int .u8 2, .slice (some ⟨b, off, none⟩) 2 c] w fun e w' => e = .returned (.tuple #[.int .i64 (wrap64 (x2 - y2)), .bool (fitB (x2 - y2))]) ∧ Below w.heap.size w w' := by
  have hB : Below w.heap.size w (w.alloc (.map #[⟨.int .u8 1, (.func (.func 73) #[] #[]), 0⟩, ⟨.int .u8 2, (.func (.func 75) #[] #[]), 1⟩, ⟨.int .u8 3, (.func (.func 77) #[] #[]), 2⟩, ⟨.int .u8 4, (.func (.func 79) #[] #[]), 3⟩] 4)) := (Below.refl _ w).alloc (Nat.le_refl _) _
  have hc := res2 b off c x1 x2 y1 y2 x3 y3 (w.alloc (.map #[⟨.int .u8 1, (.func (.func 73) #[] #[]), 0⟩, ⟨.int .u8 2, (.func (.func 75) #[] #[]), 1⟩, ⟨.int .u8 3, (.func (.func 77) #[] #[]), 2⟩, ⟨.int .u8 4, (.func (.func 79) #[] #[]), 3⟩] 4)) (hx.later hB hl) (hy.later hB hl) h1 h2
  have hask := fun (ok : Bool) => run_ask (P := Try.prog) (w.alloc (.map #[⟨.int .u8 1, (.func (.func 73) #[] #[]), 0⟩, ⟨.int .u8 2, (.func (.func 75) #[] #[]), 1⟩, ⟨.int .u8 3, (.func (.func 77) #[] #[]), 2⟩, ⟨.int .u8 4, (.func (.func 79) #[] #[]), 3⟩] 4)) 93 26 92 w.heap.size #[⟨.int .u8 1, (.func (.func 73) #[] #[]), 0⟩, ⟨.int .u8 2, (.func (.func 75) #[] #[]), 1⟩, ⟨.int .u8 3, (.func (.func 77) #[] #[]), 2⟩, ⟨.int .u8 4, (.func (.func 79) #[] #[]), 3⟩] 4 2 1 (.func (.func 75) #[] #[]) Try.underlying93 Try.underlying26 (by show (w.heap.push _)[w.heap.size]? = _; simp) rfl ok
  have hmm := @run_makeMap Try.prog
  have p0 := result_put0 w
  have p1 := result_put1 w
  have p2 := result_put2 w
  have p3 := result_put3 w
  generalize wrap64 (x2 - y2) = n at hc ⊢
  generalize fitB (x2 - y2) = r at hc ⊢
  clear hx hy h2 hl h1
  have HB := Lib.hid hB
  clear hB
  go_enter Try.func60, Try.ntmps60
  go_wp2_with fail
  refine hc.mono ?_
  rintro e w1 ⟨rfl, hb1⟩
  go_wp2
  go_ret2
  exact ⟨rfl, HB.out.trans (hb1.mono HB.out.size)⟩

set_option maxHeartbeats 400000 in
theorem result_3 (b off c : Nat) (x1 x2 y1 y2 : Int) (x3 y3 : ByteArray) (w : World) (hx : At w b off (x1, x2, x3)) (hy : At w b (off + 3) (y1, y2, y3)) (hl : b < w.heap.size) (h1 : In64 x2) (h2 : In64 y2) :
    Calls Try.prog 60 #[.int .u8 3, .slice (some ⟨b, off, none⟩) 2 c] w fun e w' => e = .returned (.tuple #[.int .i64 (wrap64 (x2 * y2)), .bool (fitB (x2 * y2))]) ∧ Below w.heap.size w w' := by
  have hB : Below w.heap.size w (w.alloc (.map #[⟨.int .u8 1, (.func (.func 73) #[] #[]), 0⟩, ⟨.int .u8 2, (.func (.func 75) #[] #[]), 1⟩, ⟨.int .u8 3, (.func (.func 77) #[] #[]), 2⟩, ⟨.int .u8 4, (.func (.func 79) #[] #[]), 3⟩] 4)) := (Below.refl _ w).alloc (Nat.le_refl _) _
  have hc := res3 b off c x1 x2 y1 y2 x3 y3 (w.alloc (.map #[⟨.int .u8 1, (.func (.func 73) #[] #[]), 0⟩, ⟨.int .u8 2, (.func (.func 75) #[] #[]), 1⟩, ⟨.int .u8 3, (.func (.func 77) #[] #[]), 2⟩, ⟨.int .u8 4, (.func (.func 79) #[] #[]), 3⟩] 4)) (hx.later hB hl) (hy.later hB hl) h1 h2
  have hask := fun (ok : Bool) => run_ask (P := Try.prog) (w.alloc (.map #[⟨.int .u8 1, (.func (.func 73) #[] #[]), 0⟩, ⟨.int .u8 2, (.func (.func 75) #[] #[]), 1⟩, ⟨.int .u8 3, (.func (.func 77) #[] #[]), 2⟩, ⟨.int .u8 4, (.func (.func 79) #[] #[]), 3⟩] 4)) 93 26 92 w.heap.size #[⟨.int .u8 1, (.func (.func 73) #[] #[]), 0⟩, ⟨.int .u8 2, (.func (.func 75) #[] #[]), 1⟩, ⟨.int .u8 3, (.func (.func 77) #[] #[]), 2⟩, ⟨.int .u8 4, (.func (.func 79) #[] #[]), 3⟩] 4 3 2 (.func (.func 77) #[] #[]) Try.underlying93 Try.underlying26 (by show (w.heap.push _)[w.heap.size]? = _; simp) rfl ok
  have hmm := @run_makeMap Try.prog
  have p0 := result_put0 w
  have p1 := result_put1 w
  have p2 := result_put2 w
  have p3 := result_put3 w
  generalize wrap64 (x2 * y2) = n at hc ⊢
  generalize fitB (x2 * y2) = r at hc ⊢
  clear hx hy h2 hl h1
  have HB := Lib.hid hB
  clear hB
  go_enter Try.func60, Try.ntmps60
  go_wp2_with fail
  refine hc.mono ?_
  rintro e w1 ⟨rfl, hb1⟩
  go_wp2
  go_ret2
  exact ⟨rfl, HB.out.trans (hb1.mono HB.out.size)⟩

set_option maxHeartbeats 400000 in
theorem result_4 (b off c : Nat) (x1 x2 : Int) (x3 : ByteArray) (w : World) (hx : At w b off (x1, x2, x3)) (hl : b < w.heap.size) (h1 : In64 x2) :
    Calls Try.prog 60 #[.int .u8 4, .slice (some ⟨b, off, none⟩) 1 c] w fun e w' => e = .returned (.tuple #[.int .i64 (wrap64 (-x2)), .bool (fitB (-x2))]) ∧ Below w.heap.size w w' := by
  have hB : Below w.heap.size w (w.alloc (.map #[⟨.int .u8 1, (.func (.func 73) #[] #[]), 0⟩, ⟨.int .u8 2, (.func (.func 75) #[] #[]), 1⟩, ⟨.int .u8 3, (.func (.func 77) #[] #[]), 2⟩, ⟨.int .u8 4, (.func (.func 79) #[] #[]), 3⟩] 4)) := (Below.refl _ w).alloc (Nat.le_refl _) _
  have hc := res4 b off c x1 x2 x3 (w.alloc (.map #[⟨.int .u8 1, (.func (.func 73) #[] #[]), 0⟩, ⟨.int .u8 2, (.func (.func 75) #[] #[]), 1⟩, ⟨.int .u8 3, (.func (.func 77) #[] #[]), 2⟩, ⟨.int .u8 4, (.func (.func 79) #[] #[]), 3⟩] 4)) (hx.later hB hl) h1
  have hask := fun (ok : Bool) => run_ask (P := Try.prog) (w.alloc (.map #[⟨.int .u8 1, (.func (.func 73) #[] #[]), 0⟩, ⟨.int .u8 2, (.func (.func 75) #[] #[]), 1⟩, ⟨.int .u8 3, (.func (.func 77) #[] #[]), 2⟩, ⟨.int .u8 4, (.func (.func 79) #[] #[]), 3⟩] 4)) 93 26 92 w.heap.size #[⟨.int .u8 1, (.func (.func 73) #[] #[]), 0⟩, ⟨.int .u8 2, (.func (.func 75) #[] #[]), 1⟩, ⟨.int .u8 3, (.func (.func 77) #[] #[]), 2⟩, ⟨.int .u8 4, (.func (.func 79) #[] #[]), 3⟩] 4 4 3 (.func (.func 79) #[] #[]) Try.underlying93 Try.underlying26 (by show (w.heap.push _)[w.heap.size]? = _; simp) rfl ok
  have hmm := @run_makeMap Try.prog
  have p0 := result_put0 w
  have p1 := result_put1 w
  have p2 := result_put2 w
  have p3 := result_put3 w
  generalize wrap64 (-x2) = n at hc ⊢
  generalize fitB (-x2) = r at hc ⊢
  clear hx hl h1
  have HB := Lib.hid hB
  clear hB
  go_enter Try.func60, Try.ntmps60
  go_wp2_with fail
  refine hc.mono ?_
  rintro e w1 ⟨rfl, hb1⟩
  go_wp2
  go_ret2
  exact ⟨rfl, HB.out.trans (hb1.mono HB.out.size)⟩
end Go.Proofs.Ytkbkkhfmejpbeaa
