/- The program's All, of a row of expressions that stand apart; Eval. -/
import Derived.Test.YtkbkkhfmejpbeaaOwn9
namespace Go.Proofs.Ytkbkkhfmejpbeaa
open Go.RowKit

theorem put9 (W : World) (es : Array MapEntry) (clock : Nat) (b : Nat) (hb : b = W.heap.size) (k : Int) (val : Value) (hf : Instr.findNow (.int .u8) (.int .u8 k) es.toList 0 = some none) :
    (Instr.mapUpdate 55 (.map (some b)) (.int .u8 k) val).run Try.prog (W.alloc (.map es clock)) = .ok () (W.alloc (.map (es.push ⟨.int .u8 k, val, clock⟩) (clock + 1))) := by
  subst hb
  exact run_put W 55 22 94 es clock k val Try.underlying55 Try.underlying22 hf

set_option maxHeartbeats 1000000 in
theorem sayings_any (vo : Option Addr) (n vc : Nat) (w : World) :
    Calls Try.prog 29 #[.slice vo n vc] w fun e w' => e = .returned (.map (some (w.heap.size + 1))) ∧ (w.alloc (.cells #[.slice vo n vc] 30)).alloc (.map (saysE w.heap.size) 3) = w' := by
  have hmm := @run_makeMap Try.prog
  have p1 := put9 (w.alloc (.cells #[.slice vo n vc] 30)) #[] 0 (w.heap.size + 1) (by simp) 1 (.func (.func 40) #[] #[]) rfl
  have p2 := put9 (w.alloc (.cells #[.slice vo n vc] 30)) #[⟨.int .u8 1, .func (.func 40) #[] #[], 0⟩] 1 (w.heap.size + 1) (by simp) 2 (.func (.func 42) #[] #[.pointer (some ⟨w.heap.size, 0, none⟩)]) rfl
  have p3 := put9 (w.alloc (.cells #[.slice vo n vc] 30)) #[⟨.int .u8 1, .func (.func 40) #[] #[], 0⟩, ⟨.int .u8 2, .func (.func 42) #[] #[.pointer (some ⟨w.heap.size, 0, none⟩)], 1⟩] 2 (w.heap.size + 1) (by simp) 3 (.func (.func 43) #[] #[]) rfl
  simp only [List.push_toArray, List.cons_append, List.nil_append] at p1 p2 p3
  go_enter Try.func29, Try.ntmps29
  go_wp2_with fail
  go_ret
  exact ⟨rfl, rfl⟩
end Go.Proofs.Ytkbkkhfmejpbeaa
