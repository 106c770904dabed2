/- What each kind says: the program's closures. -/
import Derived.Test.YtkbkkhfmejpbeaaState9
namespace Go.Proofs.Ytkbkkhfmejpbeaa
open Go.RowKit

theorem rightG (k n : Int) (s : ByteArray) (w : World) (hs : s.size ≤ maxLen) :
    Calls Try.prog 17 #[.agg #[.int .u8 k, .int .i64 n, .string s]] w fun e w' => e = .returned (.bool (rightB k n s)) ∧ Gr w w' :=
  (right_any k n s w hs).mono fun _ _ ⟨h, h'⟩ => ⟨h, h' ▸ (Gr.refl w).alloc _⟩

set_option maxHeartbeats 1000000 in
theorem ifRight_any (k n : Int) (s : ByteArray) (w : World) (hs : s.size ≤ maxLen) :
    Calls Try.prog 41 #[.agg #[.int .u8 k, .int .i64 n, .string s]] w (DoPost (ifR (k, n, s)) w) := by
  have HB := Lib.hid (below_new (below_own (w := w) (.cells #[.int .u8 k, .int .i64 n, .string s] 25)) (.cells #[.int .u8 0, .int .i64 0, .string ⟨#[]⟩] 25))
  have HR := Lib.hid (fun W => rightG k n s W hs)
  unfold ifR DoPost
  simp only
  cases h : rightB k n s with
  | true =>
    rw [if_pos rfl]
    rw [h] at HR
    clear h hs
    go_enter Try.func41, Try.ntmps41
    go_wp2_with (go_at_call 17; go_must (refine (HR.out _).mono ?_; rintro e w1 ⟨rfl, hg⟩; obtain ⟨b1, b2⟩ := two_boxes9 hg.below; obtain ⟨b3, b4⟩ := two_frozen9 hg.below; have HN := Lib.hid ((hg.below.block (w.heap.size + 1) (by simp)).trans (alloc_at (w := w.alloc (.cells #[.int .u8 k, .int .i64 n, .string s] 25)) (by simp) (.cells #[.int .u8 0, .int .i64 0, .string ⟨#[]⟩] 25))); have HG := Lib.hid hg; clear hg))
    exact val_end Try.results41 rfl rfl rfl HN.out rfl fun W3 _ g3 => ⟨rfl, (HB.out.trans (HG.out.below.mono HB.out.size)).grown g3 (Nat.le_trans HB.out.size HG.out.below.size) (fun q hq => by obtain rfl := Option.some.inj hq; omega)⟩
  | false =>
    rw [if_neg (by simp)]
    rw [h] at HR
    clear h hs
    go_enter Try.func41, Try.ntmps41
    go_wp2_with (go_at_call 17; go_must (refine (HR.out _).mono ?_; rintro e w1 ⟨rfl, hg⟩; obtain ⟨b1, b2⟩ := two_boxes9 hg.below; obtain ⟨b3, b4⟩ := two_frozen9 hg.below; have HN := Lib.hid ((hg.below.block (w.heap.size + 1) (by simp)).trans (alloc_at (w := w.alloc (.cells #[.int .u8 k, .int .i64 n, .string s] 25)) (by simp) (.cells #[.int .u8 0, .int .i64 0, .string ⟨#[]⟩] 25))); have HG := Lib.hid hg; clear hg))
    exact val_end Try.results41 rfl rfl rfl HN.out rfl fun W3 _ g3 => ⟨rfl, (HB.out.trans (HG.out.below.mono HB.out.size)).grown g3 (Nat.le_trans HB.out.size HG.out.below.size) (fun q hq => by obtain rfl := Option.some.inj hq; omega)⟩

set_option maxHeartbeats 1000000 in
theorem says1_any (a : Addr) (t : X) (v : Value) (w : World) (ha : At9 w.heap.size w a t) (hh : Fine1 t.val) :
    Calls Try.prog 40 #[.pointer (some a), v] w (DoPost (ifR t.val) w) := by
  obtain ⟨sb, o, ao, c, kb, ko, rfl, hb, c0, c1, c2, c3, c4, c5, c6, -⟩ := ha.cells
  have HB := Lib.hid (below_own (w := w) (.cells #[.int .u8 0, .int .i64 0, .string ⟨#[]⟩] 25))
  have HR := Lib.hid (fun W => ifRight_any t.vk t.vn t.vs W hh.2)
  have hne : sb ≠ w.heap.size := by omega
  unfold DoPost at HR ⊢
  show Calls _ _ _ _ fun e w' => e = .returned (.tuple #[.agg #[.int .u8 (ifR (t.vk, t.vn, t.vs)).1.1, .int .i64 (ifR (t.vk, t.vn, t.vs)).1.2.1, .string (ifR (t.vk, t.vn, t.vs)).1.2.2], .int .i64 (ifR (t.vk, t.vn, t.vs)).2]) ∧ Below w.heap.size w w'
  generalize ifR (t.vk, t.vn, t.vs) = r at HR ⊢
  clear ha hh c0 c4 c5 c6
  go_enter Try.func40, Try.ntmps40
  go_wp2_with (go_at_call 41; go_must (refine (HR.out _).mono ?_; rintro e w1 ⟨rfl, hg⟩; obtain ⟨b1, b2⟩ := bret hg; have b3 := (cell_alloc w #[.int .u8 0, .int .i64 0, .string ⟨#[]⟩] 25); have HN := Lib.hid ((hg.block w.heap.size (by simp)).trans (alloc_at (w := w) rfl (.cells #[.int .u8 0, .int .i64 0, .string ⟨#[]⟩] 25))); have HG := Lib.hid hg; clear hg))
  exact val_end Try.results40 rfl rfl rfl HN.out rfl fun W3 _ g3 => ⟨rfl, (HB.out.trans (HG.out.mono HB.out.size)).grown g3 (Nat.le_trans HB.out.size HG.out.size) (fun q hq => by obtain rfl := Option.some.inj hq; omega)⟩
end Go.Proofs.Ytkbkkhfmejpbeaa
