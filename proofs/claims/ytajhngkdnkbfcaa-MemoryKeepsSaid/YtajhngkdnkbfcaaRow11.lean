/- full, skip, made, New, Next, Len. -/
import Derived.Test.YtajhngkdnkbfcaaWho11
namespace Go.Proofs.Ytajhngkdnkbfcaa
open Go.RowKit

def fullB (n : Nat) (nx : Int) : Bool := decide (256 ≤ n) || decide (1099511627776 < nx)
set_option maxHeartbeats 1000000 in
theorem full_any (rb : Nat) (ao : Option Addr) (c : Nat) (l : List F11) (nx : Int) (w : World) (hr : Rw w rb ao c l nx) :
    Calls Try.prog 27 #[.pointer (some ⟨rb, 0, none⟩)] w fun e w' => e = .returned (.bool (fullB l.length nx)) ∧ w = w' := by
  obtain ⟨x0, x1⟩ := hr.next
  have hm := hr.many
  clear hr
  generalize l.length = n at *
  by_cases h : 256 ≤ n
  · rw [show fullB n nx = true from by simp [fullB, h]]
    have h' : (256 : Int) ≤ (n : Int) := by omega
    clear hm h
    go_enter Try.func27, Try.ntmps27
    go_wp2
    go_ret
    exact ⟨rfl, rfl⟩
  · have h' : ¬ (256 : Int) ≤ (n : Int) := by omega
    by_cases h2 : 1099511627776 < nx
    · rw [show fullB n nx = true from by simp [fullB, h2]]
      clear hm h
      go_enter Try.func27, Try.ntmps27
      go_wp2
      go_ret
      exact ⟨rfl, rfl⟩
    · rw [show fullB n nx = false from by simp [fullB, h, h2]]
      clear hm h
      go_enter Try.func27, Try.ntmps27
      go_wp2
      go_ret
      exact ⟨rfl, rfl⟩
def skipB (nx t : Int) : Bool := decide (nx ≤ t) && decide (t ≤ 1099511627777)
set_option maxHeartbeats 1000000 in
theorem skip_no (t : Int) (rb : Nat) (ao : Option Addr) (c : Nat) (l : List F11) (nx : Int) (w : World) (hr : Rw w rb ao c l nx) (h : skipB nx t = false) :
    Calls Try.prog 33 #[.pointer (some ⟨rb, 0, none⟩), .int .i64 t] w fun e w' => e = .returned (.bool false) ∧ w = w' := by
  obtain ⟨x0, x1⟩ := hr.next
  clear hr
  by_cases h1 : t < nx
  · clear h
    go_enter Try.func33, Try.ntmps33
    go_wp2
    go_ret
    exact ⟨rfl, rfl⟩
  · have h2 : 1099511627777 < t := by
      apply Classical.byContradiction
      intro hn
      rw [show skipB nx t = true from by simp [skipB]; omega] at h
      cases h
    clear h
    go_enter Try.func33, Try.ntmps33
    go_wp2
    go_ret
    exact ⟨rfl, rfl⟩
set_option maxHeartbeats 1000000 in
theorem skip_yes (t : Int) (rb : Nat) (ao : Option Addr) (c : Nat) (l : List F11) (nx : Int) (w : World) (hr : Rw w rb ao c l nx) (h : skipB nx t = true) :
    Calls Try.prog 33 #[.pointer (some ⟨rb, 0, none⟩), .int .i64 t] w fun e w' => e = .returned (.bool true) ∧ w.setCell ⟨rb, 1, none⟩ (.int .i64 t) = w' := by
  obtain ⟨x0, x1⟩ := hr.next
  have z := hr.box.frozen 1
  clear hr
  have h1 : ¬ t < nx := by simp [skipB] at h; omega
  have h2 : ¬ 1099511627777 < t := by simp [skipB] at h; omega
  clear h
  go_enter Try.func33, Try.ntmps33
  go_wp2
  go_ret
  exact ⟨rfl, rfl⟩
/-- A memory that New or Of answered. -/
def Mp (w : World) (mb rb : Nat) : Prop := Box w mb 26 [.pointer (some ⟨rb, 0, none⟩)]
theorem made_nil (w : World) : Calls Try.prog 24 #[.pointer none] w fun e w' => e = .returned (.bool false) ∧ w = w' := by
  go_enter Try.func24, Try.ntmps24
  go_wp2
  go_ret
  exact ⟨rfl, rfl⟩
theorem made_zero (mb : Nat) (w : World) (h : Box w mb 26 [.pointer none]) : Calls Try.prog 24 #[.pointer (some ⟨mb, 0, none⟩)] w fun e w' => e = .returned (.bool false) ∧ w = w' := by
  have x := h.cell 0
  simp only [List.getElem?_cons_zero] at x
  clear h
  go_enter Try.func24, Try.ntmps24
  go_wp2
  go_ret
  exact ⟨rfl, rfl⟩
theorem made_any (mb rb : Nat) (w : World) (h : Mp w mb rb) : Calls Try.prog 24 #[.pointer (some ⟨mb, 0, none⟩)] w fun e w' => e = .returned (.bool true) ∧ w = w' := by
  have x := h.cell 0
  simp only [List.getElem?_cons_zero] at x
  clear h
  go_enter Try.func24, Try.ntmps24
  go_wp2
  go_ret
  exact ⟨rfl, rfl⟩
theorem Mp.get {w : World} {mb rb : Nat} (h : Mp w mb rb) : w.cell? ⟨mb, 0, none⟩ = some (.pointer (some ⟨rb, 0, none⟩)) := by
  have x := h.cell 0
  simpa using x
/-- A memory without facts. -/
def NewP (w : World) (e : Ending) (w' : World) : Prop := ∃ mb rb, e = .returned (.pointer (some ⟨mb, 0, none⟩)) ∧ w.heap.size ≤ mb ∧ w.heap.size ≤ rb ∧ Mp w' mb rb ∧ Rw w' rb none 0 [] 1 ∧ Below w.heap.size w w'
theorem new_any (w : World) : Calls Try.prog 16 #[] w (NewP w) := by
  have h1 : Mp ((w.alloc (.cells ([.slice none 0 0, .int .i64 1] : List Value).toArray 74)).alloc (.cells ([.pointer (some ⟨w.heap.size, 0, none⟩)] : List Value).toArray 26)) (w.heap.size + 1) w.heap.size := alloc_at (by simp) _
  have h2 : Rw ((w.alloc (.cells ([.slice none 0 0, .int .i64 1] : List Value).toArray 74)).alloc (.cells ([.pointer (some ⟨w.heap.size, 0, none⟩)] : List Value).toArray 26)) w.heap.size none 0 [] 1 := ⟨(Box.new _ _ _).keep _, World.ownsRow_nil _ _ _ _, (fun f hf => by cases hf), Nat.zero_le _⟩
  have H1 := Lib.hid h1
  have H2 := Lib.hid h2
  clear h1 h2
  unfold NewP
  go_enter Try.func16, Try.ntmps16
  go_wp2_with fail
  go_ret
  exact ⟨_, _, rfl, Nat.le_succ _, Nat.le_refl _, H1.out, H2.out, below_new (below_own _) _⟩
theorem next_any (mb rb : Nat) (ao : Option Addr) (c : Nat) (l : List F11) (nx : Int) (w : World) (h : Mp w mb rb) (hr : Rw w rb ao c l nx) :
    Calls Try.prog 14 #[.pointer (some ⟨mb, 0, none⟩)] w fun e w' => e = .returned (.int .i64 nx) ∧ w = w' := by
  obtain ⟨x0, x1⟩ := hr.next
  have x2 := h.get
  have H := Lib.hid h
  clear h hr
  go_enter Try.func14, Try.ntmps14
  go_wp2_with (go_at_call 24; refine (made_any _ _ _ H.out).mono ?_; rintro e w' ⟨rfl, rfl⟩)
  go_ret
  exact ⟨rfl, rfl⟩
theorem len_any (mb rb : Nat) (ao : Option Addr) (c : Nat) (l : List F11) (nx : Int) (w : World) (h : Mp w mb rb) (hr : Rw w rb ao c l nx) :
    Calls Try.prog 15 #[.pointer (some ⟨mb, 0, none⟩)] w fun e w' => e = .returned (.int .i64 l.length) ∧ w = w' := by
  obtain ⟨x0, x1⟩ := hr.next
  have x2 := h.get
  have H := Lib.hid h
  clear h hr
  generalize l.length = n at *
  go_enter Try.func15, Try.ntmps15
  go_wp2_with (go_at_call 24; refine (made_any _ _ _ H.out).mono ?_; rintro e w' ⟨rfl, rfl⟩)
  go_ret
  exact ⟨rfl, rfl⟩
end Go.Proofs.Ytajhngkdnkbfcaa
