/- What a writer puts: a byte, bytes, a number, a frame. -/
import Derived.Test.YtagjipkoheimjaaGreatDoorFirst
import Derived.Test.YtagjipkoheimjaaGreatDoorShelf
import Derived.Lib.BufferAt
namespace Go.Proofs.YtagjipkoheimjaaGreatDoor
open Go.RowKit

/-- A writer at b, of this call's own from B on, that holds bytes. -/
def Wr (w : World) (B b : Nat) (bs : List UInt8) : Prop := LibA.IsBuffer 55 (fun _ => none) 5 B b 0 (bcells bs) w
theorem Wr.le {w : World} {B b : Nat} {bs : List UInt8} (h : Wr w B b bs) : B ≤ w.heap.size := Nat.le_trans h.1 (Nat.le_of_lt (LibA.IsBuffer.lt h))

/-- Nothing below B; above it rows of bytes and the writer alone. -/
structure WFr (B b : Nat) (w w' : World) : Prop where
  bel : Below B w w'
  oth : Lib.OthersKept 5 (some b) w w'
theorem WFr.refl (B b : Nat) (w : World) : WFr B b w w := ⟨Below.refl _ _, Lib.OthersKept.refl _ _ _⟩
theorem WFr.trans {B b : Nat} {u v w : World} (h : WFr B b u v) (k : WFr B b v w) : WFr B b u w := ⟨h.bel.trans k.bel, h.oth.trans k.oth⟩
theorem WFr.alloc {B b : Nat} {u w : World} (h : WFr B b u w) (hB : B ≤ w.heap.size) (o : Obj) : WFr B b u (w.alloc o) := ⟨h.bel.alloc hB o, h.oth.alloc o⟩
theorem WFr.size {B b : Nat} {u w : World} (h : WFr B b u w) : u.heap.size ≤ w.heap.size := h.bel.size
theorem WFr.drew {B b : Nat} {u w : World} (h : WFr B b u w) : WFr B b u w.drew := ⟨h.bel.drew, h.oth.drew⟩
/-- A block of another kind stands. -/
theorem WFr.keep {B b : Nat} {w w' : World} (h : WFr B b w w') {k : Nat} {cs : Array Value} {t : TypeId} {fz : Nat × Nat} (hk : w.heap[k]? = some (.cells cs t fz)) (hne : k ≠ b) (ht : t ≠ 5) : w'.heap[k]? = some (.cells cs t fz) :=
  h.oth k _ hk (fun e => hne (Option.some.inj e)) (fun c f e => by injection e with _ e2 _; exact ht e2)
theorem Wr.alloc {w : World} {B b : Nat} {bs : List UInt8} (h : Wr w B b bs) (o : Obj) : Wr (w.alloc o) B b bs := LibA.IsBuffer.alloc h o
theorem Wr.drew {w : World} {B b : Nat} {bs : List UInt8} (h : Wr w B b bs) : Wr w.drew B b bs := LibA.IsBuffer.drew h

/-- A byte is put. -/
theorem putByte (B b : Nat) (bs : List UInt8) (c : UInt8) (z : Int) (hz : z = (c.toNat : Int)) (w : World) (h : Wr w B b bs) (hl : bs.length + 1 ≤ 140737488355328) :
    Calls Tryz.prog 43 #[.pointer (some ⟨b, 0, none⟩), .int .u8 z] w fun e w' => e = .returned .nilIface ∧ Wr w' B b (bs ++ [c]) ∧ WFr B b w w' := by
  subst hz
  refine (Tryz.Buffer_WriteByte_at _ _ B b 0 (bcells bs) _ w h h.le (Lib.byteCells_one bs) (by rw [bcells_length]; exact hl)).mono ?_
  rintro e w' ⟨rfl, h1, h2, h3⟩
  refine ⟨rfl, ?_, h2, h3⟩
  unfold Wr
  rw [bcells_append]
  exact h1

/-- The writer's next bytes are put. -/
def PutP (out : List UInt8) (B b : Nat) (w : World) (e : Ending) (w' : World) : Prop := e = .returned (.tuple #[]) ∧ Wr w' B b out ∧ WFr B b w w'

theorem wret {B b : Nat} {w w1 : World} {cs : Array Value} {t : TypeId} (f : WFr B b (w.alloc (.cells cs t)) w1) (ne : w.heap.size ≠ b) (ht : t ≠ 5) : (∀ j, w1.cell? ⟨w.heap.size, j, none⟩ = cs[j]?) ∧ (∀ j, w1.frozen? ⟨w.heap.size, j, none⟩ = false) := by
  have hb := f.keep (heap_alloc_new w _) ne ht
  exact ⟨fun j => Lib.cell_of_heap hb j, fun j => Lib.frozen_of_heap hb j⟩

theorem Wr.lt {w : World} {B b : Nat} {bs : List UInt8} (h : Wr w B b bs) : b < w.heap.size := LibA.IsBuffer.lt h

/-- Bytes in new memory. -/
def WrittenP (out : List UInt8) (w : World) (e : Ending) (w' : World) : Prop :=
  ∃ ao c, e = .returned (.slice ao out.length c) ∧ w'.ownsRow w.heap.size 5 1 (.slice ao out.length c) out.length (bcells out) ∧ Below w.heap.size w w'

theorem wr0 (w : World) (g : Nat) (hg : g = w.heap.size) : Wr (w.alloc (.cells #[.slice none 0 0, .int .i64 0, .int .i8 0] 55)) g g [] := by
  subst hg
  exact LibA.of_whole (Lib.fresh_isBuffer 55 5 w)

def BytesP (out : List UInt8) (B : Nat) (w : World) (e : Ending) (w' : World) : Prop :=
  ∃ ao c n, e = .returned (.slice ao out.length c) ∧ w'.ownsRow B 5 1 (.slice ao out.length c) out.length (bcells out) ∧ w' = w.drewN n

set_option maxRecDepth 100000 in
theorem bytes_any (B b : Nat) (bs : List UInt8) (w : World) (h : Wr w B b bs) :
    Calls Tryz.prog 28 #[.pointer (some ⟨b, 0, none⟩)] w (BytesP bs B w) := by
  have hx := h
  obtain ⟨hB, lr, hc⟩ := LibA.IsBuffer.cases h
  have mixed : Tryz.prog.follows .mixedOrders = true := by kernel_rfl
  rcases hc with ⟨h0, h3⟩ | ⟨g, cap, cur, h3, hBg, hg, hnc, hcm, hcs, htk, hgb⟩
  · have hb : bs = [] := List.eq_nil_of_length_eq_zero (by rw [← bcells_length, h0]; rfl)
    subst hb
    have c0 := h3.c0
    have c1 := h3.c1
    clear h hx h3 h0
    go_enter Tryz.func28, Tryz.ntmps28
    go_wp2_with fail
    go_quiet (fail)
    go_wp2
    go_ret
    exact ⟨none, 0, _, rfl, World.ownsRow_nil _ _ _ _, rfl⟩
  · rw [bcells_length] at h3 hnc htk
    have c0 := h3.c0
    have c1 := h3.c1
    have HG := Lib.hid hg
    have HT := Lib.hid htk
    have HCM := Lib.hid hcm
    have HCS := Lib.hid hcs
    unfold maxLen at hcm
    clear h hx h3 hg htk hcs
    by_cases hc0 : cap = 0
    · subst hc0
      have hl0 : bs = [] := List.eq_nil_of_length_eq_zero (by omega)
      subst hl0
      go_enter Tryz.func28, Tryz.ntmps28
      go_wp2_with fail
      go_quiet (fail)
      go_wp2
      go_ret
      exact ⟨some ⟨g, 0, none⟩, 0, _, rfl, ⟨rfl, Or.inr ⟨g, 0, cur, rfl, hBg, HG.out, Nat.le_refl _, HCM.out, by rw [HCS.out], by simp [Lib.byteCells]⟩⟩, rfl⟩
    · have HC0 := Lib.hid hc0
      go_enter Tryz.func28, Tryz.ntmps28
      go_wp2_with fail
      go_quiet (fail)
      go_wp2
      go_ret
      refine ⟨some ⟨g, 0, none⟩, cap, _, rfl, ⟨by rw [bcells_length, Nat.mul_one], Or.inr ⟨g, cap, cur, rfl, hBg, HG.out, hnc, HCM.out, by rw [HCS.out, Nat.mul_one], by rw [Nat.mul_one]; exact HT.out⟩⟩, rfl⟩


set_option maxRecDepth 100000 in
set_option maxHeartbeats 1000000 in
/-- Nothing is put. -/
theorem putNone (B b : Nat) (bs : List UInt8) (ao : Option Addr) (c : Nat) (w : World) (h : Wr w B b bs) :
    Calls Tryz.prog 45 #[.pointer (some ⟨b, 0, none⟩), .slice ao 0 c] w fun e w' => e = .returned (.tuple #[.int .i64 0, .nilIface]) ∧ Wr w' B b bs ∧ WFr B b w w' := by
  obtain ⟨hB, v0, lr, hbk, -, -⟩ := id h
  have c2 : w.cell? ⟨b, 2, none⟩ = some (.int .i8 lr) := hbk.c2
  have f2 : w.frozen? ⟨b, 2, none⟩ = false := hbk.f 2
  have h' := Lib.hid (LibA.IsBuffer.setLast h 0)
  have hbel0 : WFr B b w (w.setCell ⟨b, 2, none⟩ (.int .i8 0)) := ⟨(Below.refl B w).setCell (p := ⟨b, 2, none⟩) hB _, (Lib.OthersKept.refl _ _ w).setCell ⟨b, 2, none⟩ rfl _⟩
  have HF0 := Lib.hid hbel0
  clear hbk v0 h hbel0
  have hinfo : (Tryz.prog.info? 5).map (·.size) = some 1 := by kernel_rfl
  have hce : ∀ d dLen dCap W, (Builtin.copy_ #[26, 26] 3 #[.slice d dLen dCap, .slice ao 0 c]).run Tryz.prog W = .ok (goInt 0) W := fun d dLen dCap W => run_copy_none W 26 26 3 5 d ao dLen dCap 0 c Tryz.underlying26 hinfo (by simp)
  have hT := Lib.hid (Tryz.Buffer_tryGrow_at 55 (fun _ => none) B b 0 0 (bcells bs) (w.setCell ⟨b, 2, none⟩ (.int .i8 0)) h'.out)
  go_enter Tryz.func45, Tryz.ntmps45
  go_wp2_with (go_at_call 78; refine (hT.out).mono ?_; rintro e W1 (⟨rfl, xs, hxl, hI, hbel, hk, -⟩ | ⟨rfl, rfl, hnr⟩) <;> refine Hid.out ?_)
  · have hx0 : xs = [] := List.eq_nil_of_length_eq_zero hxl
    subst hx0
    rw [List.append_nil] at hI
    obtain ⟨-, lr2, hc⟩ := hI.cases
    have HI := Lib.hid hI
    have HF := Lib.hid (HF0.out.trans ⟨hbel, hk⟩)
    clear hI hbel hk hT h' c2 f2 hxl HF0
    rcases hc with ⟨hb0, hbk2⟩ | ⟨g, cap, cur, hbk2, -, -, hnc, hcm, -, -, -⟩
    · have d0 : W1.cell? ⟨b, 0, none⟩ = some (.slice none 0 0) := hbk2.c0
      have hb : (bcells bs).length = 0 := by rw [hb0]; rfl
      clear hbk2
      refine Lib.hid ?_
      rw [hb]
      go_wp2
      all_goals (go_ret2; first | exact ⟨rfl, HI.out, HF.out⟩ | exact ⟨by simp, HI.out, HF.out⟩)
    · have d0 : W1.cell? ⟨b, 0, none⟩ = some (.slice (some ⟨g, 0, none⟩) (bcells bs).length cap) := hbk2.c0
      unfold maxLen at hcm
      clear hbk2
      refine Lib.hid ?_
      go_wp2
      all_goals (go_ret2; first | exact ⟨rfl, HI.out, HF.out⟩ | exact ⟨by simp, HI.out, HF.out⟩)
  · obtain ⟨_, _, _, _, hlt⟩ := hnr
    omega

/-- A part is put, wherever it lies. -/
theorem putPart (B b : Nat) (bs : List UInt8) (ao : Option Addr) (l : List UInt8) (c : Nat) (w : World) (h : Wr w B b bs) (hs : SlG B w ao (bcells l)) (hl : bs.length + l.length ≤ 140737488355328) :
    Calls Tryz.prog 45 #[.pointer (some ⟨b, 0, none⟩), .slice ao l.length c] w fun e w' => e = .returned (.tuple #[.int .i64 l.length, .nilIface]) ∧ Wr w' B b (bs ++ l) ∧ WFr B b w w' := by
  cases l with
  | nil =>
    rw [List.append_nil]
    exact putNone B b bs ao c w h
  | cons x l =>
    obtain ⟨sb, off, rfl, lt, hc⟩ := hs (by simp [Lib.byteCells])
    have hne : sb ≠ b := by have := h.1; omega
    refine (Tryz.Buffer_Write_at 55 (fun _ => none) B b 0 (bcells bs) (bcells (x :: l)) ⟨sb, off, none⟩ (x :: l).length c w h h.le (Lib.byteCells_one bs) (by rw [bcells_length]) hne (fun j v hv => by rw [Addr.add_lit]; exact hc j v hv) (Lib.byteCells_one _) (by rw [bcells_length]; exact hl)).mono ?_
    rintro e w' ⟨rfl, h1, h2, h3⟩
    refine ⟨rfl, ?_, h2, h3⟩
    unfold Wr
    rw [bcells_append]
    exact h1

end Go.Proofs.YtagjipkoheimjaaGreatDoor
