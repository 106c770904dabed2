/- Join: all parts, one behind the other, in new memory. -/
import Derived.Test.YtmocfielcllfmaaDoorWritten
import Derived.Laws.CopyRow
namespace Go.Proofs.YtmocfielcllfmaaDoor
open Go.RowKit

set_option maxRecDepth 100000 in
set_option maxHeartbeats 1000000 in
/-- Nothing is put. -/
theorem putNone (B b : Nat) (bs : List UInt8) (ao : Option Addr) (c : Nat) (w : World) (h : Wr w B b bs) :
    Calls Tryd.prog 43 #[.pointer (some ⟨b, 0, none⟩), .slice ao 0 c] w fun e w' => e = .returned (.tuple #[.int .i64 0, .nilIface]) ∧ Wr w' B b bs ∧ WFr B b w w' := by
  obtain ⟨hB, v0, lr, hbk, -, -⟩ := id h
  have c2 : w.cell? ⟨b, 2, none⟩ = some (.int .i8 lr) := hbk.c2
  have f2 : w.frozen? ⟨b, 2, none⟩ = false := hbk.f 2
  have h' := Lib.hid (LibA.IsBuffer.setLast h 0)
  have hbel0 : WFr B b w (w.setCell ⟨b, 2, none⟩ (.int .i8 0)) := ⟨(Below.refl B w).setCell (p := ⟨b, 2, none⟩) hB _, (Lib.OthersKept.refl _ _ w).setCell ⟨b, 2, none⟩ rfl _⟩
  have HF0 := Lib.hid hbel0
  clear hbk v0 h hbel0
  have hinfo : (Tryd.prog.info? 5).map (·.size) = some 1 := by kernel_rfl
  have hce : ∀ d dLen dCap W, (Builtin.copy_ #[23, 23] 3 #[.slice d dLen dCap, .slice ao 0 c]).run Tryd.prog W = .ok (goInt 0) W := fun d dLen dCap W => run_copy_none W 23 23 3 5 d ao dLen dCap 0 c Tryd.underlying23 hinfo (by simp)
  have hT := Lib.hid (Tryd.Buffer_tryGrow_at 90 (fun _ => none) B b 0 0 (bcells bs) (w.setCell ⟨b, 2, none⟩ (.int .i8 0)) h'.out)
  go_enter Tryd.func43, Tryd.ntmps43
  go_wp2_with (go_at_call 93; refine (hT.out).mono ?_; rintro e W1 (⟨rfl, xs, hxl, hI, hbel, hk, -⟩ | ⟨rfl, rfl, hnr⟩) <;> refine Hid.out ?_)
  · have hx0 : xs = [] := List.eq_nil_of_length_eq_zero hxl
    subst hx0
    rw [List.append_nil] at hI
    obtain ⟨-, lr2, hc⟩ := hI.cases
    have HI := Lib.hid hI
    have HF := Lib.hid (HF0.out.trans ⟨hbel, hk⟩)
    clear hI hbel hk hT h' c2 f2 hxl HF0
    rcases hc with ⟨hb0, hbk2⟩ | ⟨g, cap, cur, hbk2, -, -, hnc, hcm, -, -, -⟩
    · have d0 : W1.cell? ⟨b, 0, none⟩ = some (.slice none 0 0) := hbk2.c0
      have hb : (bcells bs).length = 0 := by rw [hb0]; rfl
      clear hbk2
      refine Lib.hid ?_
      rw [hb]
      go_wp2
      all_goals (go_ret2; first | exact ⟨rfl, HI.out, HF.out⟩ | exact ⟨by simp, HI.out, HF.out⟩)
    · have d0 : W1.cell? ⟨b, 0, none⟩ = some (.slice (some ⟨g, 0, none⟩) (bcells bs).length cap) := hbk2.c0
      unfold maxLen at hcm
      clear hbk2
      refine Lib.hid ?_
      go_wp2
      all_goals (go_ret2; first | exact ⟨rfl, HI.out, HF.out⟩ | exact ⟨by simp, HI.out, HF.out⟩)
  · obtain ⟨_, _, _, _, hlt⟩ := hnr
    omega

/-- A part is put, wherever it lies. -/
theorem putPart (B b : Nat) (bs : List UInt8) (ao : Option Addr) (l : List UInt8) (c : Nat) (w : World) (h : Wr w B b bs) (hs : SlG B w ao (bcells l)) (hl : bs.length + l.length ≤ 140737488355328) :
    Calls Tryd.prog 43 #[.pointer (some ⟨b, 0, none⟩), .slice ao l.length c] w fun e w' => e = .returned (.tuple #[.int .i64 l.length, .nilIface]) ∧ Wr w' B b (bs ++ l) ∧ WFr B b w w' := by
  cases l with
  | nil =>
    rw [List.append_nil]
    exact putNone B b bs ao c w h
  | cons x l =>
    obtain ⟨sb, off, rfl, lt, hc⟩ := hs (by simp [Lib.byteCells])
    have hne : sb ≠ b := by have := h.1; omega
    refine (Tryd.Buffer_Write_at 90 (fun _ => none) B b 0 (bcells bs) (bcells (x :: l)) ⟨sb, off, none⟩ (x :: l).length c w h h.le (Lib.byteCells_one bs) (by rw [bcells_length]) hne (fun j v hv => by rw [Addr.add_lit]; exact hc j v hv) (Lib.byteCells_one _) (by rw [bcells_length]; exact hl)).mono ?_
    rintro e w' ⟨rfl, h1, h2, h3⟩
    refine ⟨rfl, ?_, h2, h3⟩
    unfold Wr
    rw [bcells_append]
    exact h1

/-- A row of parts. -/
def SlR (B : Nat) (w : World) (ao : Option Addr) (ls : List (List UInt8)) : Prop :=
  0 < ls.length → ∃ sb off, ao = some ⟨sb, off, none⟩ ∧ sb < B ∧ ∀ j, (h : j < ls.length) → ∃ ao' c', w.cell? ⟨sb, off + j, none⟩ = some (.slice ao' (ls[j]).length c') ∧ SlG B w ao' (bcells ls[j])
theorem SlR.below {B : Nat} {w w' : World} {ao : Option Addr} {ls : List (List UInt8)} (h : SlR B w ao ls) (b : Below B w w') : SlR B w' ao ls := fun hl => by
  obtain ⟨sb, off, e, lt, hc⟩ := h hl
  refine ⟨sb, off, e, lt, fun j hj => ?_⟩
  obtain ⟨ao', c', h1, h2⟩ := hc j hj
  exact ⟨ao', c', (b.cell (p := ⟨sb, off + j, none⟩) lt).trans h1, h2.below b⟩

theorem flatten_take {α : Type} (ls : List (List α)) (j : Nat) (h : j < ls.length) : (ls.take (j + 1)).flatten = (ls.take j).flatten ++ ls[j] := by
  rw [List.take_add_one, List.getElem?_eq_getElem h, List.flatten_append]
  simp
theorem flatten_take_le {α : Type} (ls : List (List α)) (j : Nat) (h : j < ls.length) : ((ls.take j).flatten).length + (ls[j]).length ≤ ls.flatten.length := by
  have e : ls.flatten = (ls.take (j + 1)).flatten ++ (ls.drop (j + 1)).flatten := by rw [← List.flatten_append, List.take_append_drop]
  rw [e, flatten_take ls j h, List.length_append, List.length_append]
  omega

set_option maxRecDepth 100000 in
set_option maxHeartbeats 1000000 in
theorem join_any (ao : Option Addr) (ls : List (List UInt8)) (c : Nat) (hm : ls.length ≤ 9223372036854775807) (w : World) (hs : SlR w.heap.size w ao ls) (hl : ls.flatten.length ≤ 140737488355328) :
    Calls Tryd.prog 9 #[.slice ao ls.length c] w (WrittenP ls.flatten w) := by
  obtain ⟨out, hout⟩ : ∃ out, out = ls.flatten := ⟨_, rfl⟩
  rw [← hout]
  have HOUT := Lib.hid hout
  clear hout
  have HW := Lib.hid (wr0 w w.heap.size rfl)
  have HS := Lib.hid hs
  have HL := Lib.hid hl
  have HF0 := Lib.hid (below_own (w := w) (.cells #[.slice none 0 0, .int .i64 0, .int .i8 0] 90))
  clear hs hl
  go_enter Tryd.func9, Tryd.ntmps9
  go_wp2_with fail
  go_loopw [5, 8] (fun x i wr => ∃ j : Nat, j ≤ ls.length ∧ i = .int .i64 j ∧ Wr wr w.heap.size w.heap.size (ls.take j).flatten ∧ Below w.heap.size w wr) (fun _ i _ => ls.length - (intOf i).toNat)
  case atStart => exact ⟨0, by omega, rfl, HW.out, HF0.out⟩
  case round =>
    obtain ⟨j, hj, rfl, hwr, hfr⟩ := hrel
    have HWr := Lib.hid hwr
    have HFr := Lib.hid hfr
    clear hwr hfr HW HF0
    by_cases hlt : j < ls.length
    · obtain ⟨sb, off, rfl, -, hc⟩ := (HS.out.below HFr.out) (by omega)
      obtain ⟨ao1, k1, c1, hp⟩ := hc j hlt
      have HT := Lib.hid (flatten_take ls j hlt)
      have HLe := Lib.hid (flatten_take_le ls j hlt)
      have HC := Lib.hid (putPart w.heap.size w.heap.size (ls.take j).flatten ao1 ls[j] k1 wr HWr.out hp (by have q1 := HL.out; have q2 := HLe.out; omega))
      clear hc HLe hp
      generalize ls[j] = z at c1 HT HC
      go_wp2_with (go_at_call 43; refine (HC.out).mono ?_; rintro e w1 ⟨rfl, h1, h2⟩; refine Hid.out ?_)
      have H1 := Lib.hid h1
      have H2 := Lib.hid h2
      clear h1 h2 c1 HC
      refine Lib.hid ?_
      go_wp2_with fail
      go_roundw
      case rel => exact ⟨j + 1, by omega, by go_num, by rw [HT.out]; exact H1.out, HFr.out.trans H2.out.bel⟩
      case measure => simp [intOf]; omega
    · obtain rfl : j = ls.length := by omega
      rw [List.take_length, ← HOUT.out] at HWr
      go_wp2_with (go_at_call 44; refine (bytes_any _ _ _ _ HWr.out).mono ?_; rintro e w2 ⟨ao9, c9, n9, rfl, hown, rfl⟩)
      go_ret
      exact ⟨ao9, c9, rfl, hown, RowKit_drewN HFr.out _⟩
end Go.Proofs.YtmocfielcllfmaaDoor
