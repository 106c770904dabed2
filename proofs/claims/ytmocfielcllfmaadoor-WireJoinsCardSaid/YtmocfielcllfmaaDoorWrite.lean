/- What a writer puts: numbers, counts, texts. -/
import Derived.Test.YtmocfielcllfmaaDoorMake
import Derived.Test.YtmocfielcllfmaaDoorShelf
import Derived.Lib.BufferAt
namespace Go.Proofs.YtmocfielcllfmaaDoor
open Go.RowKit

/-- A writer at b, of this call's own from B on, that holds bytes. -/
def Wr (w : World) (B b : Nat) (bs : List UInt8) : Prop := LibA.IsBuffer 90 (fun _ => none) 5 B b 0 (bcells bs) w
theorem Wr.le {w : World} {B b : Nat} {bs : List UInt8} (h : Wr w B b bs) : B ≤ w.heap.size := Nat.le_trans h.1 (Nat.le_of_lt (LibA.IsBuffer.lt h))

/-- Nothing below B; above it rows of bytes and the writer alone. -/
structure WFr (B b : Nat) (w w' : World) : Prop where
  bel : Below B w w'
  oth : Lib.OthersKept 5 (some b) w w'
theorem WFr.refl (B b : Nat) (w : World) : WFr B b w w := ⟨Below.refl _ _, Lib.OthersKept.refl _ _ _⟩
theorem WFr.trans {B b : Nat} {u v w : World} (h : WFr B b u v) (k : WFr B b v w) : WFr B b u w := ⟨h.bel.trans k.bel, h.oth.trans k.oth⟩
theorem WFr.alloc {B b : Nat} {u w : World} (h : WFr B b u w) (hB : B ≤ w.heap.size) (o : Obj) : WFr B b u (w.alloc o) := ⟨h.bel.alloc hB o, h.oth.alloc o⟩
theorem WFr.size {B b : Nat} {u w : World} (h : WFr B b u w) : u.heap.size ≤ w.heap.size := h.bel.size
theorem WFr.drew {B b : Nat} {u w : World} (h : WFr B b u w) : WFr B b u w.drew := ⟨h.bel.drew, h.oth.drew⟩
/-- A block of another kind stands. -/
theorem WFr.keep {B b : Nat} {w w' : World} (h : WFr B b w w') {k : Nat} {cs : Array Value} {t : TypeId} {fz : Nat × Nat} (hk : w.heap[k]? = some (.cells cs t fz)) (hne : k ≠ b) (ht : t ≠ 5) : w'.heap[k]? = some (.cells cs t fz) :=
  h.oth k _ hk (fun e => hne (Option.some.inj e)) (fun c f e => by injection e with _ e2 _; exact ht e2)
theorem Wr.alloc {w : World} {B b : Nat} {bs : List UInt8} (h : Wr w B b bs) (o : Obj) : Wr (w.alloc o) B b bs := LibA.IsBuffer.alloc h o
theorem Wr.drew {w : World} {B b : Nat} {bs : List UInt8} (h : Wr w B b bs) : Wr w.drew B b bs := LibA.IsBuffer.drew h

theorem bcells_append (l m : List UInt8) : bcells (l ++ m) = bcells l ++ bcells m := Lib.byteCells_append l m
theorem bcells_length (l : List UInt8) : (bcells l).length = l.length := Lib.byteCells_length l

/-- A byte is put. -/
theorem putByte (B b : Nat) (bs : List UInt8) (c : UInt8) (z : Int) (hz : z = (c.toNat : Int)) (w : World) (h : Wr w B b bs) (hl : bs.length + 1 ≤ 140737488355328) :
    Calls Tryd.prog 108 #[.pointer (some ⟨b, 0, none⟩), .int .u8 z] w fun e w' => e = .returned .nilIface ∧ Wr w' B b (bs ++ [c]) ∧ WFr B b w w' := by
  subst hz
  refine (Tryd.Buffer_WriteByte_at _ _ B b 0 (bcells bs) _ w h h.le (Lib.byteCells_one bs) (by rw [bcells_length]; exact hl)).mono ?_
  rintro e w' ⟨rfl, h1, h2, h3⟩
  refine ⟨rfl, ?_, h2, h3⟩
  unfold Wr
  rw [bcells_append]
  exact h1

/-- The writer's next bytes are put. -/
def PutP (out : List UInt8) (B b : Nat) (w : World) (e : Ending) (w' : World) : Prop := e = .returned (.tuple #[]) ∧ Wr w' B b out ∧ WFr B b w w'

theorem byte_of (n j : Nat) : ((n : Int) / 2 ^ ((8 * (j : Int)).toNat)) % 256 = ((UInt8.ofNat (n / 256 ^ j)).toNat : Int) := by
  have h1 : (8 * (j : Int)).toNat = 8 * j := by omega
  have h2 : (2 : Int) ^ (8 * j) = ((256 ^ j : Nat) : Int) := by
    rw [Int.pow_mul]
    simp
  rw [h1, h2, ← Int.natCast_ediv, UInt8.toNat_ofNat']
  omega

set_option maxRecDepth 100000 in
set_option maxHeartbeats 1000000 in
theorem putWord (B b : Nat) (bs : List UInt8) (n k : Nat) (hk : k ≤ 8) (hn : n < 18446744073709551616) (w : World) (h : Wr w B b bs) (hl : bs.length + k ≤ 140737488355328) :
    Calls Tryd.prog 110 #[.pointer (some ⟨b, 0, none⟩), .int .u64 n, .int .i64 k] w (PutP (bs ++ beB k n) B b w) := by
  have HW := Lib.hid h
  have HL := Lib.hid hl
  have HN := Lib.hid hn
  clear h hl hn
  have hsub : (k : Int) - 1 = ((k : Nat) : Int) - 1 := rfl
  go_enter Tryd.func110, Tryd.ntmps110
  go_wp2_with fail
  go_loopw [6] (fun i wr => ∃ (j : Nat) (pre : List UInt8), j ≤ k ∧ i = .int .i64 ((j : Int) - 1) ∧ bs ++ beB k n = pre ++ beB j n ∧ Wr wr B b pre ∧ WFr B b w wr) (fun i _ => (intOf i + 1).toNat)
  case atStart => exact ⟨k, bs, Nat.le_refl _, rfl, rfl, HW.out, WFr.refl _ _ _⟩
  case round =>
    obtain ⟨j, pre, hj, rfl, heq, hwr, hfr⟩ := hrel
    have HEQ := Lib.hid heq
    have HWr := Lib.hid hwr
    have HFr := Lib.hid hfr
    clear heq hwr hfr HW
    cases j with
    | zero =>
      have hm : ((0 : Nat) : Int) - 1 = -1 := rfl
      rw [hm]
      go_wp2
      first | go_end0 | go_ret
      refine ⟨rfl, ?_, HFr.out⟩
      rw [HEQ.out, beB, List.append_nil]
      exact HWr.out
    | succ j =>
      have hm : ((j + 1 : Nat) : Int) - 1 = (j : Int) := by omega
      rw [hm]
      have hlen : pre.length + (j + 1) = bs.length + k := by
        have := congrArg List.length HEQ.out
        simp only [List.length_append, beB_length] at this
        omega
      have HC := Lib.hid (fun W h => putByte B b pre (UInt8.ofNat (n / 256 ^ j)) _ (byte_of n j) W h (by have := HL.out; omega))
      clear hm
      have yw : IntKind.i64.wrap (8 * (j : Int)) = 8 * (j : Int) := IntWalk.i64_in _ (by omega)
      have y0 : (0 : Int) ≤ 8 * (j : Int) := by omega
      have y1 : 8 * (j : Int) ≤ 64 := by omega
      go_wp2_with fail
      go_region_with (go_at_call 108; refine (HC.out _ ?_).mono ?_; (first | exact HWr.out | exact HWr.out.drew); rintro e w1 ⟨rfl, h1, h2⟩; have HW1 := Lib.hid h1; have HF1 := Lib.hid h2; clear h1 h2)
      all_goals
        clear y0 y1 yw
        go_wp2_with fail
        go_roundw
        case rel => exact ⟨j, pre ++ [UInt8.ofNat (n / 256 ^ j)], by omega, rfl, by rw [HEQ.out, beB, List.append_assoc]; rfl, HW1.out, (HFr.out.drew.trans HF1.out)⟩
        case measure => simp [intOf]

theorem putNumber (B b : Nat) (bs : List UInt8) (z : Int) (w : World) (h : Wr w B b bs) (hl : bs.length + 8 ≤ 140737488355328) :
    Calls Tryd.prog 79 #[.pointer (some ⟨b, 0, none⟩), .int .i64 z] w (PutP (bs ++ numB z) B b w) := by
  have hu : IntKind.u64.wrap z = ((un z : Nat) : Int) := by rw [IntKind.wrap_u64]; unfold un; omega
  have HC := Lib.hid (putWord B b bs (un z) 8 (Nat.le_refl _) (un_lt z) w h hl)
  clear h hl
  unfold numB
  generalize un z = n at HC hu
  go_enter Tryd.func79, Tryd.ntmps79
  go_wp2_with (go_at_call 110; refine (HC.out).mono ?_; rintro e w1 ⟨rfl, h1, h2⟩)
  first | go_end0 | go_ret
  exact ⟨rfl, h1, h2⟩

theorem putCount (B b : Nat) (bs : List UInt8) (n : Nat) (hn : n ≤ 9223372036854775807) (w : World) (h : Wr w B b bs) (hl : bs.length + 4 ≤ 140737488355328) :
    Calls Tryd.prog 109 #[.pointer (some ⟨b, 0, none⟩), .int .i64 n] w (PutP (bs ++ countB n) B b w) := by
  have hu : IntKind.u64.wrap (n : Int) = (n : Int) := by rw [IntKind.wrap_u64]; omega
  have HC := Lib.hid (putWord B b bs n 4 (by omega) (by omega) w h hl)
  clear h hl hn
  unfold countB
  go_enter Tryd.func109, Tryd.ntmps109
  go_wp2_with (go_at_call 110; refine (HC.out).mono ?_; rintro e w1 ⟨rfl, h1, h2⟩)
  first | go_end0 | go_ret
  exact ⟨rfl, h1, h2⟩

theorem putString (B b : Nat) (bs : List UInt8) (x : ByteArray) (w : World) (h : Wr w B b bs) (hl : bs.length + x.size ≤ 140737488355328) :
    Calls Tryd.prog 111 #[.pointer (some ⟨b, 0, none⟩), .string x] w fun e w' => e = .returned (.tuple #[.int .i64 x.size, .nilIface]) ∧ Wr w' B b (bs ++ x.data.toList) ∧ WFr B b w w' := by
  refine (Tryd.Buffer_WriteString_at _ _ B b 0 (bcells bs) x w h h.le (Lib.byteCells_one bs) (by rw [bcells_length]; exact hl)).mono ?_
  rintro e w' ⟨rfl, h1, h2, h3⟩
  refine ⟨rfl, ?_, h2, h3⟩
  unfold Wr
  rw [bcells_append]
  exact h1

theorem putText (B b : Nat) (bs : List UInt8) (x : ByteArray) (w : World) (h : Wr w B b bs) (hl : bs.length + (textB x).length ≤ 140737488355328) :
    Calls Tryd.prog 81 #[.pointer (some ⟨b, 0, none⟩), .string x] w (PutP (bs ++ textB x) B b w) := by
  have hx : (textB x).length = 4 + x.size := by
    unfold textB countB
    rw [List.length_append, beB_length, Array.length_toList]
    rfl
  rw [hx] at hl
  have HC := Lib.hid (putCount B b bs x.size (by omega) w h (by omega))
  have HS := Lib.hid (fun W h => putString B b (bs ++ countB x.size) x W h (by rw [List.length_append]; unfold countB; rw [beB_length]; omega))
  have HX : Hid (bs ++ textB x = bs ++ countB x.size ++ x.data.toList) := by unfold Hid textB; rw [List.append_assoc]
  rw [HX.out]
  clear h hl hx HX
  go_enter Tryd.func81, Tryd.ntmps81
  go_wp2_with (go_at_call 109; refine (HC.out).mono ?_; rintro e w1 ⟨rfl, h1, h2⟩; refine Hid.out ?_)
  have H1 := Lib.hid h1
  have H2 := Lib.hid h2
  clear h1 h2 HC
  refine Lib.hid ?_
  go_wp2_with (go_at_call 111; refine (HS.out _ H1.out).mono ?_; rintro e w2 ⟨rfl, h1, h2⟩)
  first | go_end0 | go_ret
  exact ⟨rfl, h1, H2.out.trans h2⟩

theorem wret {B b : Nat} {w w1 : World} {cs : Array Value} {t : TypeId} (f : WFr B b (w.alloc (.cells cs t)) w1) (ne : w.heap.size ≠ b) (ht : t ≠ 5) : (∀ j, w1.cell? ⟨w.heap.size, j, none⟩ = cs[j]?) ∧ (∀ j, w1.frozen? ⟨w.heap.size, j, none⟩ = false) := by
  have hb := f.keep (heap_alloc_new w _) ne ht
  exact ⟨fun j => Lib.cell_of_heap hb j, fun j => Lib.frozen_of_heap hb j⟩

theorem Wr.lt {w : World} {B b : Nat} {bs : List UInt8} (h : Wr w B b bs) : b < w.heap.size := LibA.IsBuffer.lt h

set_option maxRecDepth 100000 in
set_option maxHeartbeats 1000000 in
theorem putValue (B b : Nat) (bs : List UInt8) (v : V3) (hv : In8 v.1) (w : World) (h : Wr w B b bs) (hl : bs.length + (valB v).length ≤ 140737488355328) :
    Calls Tryd.prog 85 #[.pointer (some ⟨b, 0, none⟩), .agg #[.int .u8 v.1, .int .i64 v.2.1, .string v.2.2]] w (PutP (bs ++ valB v) B b w) := by
  obtain ⟨k, n, x⟩ := v
  have hlt : 1 ≤ (valB (k, n, x)).length := by unfold valB octB; simp
  have hk8 : k = ((UInt8.ofNat k.toNat).toNat : Int) := by
    obtain ⟨h1, h2⟩ := hv
    simp only at h1 h2
    rw [UInt8.toNat_ofNat']
    omega
  have HO := Lib.hid (fun W h => putByte B b bs (UInt8.ofNat k.toNat) k hk8 W h (by omega))
  have hne : w.heap.size ≠ b := by have := h.lt; omega
  have hB := h.le
  have H0 := Lib.hid (h.alloc (.cells #[.int .u8 k, .int .i64 n, .string x] 46))
  have hset : bs ++ valB (k, n, x) = bs ++ [UInt8.ofNat k.toNat] ++ (if k = 1 then numB n else if k = 2 then textB x else []) := by
    unfold valB octB
    rw [List.append_assoc]
  have hlen : (bs ++ valB (k, n, x)).length ≤ 140737488355328 := by rw [List.length_append]; exact hl
  rw [hset] at hlen ⊢
  have HLn := Lib.hid hlen
  simp only
  have REG : Hid (∀ W, W = w.alloc (.cells #[.int .u8 k, .int .i64 n, .string x] 46) → True) := fun _ _ => trivial
  clear h hl hlt hset hlen hk8 hv REG
  by_cases h1 : k = 1
  · subst h1
    have HC := Lib.hid (fun W h => putNumber B b (bs ++ [UInt8.ofNat (1 : Int).toNat]) n W h (by
      have := HLn.out
      rw [if_pos rfl, List.length_append] at this
      unfold numB at this
      rw [beB_length] at this
      exact this))
    rw [if_pos rfl]
    clear HLn
    go_enter Tryd.func85, Tryd.ntmps85
    go_wp2_with fail
    go_region_with (go_at_call 108; refine (HO.out _ ?_).mono ?_; (first | exact H0.out | exact H0.out.drew); rintro e w1 ⟨rfl, h1, h2⟩; have H1 := Lib.hid h1; have H2 := Lib.hid h2; obtain ⟨hc, hz⟩ := wret ((WFr.refl B b _).drew.trans h2) hne (by decide); clear h1 h2)
    all_goals
      go_wp2_with (go_at_call 79; refine (HC.out _ H1.out).mono ?_; rintro e w2 ⟨rfl, h1, h2⟩)
      first | go_end0 | go_ret
      exact ⟨rfl, h1, (((WFr.refl B b w).alloc hB _).drew.trans H2.out).trans h2⟩
  · rw [if_neg h1] at HLn ⊢
    have hd1 : ((k : Int) == 1) = false := by simp [h1]
    by_cases h2 : k = 2
    · subst h2
      have HC := Lib.hid (fun W h => putText B b (bs ++ [UInt8.ofNat (2 : Int).toNat]) x W h (by
        have := HLn.out
        rw [if_pos rfl, List.length_append] at this
        exact this))
      rw [if_pos rfl]
      clear HLn
      go_enter Tryd.func85, Tryd.ntmps85
      go_wp2_with fail
      go_region_with (go_at_call 108; refine (HO.out _ ?_).mono ?_; (first | exact H0.out | exact H0.out.drew); rintro e w1 ⟨rfl, h1, h2⟩; have H1 := Lib.hid h1; have H2 := Lib.hid h2; obtain ⟨hc, hz⟩ := wret ((WFr.refl B b _).drew.trans h2) hne (by decide); clear h1 h2)
      all_goals
        go_wp2_with (go_at_call 81; refine (HC.out _ H1.out).mono ?_; rintro e w2 ⟨rfl, h1, h2⟩)
        first | go_end0 | go_ret
        exact ⟨rfl, h1, (((WFr.refl B b w).alloc hB _).drew.trans H2.out).trans h2⟩
    · have hd2 : ((k : Int) == 2) = false := by simp [h2]
      rw [if_neg h2, List.append_nil]
      clear HLn
      go_enter Tryd.func85, Tryd.ntmps85
      go_wp2_with fail
      go_region_with (go_at_call 108; refine (HO.out _ ?_).mono ?_; (first | exact H0.out | exact H0.out.drew); rintro e w1 ⟨rfl, h1, h2⟩; have H1 := Lib.hid h1; have H2 := Lib.hid h2; obtain ⟨hc, hz⟩ := wret ((WFr.refl B b _).drew.trans h2) hne (by decide); clear h1 h2)
      all_goals
        go_wp2
        first | go_end0 | go_ret
        exact ⟨rfl, H1.out, (((WFr.refl B b w).alloc hB _).drew.trans H2.out)⟩
end Go.Proofs.YtmocfielcllfmaaDoor
