/- What the outer calls write: each form's bytes, in new memory; Join. -/
import Derived.Test.YtmocfielcllfmaaDoorPutE
namespace Go.Proofs.YtmocfielcllfmaaDoor
open Go.RowKit

/-- Bytes in new memory. -/
def WrittenP (out : List UInt8) (w : World) (e : Ending) (w' : World) : Prop :=
  ∃ ao c, e = .returned (.slice ao out.length c) ∧ w'.ownsRow w.heap.size 5 1 (.slice ao out.length c) out.length (bcells out) ∧ Below w.heap.size w w'

theorem wr0 (w : World) (g : Nat) (hg : g = w.heap.size) : Wr (w.alloc (.cells #[.slice none 0 0, .int .i64 0, .int .i8 0] 90)) g g [] := by
  subst hg
  exact LibA.of_whole (Lib.fresh_isBuffer 90 5 w)

def BytesP (out : List UInt8) (B : Nat) (w : World) (e : Ending) (w' : World) : Prop :=
  ∃ ao c n, e = .returned (.slice ao out.length c) ∧ w'.ownsRow B 5 1 (.slice ao out.length c) out.length (bcells out) ∧ w' = w.drewN n

set_option maxRecDepth 100000 in
theorem bytes_any (B b : Nat) (bs : List UInt8) (w : World) (h : Wr w B b bs) :
    Calls Tryd.prog 44 #[.pointer (some ⟨b, 0, none⟩)] w (BytesP bs B w) := by
  have hx := h
  obtain ⟨hB, lr, hc⟩ := LibA.IsBuffer.cases h
  have mixed : Tryd.prog.follows .mixedOrders = true := by kernel_rfl
  rcases hc with ⟨h0, h3⟩ | ⟨g, cap, cur, h3, hBg, hg, hnc, hcm, hcs, htk, hgb⟩
  · have hb : bs = [] := List.eq_nil_of_length_eq_zero (by rw [← bcells_length, h0]; rfl)
    subst hb
    have c0 := h3.c0
    have c1 := h3.c1
    clear h hx h3 h0
    go_enter Tryd.func44, Tryd.ntmps44
    go_wp2_with fail
    go_quiet (fail)
    go_wp2
    go_ret
    exact ⟨none, 0, _, rfl, World.ownsRow_nil _ _ _ _, rfl⟩
  · rw [bcells_length] at h3 hnc htk
    have c0 := h3.c0
    have c1 := h3.c1
    have HG := Lib.hid hg
    have HT := Lib.hid htk
    have HCM := Lib.hid hcm
    have HCS := Lib.hid hcs
    unfold maxLen at hcm
    clear h hx h3 hg htk hcs
    by_cases hc0 : cap = 0
    · subst hc0
      have hl0 : bs = [] := List.eq_nil_of_length_eq_zero (by omega)
      subst hl0
      go_enter Tryd.func44, Tryd.ntmps44
      go_wp2_with fail
      go_quiet (fail)
      go_wp2
      go_ret
      exact ⟨some ⟨g, 0, none⟩, 0, _, rfl, ⟨rfl, Or.inr ⟨g, 0, cur, rfl, hBg, HG.out, Nat.le_refl _, HCM.out, by rw [HCS.out], by simp [Lib.byteCells]⟩⟩, rfl⟩
    · have HC0 := Lib.hid hc0
      go_enter Tryd.func44, Tryd.ntmps44
      go_wp2_with fail
      go_quiet (fail)
      go_wp2
      go_ret
      refine ⟨some ⟨g, 0, none⟩, cap, _, rfl, ⟨by rw [bcells_length, Nat.mul_one], Or.inr ⟨g, cap, cur, rfl, hBg, HG.out, hnc, HCM.out, by rw [HCS.out, Nat.mul_one], by rw [Nat.mul_one]; exact HT.out⟩⟩, rfl⟩

theorem SlG.up {B B' : Nat} {w w' : World} {ao : Option Addr} {cs : List Value} (h : SlG B w ao cs) (b : Below B w w') (hB : B ≤ B') : SlG B' w' ao cs := fun hn => by
  obtain ⟨sb, off, e, lt, hc⟩ := (h.below b) hn
  exact ⟨sb, off, e, Nat.lt_of_lt_of_le lt hB, hc⟩
theorem SlV.up {B B' : Nat} {w w' : World} {ao : Option Addr} {l : List V3} (h : SlV B w ao l) (b : Below B w w') (hB : B ≤ B') : SlV B' w' ao l := SlG.up h b hB
theorem SlF.up {B B' : Nat} {w w' : World} {ao : Option Addr} {l : List F3} (h : SlF B w ao l) (b : Below B w w') (hB : B ≤ B') : SlF B' w' ao l := by
  obtain ⟨ps, h1, h2, h3⟩ := h
  refine ⟨ps, h1, h2.up b hB, fun p hp => ?_⟩
  obtain ⟨ao', c', e, hv⟩ := h3 p hp
  exact ⟨ao', c', e, hv.up b hB⟩
theorem SlI.up {B B' : Nat} {w w' : World} {ao : Option Addr} {l : List Int} (h : SlI B w ao l) (b : Below B w w') (hB : B ≤ B') : SlI B' w' ao l := fun hl => by
  obtain ⟨sb, off, e, lt, hc⟩ := (h.below b) hl
  exact ⟨sb, off, e, Nat.lt_of_lt_of_le lt hB, hc⟩

theorem RowKit_drewN {B : Nat} {a w : World} (h : Below B a w) (n : Nat) : Below B a (w.drewN n) := h.trans ⟨rfl, rfl, rfl, Nat.le_refl _, fun _ _ => rfl⟩

set_option maxRecDepth 100000 in
set_option maxHeartbeats 1000000 in
theorem writtenN (z : Int) (w : World)  (hl : (numB z).length ≤ 140737488355328) :
    Calls Tryd.prog 78 #[.func (.func 79) #[] #[], .int .i64 z] w (WrittenP (numB z) w) := by
  have HP := Lib.hid (putNumber w.heap.size w.heap.size [] z (w.alloc (.cells #[.slice none 0 0, .int .i64 0, .int .i8 0] 90)) (wr0 w w.heap.size rfl) (by have := hl; simp))
  rw [List.nil_append] at HP
  have e0 : ∀ args w, (callFunc 79 args).run Tryd.prog w = .ok (.enter 79 args) w := enters_of Tryd.func79 (by kernel_rfl) rfl
  generalize numB z = out at HP
  clear hl 
  go_enter Tryd.func78, Tryd.ntmps78
  go_wp2_with (go_at_call 79; refine (HP.out).mono ?_; rintro e w1 ⟨rfl, h1, h2⟩; refine Hid.out ?_)
  have H1 := Lib.hid h1
  have H2 := Lib.hid h2
  clear h1 h2 HP
  refine Lib.hid ?_
  go_wp2_with (go_at_call 44; refine (bytes_any _ _ _ _ H1.out).mono ?_; rintro e w2 ⟨ao9, c9, n9, rfl, hown, rfl⟩)
  go_ret
  exact ⟨ao9, c9, rfl, owns_mono hown (Nat.le_refl _), (below_own _).trans (RowKit_drewN H2.out.bel _)⟩

set_option maxRecDepth 100000 in
theorem writeN (z : Int) (w : World)  (hl : (numB z).length ≤ 140737488355328) :
    Calls Tryd.prog 34 #[.int .i64 z] w (WrittenP (numB z) w) := by
  have HP := Lib.hid (writtenN z w  hl)
  generalize numB z = out at HP
  clear hl 
  go_enter Tryd.func34, Tryd.ntmps34
  go_wp2_with (go_at_call 78; refine (HP.out).mono ?_; rintro e w1 ⟨ao9, c9, rfl, hown, hb⟩)
  go_ret
  exact ⟨ao9, c9, rfl, hown, hb⟩

set_option maxRecDepth 100000 in
set_option maxHeartbeats 1000000 in
theorem writtenS (x : ByteArray) (w : World)  (hl : (textB x).length ≤ 140737488355328) :
    Calls Tryd.prog 80 #[.func (.func 81) #[] #[], .string x] w (WrittenP (textB x) w) := by
  have HP := Lib.hid (putText w.heap.size w.heap.size [] x (w.alloc (.cells #[.slice none 0 0, .int .i64 0, .int .i8 0] 90)) (wr0 w w.heap.size rfl) (by simpa using hl))
  rw [List.nil_append] at HP
  have e0 : ∀ args w, (callFunc 81 args).run Tryd.prog w = .ok (.enter 81 args) w := enters_of Tryd.func81 (by kernel_rfl) rfl
  generalize textB x = out at HP
  clear hl 
  go_enter Tryd.func80, Tryd.ntmps80
  go_wp2_with (go_at_call 81; refine (HP.out).mono ?_; rintro e w1 ⟨rfl, h1, h2⟩; refine Hid.out ?_)
  have H1 := Lib.hid h1
  have H2 := Lib.hid h2
  clear h1 h2 HP
  refine Lib.hid ?_
  go_wp2_with (go_at_call 44; refine (bytes_any _ _ _ _ H1.out).mono ?_; rintro e w2 ⟨ao9, c9, n9, rfl, hown, rfl⟩)
  go_ret
  exact ⟨ao9, c9, rfl, owns_mono hown (Nat.le_refl _), (below_own _).trans (RowKit_drewN H2.out.bel _)⟩

set_option maxRecDepth 100000 in
theorem writeS (x : ByteArray) (w : World)  (hl : (textB x).length ≤ 140737488355328) :
    Calls Tryd.prog 35 #[.string x] w (WrittenP (textB x) w) := by
  have HP := Lib.hid (writtenS x w  hl)
  generalize textB x = out at HP
  clear hl 
  go_enter Tryd.func35, Tryd.ntmps35
  go_wp2_with (go_at_call 80; refine (HP.out).mono ?_; rintro e w1 ⟨ao9, c9, rfl, hown, hb⟩)
  go_ret
  exact ⟨ao9, c9, rfl, hown, hb⟩

set_option maxRecDepth 100000 in
set_option maxHeartbeats 1000000 in
theorem writtenV (v : V3) (w : World) (hv : In8 v.1) (hl : (valB v).length ≤ 140737488355328) :
    Calls Tryd.prog 84 #[.func (.func 85) #[] #[], .agg #[.int .u8 v.1, .int .i64 v.2.1, .string v.2.2]] w (WrittenP (valB v) w) := by
  have HP := Lib.hid (putValue (w.heap.size + 1) (w.heap.size + 1) [] v hv ((w.alloc (.cells #[.int .u8 v.1, .int .i64 v.2.1, .string v.2.2] 46)).alloc (.cells #[.slice none 0 0, .int .i64 0, .int .i8 0] 90)) (wr0 (w.alloc (.cells #[.int .u8 v.1, .int .i64 v.2.1, .string v.2.2] 46)) (w.heap.size + 1) (by simp)) (by simpa using hl))
  rw [List.nil_append] at HP
  have e0 : ∀ args w, (callFunc 85 args).run Tryd.prog w = .ok (.enter 85 args) w := enters_of Tryd.func85 (by kernel_rfl) rfl
  generalize valB v = out at HP
  clear hl hv
  go_enter Tryd.func84, Tryd.ntmps84
  go_wp2_with (go_at_call 85; refine (HP.out).mono ?_; rintro e w1 ⟨rfl, h1, h2⟩; refine Hid.out ?_)
  have H1 := Lib.hid h1
  have H2 := Lib.hid h2
  clear h1 h2 HP
  refine Lib.hid ?_
  go_wp2_with (go_at_call 44; refine (bytes_any _ _ _ _ H1.out).mono ?_; rintro e w2 ⟨ao9, c9, n9, rfl, hown, rfl⟩)
  go_ret
  exact ⟨ao9, c9, rfl, owns_mono hown (Nat.le_succ _), RowKit_drewN ((below_new (below_own _) _).trans (H2.out.bel.mono (Nat.le_succ _))) _⟩

set_option maxRecDepth 100000 in
theorem writeV (v : V3) (w : World) (hv : In8 v.1) (hl : (valB v).length ≤ 140737488355328) :
    Calls Tryd.prog 37 #[.agg #[.int .u8 v.1, .int .i64 v.2.1, .string v.2.2]] w (WrittenP (valB v) w) := by
  have HP := Lib.hid (writtenV v (w.alloc (.cells #[.int .u8 v.1, .int .i64 v.2.1, .string v.2.2] 46)) hv hl)
  generalize valB v = out at HP
  clear hl hv
  go_enter Tryd.func37, Tryd.ntmps37
  go_wp2_with (go_at_call 84; refine (HP.out).mono ?_; rintro e w1 ⟨ao9, c9, rfl, hown, hb⟩)
  go_ret
  exact ⟨ao9, c9, rfl, owns_mono hown (by simp), (below_own _).trans (hb.mono (by simp))⟩

set_option maxRecDepth 100000 in
set_option maxHeartbeats 1000000 in
theorem writtenL (l : List V3) (ao : Option Addr) (c : Nat) (w : World) (hok : OkVs l) (hs : SlV w.heap.size w ao l) (hl : (valsB l).length ≤ 140737488355328) :
    Calls Tryd.prog 86 #[.func (.func 87) #[] #[], .slice ao l.length c] w (WrittenP (valsB l) w) := by
  have HP := Lib.hid (putValues w.heap.size w.heap.size [] ao l c hok (w.alloc (.cells #[.slice none 0 0, .int .i64 0, .int .i8 0] 90)) (wr0 w w.heap.size rfl) (hs.up ((Below.refl w.heap.size w).alloc (Nat.le_refl _) (.cells #[.slice none 0 0, .int .i64 0, .int .i8 0] 90)) (Nat.le_refl _)) (by simpa using hl))
  rw [List.nil_append] at HP
  have e0 : ∀ args w, (callFunc 87 args).run Tryd.prog w = .ok (.enter 87 args) w := enters_of Tryd.func87 (by kernel_rfl) rfl
  generalize valsB l = out at HP
  clear hl hok hs
  go_enter Tryd.func86, Tryd.ntmps86
  go_wp2_with (go_at_call 87; refine (HP.out).mono ?_; rintro e w1 ⟨rfl, h1, h2⟩; refine Hid.out ?_)
  have H1 := Lib.hid h1
  have H2 := Lib.hid h2
  clear h1 h2 HP
  refine Lib.hid ?_
  go_wp2_with (go_at_call 44; refine (bytes_any _ _ _ _ H1.out).mono ?_; rintro e w2 ⟨ao9, c9, n9, rfl, hown, rfl⟩)
  go_ret
  exact ⟨ao9, c9, rfl, owns_mono hown (Nat.le_refl _), (below_own _).trans (RowKit_drewN H2.out.bel _)⟩

set_option maxRecDepth 100000 in
theorem writeL (l : List V3) (ao : Option Addr) (c : Nat) (w : World) (hok : OkVs l) (hs : SlV w.heap.size w ao l) (hl : (valsB l).length ≤ 140737488355328) :
    Calls Tryd.prog 38 #[.slice ao l.length c] w (WrittenP (valsB l) w) := by
  have HP := Lib.hid (writtenL l ao c w hok hs hl)
  generalize valsB l = out at HP
  clear hl hok hs
  go_enter Tryd.func38, Tryd.ntmps38
  go_wp2_with (go_at_call 86; refine (HP.out).mono ?_; rintro e w1 ⟨ao9, c9, rfl, hown, hb⟩)
  go_ret
  exact ⟨ao9, c9, rfl, hown, hb⟩

set_option maxRecDepth 100000 in
set_option maxHeartbeats 1000000 in
theorem writtenF (f : F3) (ao : Option Addr) (c : Nat) (w : World) (hok : OkF f) (hs : SlV w.heap.size w ao f.2.2) (hl : (factB f).length ≤ 140737488355328) :
    Calls Tryd.prog 88 #[.func (.func 89) #[] #[], .agg #[.int .i64 f.1, .int .i64 f.2.1, .slice ao f.2.2.length c]] w (WrittenP (factB f) w) := by
  have HP := Lib.hid (putFact (w.heap.size + 1) (w.heap.size + 1) [] f ao c hok ((w.alloc (.cells #[.int .i64 f.1, .int .i64 f.2.1, .slice ao f.2.2.length c] 52)).alloc (.cells #[.slice none 0 0, .int .i64 0, .int .i8 0] 90)) (wr0 (w.alloc (.cells #[.int .i64 f.1, .int .i64 f.2.1, .slice ao f.2.2.length c] 52)) (w.heap.size + 1) (by simp)) (hs.up ((below_own (w := w) (.cells #[.int .i64 f.1, .int .i64 f.2.1, .slice ao f.2.2.length c] 52)).trans ((Below.refl w.heap.size (w.alloc (.cells #[.int .i64 f.1, .int .i64 f.2.1, .slice ao f.2.2.length c] 52))).alloc (by simp) (.cells #[.slice none 0 0, .int .i64 0, .int .i8 0] 90))) (Nat.le_succ _)) (by simpa using hl))
  rw [List.nil_append] at HP
  have e0 : ∀ args w, (callFunc 89 args).run Tryd.prog w = .ok (.enter 89 args) w := enters_of Tryd.func89 (by kernel_rfl) rfl
  generalize factB f = out at HP
  clear hl hok hs
  go_enter Tryd.func88, Tryd.ntmps88
  go_wp2_with (go_at_call 89; refine (HP.out).mono ?_; rintro e w1 ⟨rfl, h1, h2⟩; refine Hid.out ?_)
  have H1 := Lib.hid h1
  have H2 := Lib.hid h2
  clear h1 h2 HP
  refine Lib.hid ?_
  go_wp2_with (go_at_call 44; refine (bytes_any _ _ _ _ H1.out).mono ?_; rintro e w2 ⟨ao9, c9, n9, rfl, hown, rfl⟩)
  go_ret
  exact ⟨ao9, c9, rfl, owns_mono hown (Nat.le_succ _), RowKit_drewN ((below_new (below_own _) _).trans (H2.out.bel.mono (Nat.le_succ _))) _⟩

set_option maxRecDepth 100000 in
theorem writeF (f : F3) (ao : Option Addr) (c : Nat) (w : World) (hok : OkF f) (hs : SlV w.heap.size w ao f.2.2) (hl : (factB f).length ≤ 140737488355328) :
    Calls Tryd.prog 39 #[.agg #[.int .i64 f.1, .int .i64 f.2.1, .slice ao f.2.2.length c]] w (WrittenP (factB f) w) := by
  have HP := Lib.hid (writtenF f ao c (w.alloc (.cells #[.int .i64 f.1, .int .i64 f.2.1, .slice ao f.2.2.length c] 52)) hok (hs.up (below_own (w := w) (.cells #[.int .i64 f.1, .int .i64 f.2.1, .slice ao f.2.2.length c] 52)) (by simp)) hl)
  generalize factB f = out at HP
  clear hl hok hs
  go_enter Tryd.func39, Tryd.ntmps39
  go_wp2_with (go_at_call 88; refine (HP.out).mono ?_; rintro e w1 ⟨ao9, c9, rfl, hown, hb⟩)
  go_ret
  exact ⟨ao9, c9, rfl, owns_mono hown (by simp), (below_own _).trans (hb.mono (by simp))⟩

set_option maxRecDepth 100000 in
set_option maxHeartbeats 1000000 in
theorem writtenC (q : C4) (ao : Option Addr) (c : Nat) (w : World) (hok : OkC q) (hs : SlV w.heap.size w ao q.2.2.1) (hl : (commandB q).length ≤ 140737488355328) :
    Calls Tryd.prog 90 #[.func (.func 91) #[] #[], .agg #[.int .u8 q.1, .string q.2.1, .slice ao q.2.2.1.length c, .int .i64 q.2.2.2]] w (WrittenP (commandB q) w) := by
  have HP := Lib.hid (putCommand (w.heap.size + 1) (w.heap.size + 1) [] q ao c hok ((w.alloc (.cells #[.int .u8 q.1, .string q.2.1, .slice ao q.2.2.1.length c, .int .i64 q.2.2.2] 57)).alloc (.cells #[.slice none 0 0, .int .i64 0, .int .i8 0] 90)) (wr0 (w.alloc (.cells #[.int .u8 q.1, .string q.2.1, .slice ao q.2.2.1.length c, .int .i64 q.2.2.2] 57)) (w.heap.size + 1) (by simp)) (hs.up ((below_own (w := w) (.cells #[.int .u8 q.1, .string q.2.1, .slice ao q.2.2.1.length c, .int .i64 q.2.2.2] 57)).trans ((Below.refl w.heap.size (w.alloc (.cells #[.int .u8 q.1, .string q.2.1, .slice ao q.2.2.1.length c, .int .i64 q.2.2.2] 57))).alloc (by simp) (.cells #[.slice none 0 0, .int .i64 0, .int .i8 0] 90))) (Nat.le_succ _)) (by simpa using hl))
  rw [List.nil_append] at HP
  have e0 : ∀ args w, (callFunc 91 args).run Tryd.prog w = .ok (.enter 91 args) w := enters_of Tryd.func91 (by kernel_rfl) rfl
  generalize commandB q = out at HP
  clear hl hok hs
  go_enter Tryd.func90, Tryd.ntmps90
  go_wp2_with (go_at_call 91; refine (HP.out).mono ?_; rintro e w1 ⟨rfl, h1, h2⟩; refine Hid.out ?_)
  have H1 := Lib.hid h1
  have H2 := Lib.hid h2
  clear h1 h2 HP
  refine Lib.hid ?_
  go_wp2_with (go_at_call 44; refine (bytes_any _ _ _ _ H1.out).mono ?_; rintro e w2 ⟨ao9, c9, n9, rfl, hown, rfl⟩)
  go_ret
  exact ⟨ao9, c9, rfl, owns_mono hown (Nat.le_succ _), RowKit_drewN ((below_new (below_own _) _).trans (H2.out.bel.mono (Nat.le_succ _))) _⟩

set_option maxRecDepth 100000 in
theorem writeC (q : C4) (ao : Option Addr) (c : Nat) (w : World) (hok : OkC q) (hs : SlV w.heap.size w ao q.2.2.1) (hl : (commandB q).length ≤ 140737488355328) :
    Calls Tryd.prog 40 #[.agg #[.int .u8 q.1, .string q.2.1, .slice ao q.2.2.1.length c, .int .i64 q.2.2.2]] w (WrittenP (commandB q) w) := by
  have HP := Lib.hid (writtenC q ao c (w.alloc (.cells #[.int .u8 q.1, .string q.2.1, .slice ao q.2.2.1.length c, .int .i64 q.2.2.2] 57)) hok (hs.up (below_own (w := w) (.cells #[.int .u8 q.1, .string q.2.1, .slice ao q.2.2.1.length c, .int .i64 q.2.2.2] 57)) (by simp)) hl)
  generalize commandB q = out at HP
  clear hl hok hs
  go_enter Tryd.func40, Tryd.ntmps40
  go_wp2_with (go_at_call 90; refine (HP.out).mono ?_; rintro e w1 ⟨ao9, c9, rfl, hown, hb⟩)
  go_ret
  exact ⟨ao9, c9, rfl, owns_mono hown (by simp), (below_own _).trans (hb.mono (by simp))⟩

set_option maxRecDepth 100000 in
set_option maxHeartbeats 1000000 in
theorem writtenR (q : R4) (aof : Option Addr) (cf : Nat) (ao : Option Addr) (c : Nat) (w : World) (hok : OkR q) (hf : SlF w.heap.size w aof q.2.2.1) (hs : SlV w.heap.size w ao q.2.2.2) (hl : (replyB q).length ≤ 140737488355328) :
    Calls Tryd.prog 82 #[.func (.func 83) #[] #[], .agg #[.int .i64 q.1, .int .i64 q.2.1, .slice aof q.2.2.1.length cf, .slice ao q.2.2.2.length c]] w (WrittenP (replyB q) w) := by
  have HP := Lib.hid (putReply (w.heap.size + 1) (w.heap.size + 1) [] q aof cf ao c hok ((w.alloc (.cells #[.int .i64 q.1, .int .i64 q.2.1, .slice aof q.2.2.1.length cf, .slice ao q.2.2.2.length c] 63)).alloc (.cells #[.slice none 0 0, .int .i64 0, .int .i8 0] 90)) (wr0 (w.alloc (.cells #[.int .i64 q.1, .int .i64 q.2.1, .slice aof q.2.2.1.length cf, .slice ao q.2.2.2.length c] 63)) (w.heap.size + 1) (by simp)) (hf.up ((below_own (w := w) (.cells #[.int .i64 q.1, .int .i64 q.2.1, .slice aof q.2.2.1.length cf, .slice ao q.2.2.2.length c] 63)).trans ((Below.refl w.heap.size (w.alloc (.cells #[.int .i64 q.1, .int .i64 q.2.1, .slice aof q.2.2.1.length cf, .slice ao q.2.2.2.length c] 63))).alloc (by simp) (.cells #[.slice none 0 0, .int .i64 0, .int .i8 0] 90))) (Nat.le_succ _)) (hs.up ((below_own (w := w) (.cells #[.int .i64 q.1, .int .i64 q.2.1, .slice aof q.2.2.1.length cf, .slice ao q.2.2.2.length c] 63)).trans ((Below.refl w.heap.size (w.alloc (.cells #[.int .i64 q.1, .int .i64 q.2.1, .slice aof q.2.2.1.length cf, .slice ao q.2.2.2.length c] 63))).alloc (by simp) (.cells #[.slice none 0 0, .int .i64 0, .int .i8 0] 90))) (Nat.le_succ _)) (by simpa using hl))
  rw [List.nil_append] at HP
  have e0 : ∀ args w, (callFunc 83 args).run Tryd.prog w = .ok (.enter 83 args) w := enters_of Tryd.func83 (by kernel_rfl) rfl
  generalize replyB q = out at HP
  clear hl hok hf hs
  go_enter Tryd.func82, Tryd.ntmps82
  go_wp2_with (go_at_call 83; refine (HP.out).mono ?_; rintro e w1 ⟨rfl, h1, h2⟩; refine Hid.out ?_)
  have H1 := Lib.hid h1
  have H2 := Lib.hid h2
  clear h1 h2 HP
  refine Lib.hid ?_
  go_wp2_with (go_at_call 44; refine (bytes_any _ _ _ _ H1.out).mono ?_; rintro e w2 ⟨ao9, c9, n9, rfl, hown, rfl⟩)
  go_ret
  exact ⟨ao9, c9, rfl, owns_mono hown (Nat.le_succ _), RowKit_drewN ((below_new (below_own _) _).trans (H2.out.bel.mono (Nat.le_succ _))) _⟩

set_option maxRecDepth 100000 in
theorem writeR (q : R4) (aof : Option Addr) (cf : Nat) (ao : Option Addr) (c : Nat) (w : World) (hok : OkR q) (hf : SlF w.heap.size w aof q.2.2.1) (hs : SlV w.heap.size w ao q.2.2.2) (hl : (replyB q).length ≤ 140737488355328) :
    Calls Tryd.prog 36 #[.agg #[.int .i64 q.1, .int .i64 q.2.1, .slice aof q.2.2.1.length cf, .slice ao q.2.2.2.length c]] w (WrittenP (replyB q) w) := by
  have HP := Lib.hid (writtenR q aof cf ao c (w.alloc (.cells #[.int .i64 q.1, .int .i64 q.2.1, .slice aof q.2.2.1.length cf, .slice ao q.2.2.2.length c] 63)) hok (hf.up (below_own (w := w) (.cells #[.int .i64 q.1, .int .i64 q.2.1, .slice aof q.2.2.1.length cf, .slice ao q.2.2.2.length c] 63)) (by simp)) (hs.up (below_own (w := w) (.cells #[.int .i64 q.1, .int .i64 q.2.1, .slice aof q.2.2.1.length cf, .slice ao q.2.2.2.length c] 63)) (by simp)) hl)
  generalize replyB q = out at HP
  clear hl hok hf hs
  go_enter Tryd.func36, Tryd.ntmps36
  go_wp2_with (go_at_call 82; refine (HP.out).mono ?_; rintro e w1 ⟨ao9, c9, rfl, hown, hb⟩)
  go_ret
  exact ⟨ao9, c9, rfl, owns_mono hown (by simp), (below_own _).trans (hb.mono (by simp))⟩

set_option maxRecDepth 100000 in
set_option maxHeartbeats 1000000 in
theorem writtenE (q : E6) (ao : Option Addr) (c : Nat) (aoi : Option Addr) (ci : Nat) (w : World) (hok : OkE q) (hs : SlV w.heap.size w ao q.2.2.2.2.1.2.2.1) (hi : SlI w.heap.size w aoi q.2.2.2.2.2) (hl : (entryB q).length ≤ 140737488355328) :
    Calls Tryd.prog 76 #[.func (.func 77) #[] #[], .agg #[.int .i64 q.1, .int .u8 q.2.1, .int .i64 q.2.2.1, .int .i64 q.2.2.2.1, .int .u8 q.2.2.2.2.1.1, .string q.2.2.2.2.1.2.1, .slice ao q.2.2.2.2.1.2.2.1.length c, .int .i64 q.2.2.2.2.1.2.2.2, .slice aoi q.2.2.2.2.2.length ci]] w (WrittenP (entryB q) w) := by
  have HP := Lib.hid (putEntry (w.heap.size + 1) (w.heap.size + 1) [] q ao c aoi ci hok ((w.alloc (.cells #[.int .i64 q.1, .int .u8 q.2.1, .int .i64 q.2.2.1, .int .i64 q.2.2.2.1, .int .u8 q.2.2.2.2.1.1, .string q.2.2.2.2.1.2.1, .slice ao q.2.2.2.2.1.2.2.1.length c, .int .i64 q.2.2.2.2.1.2.2.2, .slice aoi q.2.2.2.2.2.length ci] 68)).alloc (.cells #[.slice none 0 0, .int .i64 0, .int .i8 0] 90)) (wr0 (w.alloc (.cells #[.int .i64 q.1, .int .u8 q.2.1, .int .i64 q.2.2.1, .int .i64 q.2.2.2.1, .int .u8 q.2.2.2.2.1.1, .string q.2.2.2.2.1.2.1, .slice ao q.2.2.2.2.1.2.2.1.length c, .int .i64 q.2.2.2.2.1.2.2.2, .slice aoi q.2.2.2.2.2.length ci] 68)) (w.heap.size + 1) (by simp)) (hs.up ((below_own (w := w) (.cells #[.int .i64 q.1, .int .u8 q.2.1, .int .i64 q.2.2.1, .int .i64 q.2.2.2.1, .int .u8 q.2.2.2.2.1.1, .string q.2.2.2.2.1.2.1, .slice ao q.2.2.2.2.1.2.2.1.length c, .int .i64 q.2.2.2.2.1.2.2.2, .slice aoi q.2.2.2.2.2.length ci] 68)).trans ((Below.refl w.heap.size (w.alloc (.cells #[.int .i64 q.1, .int .u8 q.2.1, .int .i64 q.2.2.1, .int .i64 q.2.2.2.1, .int .u8 q.2.2.2.2.1.1, .string q.2.2.2.2.1.2.1, .slice ao q.2.2.2.2.1.2.2.1.length c, .int .i64 q.2.2.2.2.1.2.2.2, .slice aoi q.2.2.2.2.2.length ci] 68))).alloc (by simp) (.cells #[.slice none 0 0, .int .i64 0, .int .i8 0] 90))) (Nat.le_succ _)) (hi.up ((below_own (w := w) (.cells #[.int .i64 q.1, .int .u8 q.2.1, .int .i64 q.2.2.1, .int .i64 q.2.2.2.1, .int .u8 q.2.2.2.2.1.1, .string q.2.2.2.2.1.2.1, .slice ao q.2.2.2.2.1.2.2.1.length c, .int .i64 q.2.2.2.2.1.2.2.2, .slice aoi q.2.2.2.2.2.length ci] 68)).trans ((Below.refl w.heap.size (w.alloc (.cells #[.int .i64 q.1, .int .u8 q.2.1, .int .i64 q.2.2.1, .int .i64 q.2.2.2.1, .int .u8 q.2.2.2.2.1.1, .string q.2.2.2.2.1.2.1, .slice ao q.2.2.2.2.1.2.2.1.length c, .int .i64 q.2.2.2.2.1.2.2.2, .slice aoi q.2.2.2.2.2.length ci] 68))).alloc (by simp) (.cells #[.slice none 0 0, .int .i64 0, .int .i8 0] 90))) (Nat.le_succ _)) (by simpa using hl))
  rw [List.nil_append] at HP
  have e0 : ∀ args w, (callFunc 77 args).run Tryd.prog w = .ok (.enter 77 args) w := enters_of Tryd.func77 (by kernel_rfl) rfl
  generalize entryB q = out at HP
  clear hl hok hs hi
  go_enter Tryd.func76, Tryd.ntmps76
  go_wp2_with (go_at_call 77; refine (HP.out).mono ?_; rintro e w1 ⟨rfl, h1, h2⟩; refine Hid.out ?_)
  have H1 := Lib.hid h1
  have H2 := Lib.hid h2
  clear h1 h2 HP
  refine Lib.hid ?_
  go_wp2_with (go_at_call 44; refine (bytes_any _ _ _ _ H1.out).mono ?_; rintro e w2 ⟨ao9, c9, n9, rfl, hown, rfl⟩)
  go_ret
  exact ⟨ao9, c9, rfl, owns_mono hown (Nat.le_succ _), RowKit_drewN ((below_new (below_own _) _).trans (H2.out.bel.mono (Nat.le_succ _))) _⟩

set_option maxRecDepth 100000 in
theorem writeE (q : E6) (ao : Option Addr) (c : Nat) (aoi : Option Addr) (ci : Nat) (w : World) (hok : OkE q) (hs : SlV w.heap.size w ao q.2.2.2.2.1.2.2.1) (hi : SlI w.heap.size w aoi q.2.2.2.2.2) (hl : (entryB q).length ≤ 140737488355328) :
    Calls Tryd.prog 33 #[.agg #[.int .i64 q.1, .int .u8 q.2.1, .int .i64 q.2.2.1, .int .i64 q.2.2.2.1, .int .u8 q.2.2.2.2.1.1, .string q.2.2.2.2.1.2.1, .slice ao q.2.2.2.2.1.2.2.1.length c, .int .i64 q.2.2.2.2.1.2.2.2, .slice aoi q.2.2.2.2.2.length ci]] w (WrittenP (entryB q) w) := by
  have HP := Lib.hid (writtenE q ao c aoi ci (w.alloc (.cells #[.int .i64 q.1, .int .u8 q.2.1, .int .i64 q.2.2.1, .int .i64 q.2.2.2.1, .int .u8 q.2.2.2.2.1.1, .string q.2.2.2.2.1.2.1, .slice ao q.2.2.2.2.1.2.2.1.length c, .int .i64 q.2.2.2.2.1.2.2.2, .slice aoi q.2.2.2.2.2.length ci] 68)) hok (hs.up (below_own (w := w) (.cells #[.int .i64 q.1, .int .u8 q.2.1, .int .i64 q.2.2.1, .int .i64 q.2.2.2.1, .int .u8 q.2.2.2.2.1.1, .string q.2.2.2.2.1.2.1, .slice ao q.2.2.2.2.1.2.2.1.length c, .int .i64 q.2.2.2.2.1.2.2.2, .slice aoi q.2.2.2.2.2.length ci] 68)) (by simp)) (hi.up (below_own (w := w) (.cells #[.int .i64 q.1, .int .u8 q.2.1, .int .i64 q.2.2.1, .int .i64 q.2.2.2.1, .int .u8 q.2.2.2.2.1.1, .string q.2.2.2.2.1.2.1, .slice ao q.2.2.2.2.1.2.2.1.length c, .int .i64 q.2.2.2.2.1.2.2.2, .slice aoi q.2.2.2.2.2.length ci] 68)) (by simp)) hl)
  generalize entryB q = out at HP
  clear hl hok hs hi
  go_enter Tryd.func33, Tryd.ntmps33
  go_wp2_with (go_at_call 76; refine (HP.out).mono ?_; rintro e w1 ⟨ao9, c9, rfl, hown, hb⟩)
  go_ret
  exact ⟨ao9, c9, rfl, owns_mono hown (by simp), (below_own _).trans (hb.mono (by simp))⟩
end Go.Proofs.YtmocfielcllfmaaDoor
