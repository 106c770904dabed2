/- The document's reader: words, counts, numbers, texts, values. -/
import Derived.Test.YtmocfielcllfmaaDoorRefB
namespace Go.Proofs.YtmocfielcllfmaaDoor
open Go.RowKit

set_option maxRecDepth 100000 in
set_option maxHeartbeats 1000000 in
theorem rsaid_any (D B k : Nat) (ao : Option Addr) (l0 : List UInt8) (c : Nat) (s : St) (w : World) (hk : k ≤ 8) (h : RfS w D B ao l0 c s) :
    Calls Tryd.prog 95 #[.pointer (some ⟨D, 0, none⟩), .int .i64 k] w fun e w' => e = .returned (.int .u64 ((wordS k s).1 : Nat)) ∧ RfS w' D B ao l0 c (wordS k s).2 ∧ Fr D w w' := by
  have HT := Lib.hid (rbytes_any D B k ao l0 c s w (by omega) h)
  have hlen := takeS_len k s
  unfold wordS
  generalize takeS k s = r at HT hlen
  obtain ⟨l, s'⟩ := r
  simp only at hlen ⊢
  clear h
  go_enter Tryd.func95, Tryd.ntmps95
  go_wp2_with (go_at_call 97; refine (HT.out).mono ?_; rintro e w1 ⟨ao1, c1, rfl, hno, hsl, hrf, hfr⟩; refine Hid.out ?_)
  have HP := Lib.hid hrf
  have HF := Lib.hid hfr
  have HC := Lib.hid hsl
  clear hrf hfr hsl hno HT
  refine Lib.hid ?_
  go_wp2_with fail
  go_loopw [6, 7] (fun n i wr => ∃ j : Nat, j ≤ l.length ∧ i = .int .i64 j ∧ n = .int .u64 ((foldB 0 (l.take j) : Nat) : Int) ∧ wr = w1) (fun _ i _ => l.length - (intOf i).toNat)
  case atStart => exact ⟨0, by omega, rfl, rfl, rfl⟩
  case round =>
    obtain ⟨j, hj, rfl, rfl, rfl⟩ := hrel
    by_cases hlt : j < l.length
    · obtain ⟨sb, off, rfl, lt, hcs⟩ := HC.out.cellB (by omega)
      have hcj := hcs j hlt
      have hjn : l.take (j + 1) = l.take j ++ [l[j]] := by rw [List.take_add_one, List.getElem?_eq_getElem hlt]; rfl
      have hfold : foldB 0 (l.take (j + 1)) = foldB 0 (l.take j) * 256 + (l[j]).toNat := by rw [hjn, foldB_append]; rfl
      have hb : foldB 0 (l.take j) < 256 ^ 7 := foldB_bound _ 7 (by rw [List.length_take]; omega)
      have hc8 : (l[j]).toNat < 256 := (l[j]).toNat_lt
      generalize foldB 0 (l.take j) = a at hfold hb
      generalize (l[j]).toNat = cc at hfold hcj hc8
      have HFO := Lib.hid hfold
      have HB := Lib.hid hb
      have HC8 := Lib.hid hc8
      clear hfold hb hc8 hjn hcs
      go_wp2_with fail
      go_roundw
      case rel =>
        refine ⟨j + 1, by omega, by go_num, ?_, trivial⟩
        rw [or_word a cc HB.out HC8.out, HFO.out]
      case measure => simp [intOf]; omega
    · obtain rfl : j = l.length := by omega
      rw [List.take_length]
      go_wp2
      go_ret
      exact ⟨rfl, HP.out, HF.out⟩

theorem RfS.cells {w : World} {D B : Nat} {ao : Option Addr} {l0 : List UInt8} {c : Nat} {s : St} (h : RfS w D B ao l0 c s) : (∀ q, (w.drewN q).cell? ⟨D, 2, none⟩ = some (.bool s.2)) ∧ w.cell? ⟨D, 2, none⟩ = some (.bool s.2) ∧ w.frozen? ⟨D, 2, none⟩ = false := by
  obtain ⟨k, b, h1, h2, rfl⟩ := h.ex
  have e : (if b = true then badS else (l0.drop k, false)).2 = b := by cases b <;> rfl
  rw [e]
  exact ⟨fun _ => Lib.cell_of_heap h1 2, Lib.cell_of_heap h1 2, Lib.frozen_of_heap h1 2⟩

theorem RfS.spoil {w : World} {D B : Nat} {ao : Option Addr} {l0 : List UInt8} {c : Nat} {s : St} (h : RfS w D B ao l0 c s) : RfS (w.setCell ⟨D, 2, none⟩ (.bool true)) D B ao l0 c badS := by
  obtain ⟨k, b, h1, h2, rfl⟩ := h.ex
  exact ⟨⟨k, true, Lib.heap_setCell_same (i := 2) h1 _, h2, rfl⟩, h.row.below ((Below.refl _ _).setCell (p := ⟨D, 2, none⟩) h.ld _), h.nil, h.cap, h.big, h.capm, h.ld, by simp [World.setCell]; exact h.lb⟩

theorem word_ok {k : Nat} {s : St} (h : OkS s) : OkS (wordS k s).2 := by
  unfold wordS takeS
  obtain ⟨l, b⟩ := s
  split
  · intro hb
    have := h hb
    simp only [badS, Prod.mk.injEq] at this
    obtain ⟨rfl, rfl⟩ := this
    simp [badS]
  · intro _; rfl
theorem word_zero {k : Nat} {s : St} (h : OkS s) (hb : (wordS k s).2.2 = true) : (wordS k s).1 = 0 := by
  obtain ⟨l, b⟩ := s
  unfold wordS takeS at hb ⊢
  split
  · rename_i hle
    rw [if_pos hle] at hb
    have := h hb
    simp only [badS, Prod.mk.injEq] at this
    obtain ⟨rfl, rfl⟩ := this
    simp [foldB]
  · rfl

set_option maxRecDepth 100000 in
theorem rcount_any (D B : Nat) (ao : Option Addr) (l0 : List UInt8) (c : Nat) (s : St) (w : World) (h : RfS w D B ao l0 c s) :
    Calls Tryd.prog 96 #[.pointer (some ⟨D, 0, none⟩)] w fun e w' => e = .returned (.int .i64 ((countS s).1 : Nat)) ∧ RfS w' D B ao l0 c (countS s).2 ∧ Fr D w w' := by
  have HC := Lib.hid (rsaid_any D B 4 ao l0 c s w (by omega) h)
  have hw := wordS_lt 4 s
  have hz := fun hb => word_zero (k := 4) h.ok hb
  clear h
  unfold countS
  generalize wordS 4 s = r at HC hw hz
  obtain ⟨n, l1, b1⟩ := r
  simp only at hw hz HC ⊢
  by_cases hbig : 65536 < n
  · rw [if_pos hbig]
    have hd : decide ((65536 : Int) < (n : Int)) = true := by simp; omega
    have hdn : decide (65536 < n) = true := by simp; omega
    clear hw hz
    go_enter Tryd.func96, Tryd.ntmps96
    go_wp2_with (go_at_call 95; refine (HC.out).mono ?_; rintro e w1 ⟨rfl, hr, hf⟩; refine Hid.out ?_)
    obtain ⟨-, cq, fq⟩ := hr.cells
    have HR := Lib.hid hr.spoil
    have HF := Lib.hid (hf.set 2 (.bool true))
    clear hr hf HC
    refine Lib.hid ?_
    go_wp2
    go_ret
    exact ⟨rfl, HR.out, HF.out⟩
  · rw [if_neg hbig]
    have hd : decide ((65536 : Int) < (n : Int)) = false := by simp; omega
    have hdn : decide (65536 < n) = false := by simp; omega
    have HZ := Lib.hid hz
    have HBN := Lib.hid hbig
    clear hw hz
    go_enter Tryd.func96, Tryd.ntmps96
    go_wp2_with (go_at_call 95; refine (HC.out).mono ?_; rintro e w1 ⟨rfl, hr, hf⟩; refine Hid.out ?_)
    obtain ⟨-, cq, fq⟩ := hr.cells
    have HR := Lib.hid hr
    have HF := Lib.hid hf
    clear hr hf HC
    refine Lib.hid ?_
    cases b1 with
    | true =>
      go_wp2
      go_ret
      exact ⟨congrArg (fun m : Nat => Ending.returned (.int .i64 (m : Int))) (HZ.out trivial).symm, HR.out, HF.out⟩
    | false =>
      have hwr : IntKind.i64.wrap (n : Int) = (n : Int) := IntWalk.i64_in _ (by have := HBN.out; omega)
      go_wp2
      go_ret
      exact ⟨by first | rfl | (congr 3; unfold wrap64; have := HBN.out; omega), HR.out, HF.out⟩

theorem rnumber_any (D B : Nat) (ao : Option Addr) (l0 : List UInt8) (c : Nat) (s : St) (w : World) (h : RfS w D B ao l0 c s) :
    Calls Tryd.prog 48 #[.pointer (some ⟨D, 0, none⟩)] w fun e w' => e = .returned (.int .i64 (numS s).1) ∧ RfS w' D B ao l0 c (numS s).2 ∧ Fr D w w' := by
  have HC := Lib.hid (rsaid_any D B 8 ao l0 c s w (by omega) h)
  have hw := wordS_lt 8 s
  clear h
  unfold numS
  generalize wordS 8 s = r at HC hw
  obtain ⟨n, s'⟩ := r
  simp only at hw ⊢
  have HW := Lib.hid hw
  clear hw
  go_enter Tryd.func48, Tryd.ntmps48
  go_wp2_with (go_at_call 95; refine (HC.out).mono ?_; rintro e w1 ⟨rfl, hr, hf⟩)
  go_ret
  exact ⟨congrArg (fun v => Ending.returned (.int .i64 v)) (wrap_sg' n (by have := HW.out; omega)), hr, hf⟩

theorem conv_slG {w : World} {ao : Option Addr} {l : List UInt8} {c : Nat} (h : SlG w.heap.size w ao (bcells l)) (hn : ao = none → c = 0) :
    (convert 23 9 (.slice ao l.length c)).run Tryd.prog w = .ok (.string ⟨l.toArray⟩) w := by
  have hb := h.slB hn
  cases ao with
  | none =>
    obtain ⟨rfl, rfl⟩ := hb.nil rfl
    rw [run_convert_bytes_string w _ _ _ none _ 0 Tryd.underlying23 Tryd.underlying5 Tryd.underlying9]
    simp [Conv.bytesToString]
    rfl
  | some ad =>
    refine run_convert_bytes_back (P := Tryd.prog) w 23 9 5 ad c l Tryd.underlying23 Tryd.underlying5 Tryd.underlying9 fun j hj => ?_
    obtain ⟨sb, off, e, _, hc⟩ := hb.row (by omega)
    obtain rfl := Option.some.inj e
    rw [Addr.add_lit]
    exact hc j hj

theorem rtext_any (D B : Nat) (ao : Option Addr) (l0 : List UInt8) (c : Nat) (s : St) (w : World) (h : RfS w D B ao l0 c s) :
    Calls Tryd.prog 49 #[.pointer (some ⟨D, 0, none⟩)] w fun e w' => e = .returned (.string (textS s).1) ∧ RfS w' D B ao l0 c (textS s).2 ∧ Fr D w w' := by
  have HC := Lib.hid (rcount_any D B ao l0 c s w h)
  have hle := countS_le s
  clear h
  unfold textS
  generalize countS s = r at HC hle
  obtain ⟨n, s1⟩ := r
  simp only at HC hle ⊢
  have HT := Lib.hid (fun W h => rbytes_any D B n ao l0 c s1 W (by omega) h)
  generalize takeS n s1 = t at HT
  obtain ⟨l, s2⟩ := t
  simp only at HT ⊢
  go_enter Tryd.func49, Tryd.ntmps49
  go_wp2_with (go_at_call 96; refine (HC.out).mono ?_; rintro e w1 ⟨rfl, hr, hf⟩; refine Hid.out ?_)
  have HR := Lib.hid hr
  have HF := Lib.hid hf
  clear hr hf HC
  refine Lib.hid ?_
  go_wp2_with (go_at_call 97; refine (HT.out _ HR.out).mono ?_; rintro e w2 ⟨ao1, c1, rfl, hno, hsl, hrf, hfr⟩; refine Hid.out ?_)
  have hcv := conv_slG hsl hno
  have HR2 := Lib.hid hrf
  have HF2 := Lib.hid (HF.out.trans hfr)
  clear hno hsl hrf hfr
  refine Lib.hid ?_
  go_wp2
  go_ret
  exact ⟨rfl, HR2.out, HF2.out⟩

def valueR (s : St) : V3 × St := wholeS valueS (0, 0, ⟨#[]⟩) s

/-- A value is told. -/
def RvP (r : V3 × St) (D B : Nat) (ao : Option Addr) (l0 : List UInt8) (c : Nat) (w : World) (e : Ending) (w' : World) : Prop := e = .returned (aggV r.1) ∧ RfS w' D B ao l0 c r.2 ∧ Fr D w w'

set_option maxRecDepth 100000 in
set_option maxHeartbeats 2000000 in
theorem rvalue_any (D B : Nat) (ao : Option Addr) (l0 : List UInt8) (c : Nat) (s : St) (w : World) (h : RfS w D B ao l0 c s) :
    Calls Tryd.prog 50 #[.pointer (some ⟨D, 0, none⟩)] w (RvP (valueR s) D B ao l0 c w) := by
  have H0 := h.alloc (.cells #[.int .u8 0, .int .i64 0, .string ⟨#[]⟩] 46)
  have HC := Lib.hid (rsaid_any D B 1 ao l0 c s _ (by omega) H0)
  have hw := wordS_lt 1 s
  have hne : w.heap.size ≠ D := by have := h.lt; omega
  have hlt : D < w.heap.size := h.lt
  clear h H0
  unfold valueR wholeS valueS octS
  generalize wordS 1 s = r at HC hw
  obtain ⟨k, s1⟩ := r
  simp only at HC hw ⊢
  have hk8 : IntKind.u8.wrap (k : Int) = (k : Int) := wrap_u8 k hw
  have hk9 : (k : Int) % 256 = (k : Int) := by omega
  have HN := Lib.hid (fun W h => rnumber_any D B ao l0 c s1 W h)
  have HT := Lib.hid (fun W h => rtext_any D B ao l0 c s1 W h)
  by_cases h1 : k = 1
  · subst h1
    rw [if_pos (show ((1 : Nat) : Int) = 1 from rfl)]
    generalize numS s1 = r2 at HN
    obtain ⟨z, l2, b2⟩ := r2
    simp only at HN ⊢
    clear hk8 hk9
    go_enter Tryd.func50, Tryd.ntmps50
    go_wp2_with (go_at_call 95; refine (HC.out).mono ?_; rintro e w1 ⟨rfl, hr, hf⟩; refine Hid.out ?_)
    have HR := Lib.hid (hr.alloc (.cells #[.int .u8 1, .int .i64 0, .string ⟨#[]⟩] 46))
    have HF := Lib.hid (hf.alloc (.cells #[.int .u8 1, .int .i64 0, .string ⟨#[]⟩] 46))
    have q1 : w.heap.size < w1.heap.size := by have := hf.size; simp at this; omega
    have q2 : w.heap.size ≠ w1.heap.size := by omega
    have q3 : D ≠ w1.heap.size := by omega
    have q4 : w1.heap.size ≠ D := by omega
    have q5 : D ≠ w.heap.size := by omega
    clear hr hf HC hw
    refine Lib.hid ?_
    go_wp2_with (go_at_call 48; refine (HN.out _ HR.out).mono ?_; rintro e w2 ⟨rfl, hr, hf⟩; refine Hid.out ?_)
    obtain ⟨hc3, hz3⟩ := fret2 hf q4
    obtain ⟨hc2, hz2⟩ := fret2 (HF.out.trans hf) hne
    obtain ⟨-, cq, fq⟩ := hr.cells
    have q6 : w1.heap.size < w2.heap.size := by have := hf.size; simp at this; omega
    have HR2 := Lib.hid hr
    have HF2 := Lib.hid (HF.out.trans hf)
    clear hr hf HR HF HN HT
    refine Lib.hid ?_
    cases b2 with
    | true =>
      go_wp2_with fail
      refine bodyPost_ret (R := RvP _ D B ao l0 c w) (v := .agg #[.int .u8 0, .int .i64 0, .string ⟨#[]⟩]) (by simp [results, Tryd.results50, go_sem, hc2]) rfl ?_
      exact ⟨rfl, (((HR2.out.setNew (show D < w1.heap.size by omega) 1 _).setNew hlt 0 _).setNew hlt 1 _).setNew hlt 2 _, ((((((Fr.refl D w).alloc _).trans HF2.out).setNew (Nat.le_of_lt q1) 1 _).setNew (Nat.le_refl _) 0 _).setNew (Nat.le_refl _) 1 _).setNew (Nat.le_refl _) 2 _⟩
    | false =>
      go_wp2_with fail
      refine bodyPost_ret (R := RvP _ D B ao l0 c w) (v := .agg #[.int .u8 1, .int .i64 z, .string ⟨#[]⟩]) (by simp [results, Tryd.results50, go_sem, hc2]) rfl ?_
      exact ⟨rfl, (((HR2.out.setNew (show D < w1.heap.size by omega) 1 _).setNew hlt 0 _).setNew hlt 1 _).setNew hlt 2 _, ((((((Fr.refl D w).alloc _).trans HF2.out).setNew (Nat.le_of_lt q1) 1 _).setNew (Nat.le_refl _) 0 _).setNew (Nat.le_refl _) 1 _).setNew (Nat.le_refl _) 2 _⟩
  · have hk1 : ¬ ((k : Int) = 1) := by omega
    rw [if_neg hk1]
    have hd1 : ((k : Int) == 1) = false := by simp; omega
    by_cases h2 : k = 2
    · subst h2
      rw [if_pos (show ((2 : Nat) : Int) = 2 from rfl)]
      generalize textS s1 = r2 at HT
      obtain ⟨z, l2, b2⟩ := r2
      simp only at HT ⊢
      clear hk8 hk9 hd1
      go_enter Tryd.func50, Tryd.ntmps50
      go_wp2_with (go_at_call 95; refine (HC.out).mono ?_; rintro e w1 ⟨rfl, hr, hf⟩; refine Hid.out ?_)
      have HR := Lib.hid (hr.alloc (.cells #[.int .u8 2, .int .i64 0, .string ⟨#[]⟩] 46))
      have HF := Lib.hid (hf.alloc (.cells #[.int .u8 2, .int .i64 0, .string ⟨#[]⟩] 46))
      have q1 : w.heap.size < w1.heap.size := by have := hf.size; simp at this; omega
      have q2 : w.heap.size ≠ w1.heap.size := by omega
      have q3 : D ≠ w1.heap.size := by omega
      have q4 : w1.heap.size ≠ D := by omega
      have q5 : D ≠ w.heap.size := by omega
      clear hr hf HC hw
      refine Lib.hid ?_
      go_wp2_with (go_at_call 49; refine (HT.out _ HR.out).mono ?_; rintro e w2 ⟨rfl, hr, hf⟩; refine Hid.out ?_)
      obtain ⟨hc3, hz3⟩ := fret2 hf q4
      obtain ⟨hc2, hz2⟩ := fret2 (HF.out.trans hf) hne
      obtain ⟨-, cq, fq⟩ := hr.cells
      have q6 : w1.heap.size < w2.heap.size := by have := hf.size; simp at this; omega
      have HR2 := Lib.hid hr
      have HF2 := Lib.hid (HF.out.trans hf)
      clear hr hf HR HF HN HT
      refine Lib.hid ?_
      cases b2 with
      | true =>
        go_wp2_with fail
        refine bodyPost_ret (R := RvP _ D B ao l0 c w) (v := .agg #[.int .u8 0, .int .i64 0, .string ⟨#[]⟩]) (by simp [results, Tryd.results50, go_sem, hc2]) rfl ?_
        exact ⟨rfl, (((HR2.out.setNew (show D < w1.heap.size by omega) 2 _).setNew hlt 0 _).setNew hlt 1 _).setNew hlt 2 _, ((((((Fr.refl D w).alloc _).trans HF2.out).setNew (Nat.le_of_lt q1) 2 _).setNew (Nat.le_refl _) 0 _).setNew (Nat.le_refl _) 1 _).setNew (Nat.le_refl _) 2 _⟩
      | false =>
        go_wp2_with fail
        refine bodyPost_ret (R := RvP _ D B ao l0 c w) (v := .agg #[.int .u8 2, .int .i64 0, .string z]) (by simp [results, Tryd.results50, go_sem, hc2]) rfl ?_
        exact ⟨rfl, (((HR2.out.setNew (show D < w1.heap.size by omega) 2 _).setNew hlt 0 _).setNew hlt 1 _).setNew hlt 2 _, ((((((Fr.refl D w).alloc _).trans HF2.out).setNew (Nat.le_of_lt q1) 2 _).setNew (Nat.le_refl _) 0 _).setNew (Nat.le_refl _) 1 _).setNew (Nat.le_refl _) 2 _⟩
    · have hk2 : ¬ ((k : Int) = 2) := by omega
      rw [if_neg hk2]
      have hd2 : ((k : Int) == 2) = false := by simp; omega
      go_enter Tryd.func50, Tryd.ntmps50
      go_wp2_with (go_at_call 95; refine (HC.out).mono ?_; rintro e w1 ⟨rfl, hr, hf⟩; refine Hid.out ?_)
      have HR := Lib.hid (hr.alloc (.cells #[.int .u8 (k : Int), .int .i64 0, .string ⟨#[]⟩] 46))
      have HF := Lib.hid (hf.alloc (.cells #[.int .u8 (k : Int), .int .i64 0, .string ⟨#[]⟩] 46))
      have q1 : w.heap.size < w1.heap.size := by have := hf.size; simp at this; omega
      have q2 : w.heap.size ≠ w1.heap.size := by omega
      have q3 : D ≠ w1.heap.size := by omega
      have q4 : w1.heap.size ≠ D := by omega
      have q5 : D ≠ w.heap.size := by omega
      clear hr hf HC hw
      refine Lib.hid ?_
      obtain ⟨-, cq, fq⟩ := HR.out.cells
      have hcD : ∀ j, (w1.alloc (.cells #[.int .u8 (k : Int), .int .i64 0, .string ⟨#[]⟩] 46)).cell? ⟨w1.heap.size, j, none⟩ = (#[.int .u8 (k : Int), .int .i64 0, .string ⟨#[]⟩] : Array Value)[j]? := fun j => Lib.cell_of_heap (heap_alloc_new w1 _) j
      obtain ⟨hc2, hz2⟩ := fret2 HF.out hne
      clear HN HT
      refine Lib.hid ?_
      go_wp2_with fail
      refine bodyPost_ret (R := RvP _ D B ao l0 c w) (v := .agg #[.int .u8 0, .int .i64 0, .string ⟨#[]⟩]) (by simp [results, Tryd.results50, go_sem, hc2]) rfl ?_
      first
        | exact ⟨rfl, ((HR.out.spoil.setNew hlt 0 _).setNew hlt 1 _).setNew hlt 2 _, (((((Fr.refl D w).alloc _).trans HF.out).set 2 _).setNew (Nat.le_refl _) 0 _ |>.setNew (Nat.le_refl _) 1 _).setNew (Nat.le_refl _) 2 _⟩
end Go.Proofs.YtmocfielcllfmaaDoor
