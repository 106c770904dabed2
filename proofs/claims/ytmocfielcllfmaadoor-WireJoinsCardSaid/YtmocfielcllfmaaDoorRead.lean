/- What a reader reads within a form: octets, counts, numbers, texts. -/
import Derived.Test.YtmocfielcllfmaaDoorWord
import Derived.Laws.IdiomStrings
namespace Go.Proofs.YtmocfielcllfmaaDoor
open Go.RowKit

/-- A reader at R, its place at pb, its bytes: all below B. -/
structure RdS (w : World) (R pb B : Nat) (s : St) : Prop where
  rd : w.heap[R]? = some (.cells #[.pointer (some ⟨pb, 0, none⟩)] 40 (0, 0))
  ne : R ≠ pb
  pl : PlS w pb B s
  lr : R < B
  lp : pb < B
  lb : B ≤ w.heap.size

/-- Behind a step of the place. -/
theorem RdS.step {w w' : World} {R pb B : Nat} {s s' : St} (h : RdS w R pb B s) (f : Fr pb w w') (p : PlS w' pb B s') : RdS w' R pb B s' := ⟨f.keep h.rd h.ne, h.ne, p, h.lr, h.lp, Nat.le_trans h.lb f.size⟩

theorem PlS.keep {w w' : World} {pb B : Nat} {s : St} (h : PlS w pb B s) (lp : pb < B) (hk : ∀ k, k < B → w'.heap[k]? = w.heap[k]?) : PlS w' pb B s := by
  obtain ⟨ao, c, h1, h2, h3, h4, h5⟩ := h
  refine ⟨ao, c, (hk pb lp).trans h1, h2, h3, h4, fun hl => ?_⟩
  obtain ⟨sb, off, e, ne, lb, hc⟩ := h5 hl
  refine ⟨sb, off, e, ne, lb, fun j hj => ?_⟩
  exact (World.cell?_of_block (a := ⟨sb, off + j, none⟩) (hk sb lb)).trans (hc j hj)

theorem RdS.keep {w w' : World} {R pb B : Nat} {s : St} (h : RdS w R pb B s) (hs : w.heap.size ≤ w'.heap.size) (hk : ∀ k, k < B → w'.heap[k]? = w.heap[k]?) : RdS w' R pb B s :=
  ⟨(hk R h.lr).trans h.rd, h.ne, h.pl.keep h.lp hk, h.lr, h.lp, Nat.le_trans h.lb hs⟩

theorem RdS.below {w w' : World} {R pb B : Nat} {s : St} (h : RdS w R pb B s) (b : Below w.heap.size w w') : RdS w' R pb B s :=
  h.keep b.size (fun k hk => b.block k (Nat.lt_of_lt_of_le hk h.lb))
theorem RdS.below' {w w' : World} {R pb B : Nat} {s : St} (h : RdS w R pb B s) (b : Below B w w') : RdS w' R pb B s := h.keep b.size b.block
theorem RdS.alloc {w : World} {R pb B : Nat} {s : St} (h : RdS w R pb B s) (o : Obj) : RdS (w.alloc o) R pb B s := h.below (below_own o)
theorem RdS.set {w : World} {R pb B : Nat} {s : St} (h : RdS w R pb B s) {b : Nat} (hb : B ≤ b) (i : Nat) (v : Value) : RdS (w.setCell ⟨b, i, none⟩ v) R pb B s :=
  h.below' ((Below.refl B w).setCell (p := ⟨b, i, none⟩) hb v)
theorem RdS.drew {w : World} {R pb B : Nat} {s : St} (h : RdS w R pb B s) : RdS w.drew R pb B s := h.keep (Nat.le_refl _) (fun _ _ => rfl)
theorem RdS.drewN {w : World} {R pb B : Nat} {s : St} (h : RdS w R pb B s) (n : Nat) : RdS (w.drewN n) R pb B s := h.keep (Nat.le_refl _) (fun _ _ => rfl)

theorem RdS.ptr {w : World} {R pb B : Nat} {s : St} (h : RdS w R pb B s) : w.cell? ⟨R, 0, none⟩ = some (.pointer (some ⟨pb, 0, none⟩)) := Lib.cell_of_heap h.rd 0
theorem RdS.flag {w : World} {R pb B : Nat} {s : St} (h : RdS w R pb B s) : w.cell? ⟨pb, 1, none⟩ = some (.bool s.2) := by
  obtain ⟨ao, c, h1, _⟩ := h.pl
  exact Lib.cell_of_heap h1 1

theorem wordS_lt (k : Nat) (s : St) : (wordS k s).1 < 256 ^ k := foldB_bound _ _ (takeS_len k s)

def octS (s : St) : Int × St := (((wordS 1 s).1 : Nat), (wordS 1 s).2)
def numS (s : St) : Int × St := (sg (wordS 8 s).1, (wordS 8 s).2)
def countS (s : St) : Nat × St := if 65536 < (wordS 4 s).1 then (0, badS) else wordS 4 s
def textS (s : St) : ByteArray × St := (⟨(takeS (countS s).1 (countS s).2).1.toArray⟩, (takeS (countS s).1 (countS s).2).2)

theorem wrap_sg (n : Nat) (h : n < 18446744073709551616) : IntKind.i64.wrap (n : Int) = sg n := by
  rw [IntKind.wrap_i64]
  unfold sg
  split <;> omega
theorem wrap_sg' (n : Nat) (h : n < 18446744073709551616) : wrap64 (n : Int) = sg n := by
  unfold sg wrap64
  split <;> omega
theorem wrap_u8 (n : Nat) (h : n < 256) : IntKind.u8.wrap (n : Int) = (n : Int) := by
  rw [IntKind.wrap_u8]
  omega

theorem octet_any (R pb B : Nat) (s : St) (w : World) (h : RdS w R pb B s) :
    Calls Tryd.prog 101 #[.pointer (some ⟨R, 0, none⟩)] w fun e w' => e = .returned (.int .u8 (octS s).1) ∧ RdS w' R pb B (octS s).2 ∧ Fr pb w w' := by
  have c0 := h.ptr
  have hw := wordS_lt 1 s
  have HC := Lib.hid (word_any pb B 1 s w (by omega) h.pl)
  have HR := Lib.hid h
  clear h
  unfold octS
  generalize wordS 1 s = r at HC hw
  obtain ⟨n, s'⟩ := r
  simp only at hw ⊢
  have HW := Lib.hid hw
  clear hw
  go_enter Tryd.func101, Tryd.ntmps101
  go_wp2_with (go_at_call 98; refine (HC.out).mono ?_; rintro e w1 ⟨rfl, hp, hf⟩)
  go_ret
  exact ⟨congrArg (fun v => Ending.returned (.int .u8 v)) (show (n : Int) % 256 = (n : Int) by have := HW.out; omega), HR.out.step hf hp, hf⟩

theorem number_any (R pb B : Nat) (s : St) (w : World) (h : RdS w R pb B s) :
    Calls Tryd.prog 57 #[.pointer (some ⟨R, 0, none⟩)] w fun e w' => e = .returned (.int .i64 (numS s).1) ∧ RdS w' R pb B (numS s).2 ∧ Fr pb w w' := by
  have c0 := h.ptr
  have hw := wordS_lt 8 s
  have HC := Lib.hid (word_any pb B 8 s w (by omega) h.pl)
  have HR := Lib.hid h
  clear h
  unfold numS
  generalize wordS 8 s = r at HC hw
  obtain ⟨n, s'⟩ := r
  simp only at hw ⊢
  have HW := Lib.hid hw
  clear hw
  go_enter Tryd.func57, Tryd.ntmps57
  go_wp2_with (go_at_call 98; refine (HC.out).mono ?_; rintro e w1 ⟨rfl, hp, hf⟩)
  go_ret
  exact ⟨congrArg (fun v => Ending.returned (.int .i64 v)) (wrap_sg' n (by have := HW.out; omega)), HR.out.step hf hp, hf⟩

theorem integer_any (R pb B : Nat) (s : St) (w : World) (h : RdS w R pb B s) :
    Calls Tryd.prog 104 #[.pointer (some ⟨R, 0, none⟩)] w fun e w' => e = .returned (.int .i64 (numS s).1) ∧ RdS w' R pb B (numS s).2 ∧ Fr pb w w' := by
  have HC := Lib.hid (number_any R pb B s w h)
  clear h
  generalize numS s = r at HC
  obtain ⟨n, s'⟩ := r
  go_enter Tryd.func104, Tryd.ntmps104
  go_wp2_with (go_at_call 57; refine (HC.out).mono ?_; rintro e w1 ⟨rfl, hp, hf⟩)
  go_ret
  exact ⟨rfl, hp, hf⟩

theorem count_any (R pb B : Nat) (s : St) (w : World) (h : RdS w R pb B s) :
    Calls Tryd.prog 100 #[.pointer (some ⟨R, 0, none⟩)] w fun e w' => e = .returned (.int .i64 ((countS s).1 : Nat)) ∧ RdS w' R pb B (countS s).2 ∧ Fr pb w w' := by
  have c0 := h.ptr
  have hw := wordS_lt 4 s
  have HC := Lib.hid (word_any pb B 4 s w (by omega) h.pl)
  have HR := Lib.hid h
  clear h
  unfold countS
  generalize wordS 4 s = r at HC hw
  obtain ⟨n, s'⟩ := r
  simp only at hw ⊢
  by_cases hbig : 65536 < n
  · rw [if_pos hbig]
    have hd : decide ((65536 : Int) < (n : Int)) = true := by simp; omega
    have hdn : decide (65536 < n) = true := by simp; omega
    go_enter Tryd.func100, Tryd.ntmps100
    go_wp2_with (go_at_call 98; refine (HC.out).mono ?_; rintro e w1 ⟨rfl, hp, hf⟩; refine Hid.out ?_)
    have HR1 := Lib.hid (HR.out.step hf hp)
    have HF := Lib.hid hf
    have HP := Lib.hid hp
    have c1 := HR1.out.ptr
    clear hp hf c0 HR HC
    refine Lib.hid ?_
    go_wp2_with (go_at_call 102; refine (spoil_any pb B s' w1 HP.out).mono ?_; rintro e w2 ⟨rfl, hp, hf⟩)
    go_ret
    exact ⟨rfl, HR1.out.step hf hp, HF.out.trans hf⟩
  · rw [if_neg hbig]
    have hd : decide ((65536 : Int) < (n : Int)) = false := by simp; omega
    have hdn : decide (65536 < n) = false := by simp; omega
    go_enter Tryd.func100, Tryd.ntmps100
    go_wp2_with (go_at_call 98; refine (HC.out).mono ?_; rintro e w1 ⟨rfl, hp, hf⟩)
    go_ret
    exact ⟨by first | rfl | (congr 3; rw [IntKind.wrap_i64]; omega), HR.out.step hf hp, hf⟩

theorem conv_cut {w : World} {pb B : Nat} {ao : Option Addr} {l : List UInt8} {c : Nat} (h : Cut w pb B ao l c) :
    (convert 23 9 (.slice ao l.length c)).run Tryd.prog w = .ok (.string ⟨l.toArray⟩) w := by
  obtain ⟨h1, h2, h3, h4⟩ := h
  cases ao with
  | none =>
    obtain rfl := h3 rfl
    have hl : l = [] := List.eq_nil_of_length_eq_zero (by omega)
    subst hl
    rw [run_convert_bytes_string w _ _ _ none _ 0 Tryd.underlying23 Tryd.underlying5 Tryd.underlying9]
    simp [Conv.bytesToString]
    rfl
  | some ad =>
    refine run_convert_bytes_back (P := Tryd.prog) w 23 9 5 ad c l Tryd.underlying23 Tryd.underlying5 Tryd.underlying9 fun j hj => ?_
    obtain ⟨sb, off, e, _, _, hc⟩ := h4 (by omega)
    obtain rfl := Option.some.inj e
    rw [Addr.add_lit]
    exact hc j hj

theorem countS_le (s : St) : (countS s).1 ≤ 65536 := by
  unfold countS
  split
  · simp
  · omega

set_option maxRecDepth 100000 in
set_option maxHeartbeats 1000000 in
theorem text_any (R pb B : Nat) (s : St) (w : World) (h : RdS w R pb B s) :
    Calls Tryd.prog 59 #[.pointer (some ⟨R, 0, none⟩)] w fun e w' => e = .returned (.string (textS s).1) ∧ RdS w' R pb B (textS s).2 ∧ Fr pb w w' := by
  have HC := Lib.hid (fun w' (h : RdS w' R pb B s) => count_any R pb B s w' h)
  have hle := countS_le s
  have c0 := h.ptr
  have HR := Lib.hid h
  clear h
  unfold textS
  generalize countS s = r at HC hle
  obtain ⟨n, s'⟩ := r
  simp only at hle ⊢
  have HT := Lib.hid (fun w1 h => take_any pb B n s' w1 (by omega) h)
  generalize takeS n s' = t at HT
  obtain ⟨l, s''⟩ := t
  simp only at HT ⊢
  go_enter Tryd.func59, Tryd.ntmps59
  go_wp2_with fail
  go_region_with (first
    | (go_at_call 100; refine (HC.out _ ?_).mono ?_; (first | exact HR.out | exact HR.out.drew); rintro e w1 ⟨rfl, hr1, hf1⟩; have c1 := hr1.ptr; have HR1 := Lib.hid hr1; have HF1 := Lib.hid hf1; clear hr1 hf1)
    | (go_at_call 99; refine (HT.out _ ?_).mono ?_; exact HR1.out.pl; rintro e w2 ⟨ao, c, rfl, hcut, hp2, hf2⟩; have HP2 := Lib.hid hp2; have HF2 := Lib.hid hf2; have hcv := conv_cut hcut; clear hp2 hf2 hcut))
  all_goals (go_wp2; go_ret; exact ⟨rfl, HR1.out.step HF2.out HP2.out, ((Fr.refl pb w).drew.trans HF1.out).trans HF2.out⟩)
end Go.Proofs.YtmocfielcllfmaaDoor
