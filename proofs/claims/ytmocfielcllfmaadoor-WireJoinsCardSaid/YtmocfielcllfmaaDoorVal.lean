/- The next value of a reader. -/
import Derived.Test.YtmocfielcllfmaaDoorRead
namespace Go.Proofs.YtmocfielcllfmaaDoor
open Go.RowKit

theorem Fr.setNew {pb : Nat} {a w : World} (h : Fr pb a w) {b : Nat} (hb : a.heap.size ≤ b) (i : Nat) (v : Value) : Fr pb a (w.setCell ⟨b, i, none⟩ v) :=
  ⟨h.os, h.tape, h.output, by simpa [World.setCell] using h.size, fun k hk hn => (Below.heap_setCell _ _ _ _ (by simp; omega)).trans (h.block k hk hn)⟩

/-- A block that was new ahead of a step. -/
theorem fret {pb : Nat} {w w1 : World} {o : Obj} (f : Fr pb (w.alloc o) w1) (ne : w.heap.size ≠ pb) : (∀ j, w1.cell? ⟨w.heap.size, j, none⟩ = (w.alloc o).cell? ⟨w.heap.size, j, none⟩) ∧ (∀ j, w1.frozen? ⟨w.heap.size, j, none⟩ = (w.alloc o).frozen? ⟨w.heap.size, j, none⟩) := by
  have hb := f.block w.heap.size (by simp) (fun e => ne (Option.some.inj e))
  exact ⟨fun j => World.cell?_of_block (a := ⟨w.heap.size, j, none⟩) hb, fun j => World.frozen?_of_block (a := ⟨w.heap.size, j, none⟩) hb⟩

def valueS (s : St) : V3 × St :=
  if (octS s).1 = 1 then ((1, (numS (octS s).2).1, ⟨#[]⟩), (numS (octS s).2).2)
  else if (octS s).1 = 2 then ((2, 0, (textS (octS s).2).1), (textS (octS s).2).2)
  else ((0, 0, ⟨#[]⟩), badS)

def aggV (x : V3) : Value := .agg #[.int .u8 x.1, .int .i64 x.2.1, .string x.2.2]

set_option maxRecDepth 100000 in
set_option maxHeartbeats 1000000 in
theorem value_any (R pb B : Nat) (s : St) (w : World) (h : RdS w R pb B s) :
    Calls Tryd.prog 61 #[.pointer (some ⟨R, 0, none⟩)] w fun e w' => e = .returned (aggV (valueS s).1) ∧ RdS w' R pb B (valueS s).2 ∧ Fr pb w w' := by
  have HO := Lib.hid (octet_any R pb B s _ (h.alloc (.cells #[.int .u8 0, .int .i64 0, .string ⟨#[]⟩] 46)))
  have hne : w.heap.size ≠ pb := by have := h.lp; have := h.lb; omega
  have hB := h.lb
  clear h
  unfold valueS
  generalize octS s = r at HO
  obtain ⟨k, s1⟩ := r
  simp only at HO ⊢
  have HN := Lib.hid (fun W h => number_any R pb B s1 W h)
  have HT := Lib.hid (fun W h => text_any R pb B s1 W h)
  by_cases h1 : k = 1
  · subst h1
    rw [if_pos rfl]
    generalize numS s1 = r at HN
    obtain ⟨z, s2⟩ := r
    clear HT
    go_enter Tryd.func61, Tryd.ntmps61
    go_wp2_with (go_at_call 101; refine (HO.out).mono ?_; rintro e w1 ⟨rfl, hr, hf⟩; refine Hid.out ?_)
    have HR := Lib.hid hr
    have HF := Lib.hid hf
    clear hr hf HO
    refine Lib.hid ?_
    go_wp2_with (go_at_call 57; refine (HN.out _ HR.out).mono ?_; rintro e w2 ⟨rfl, hr, hf⟩; refine Hid.out ?_)
    obtain ⟨hc, hz⟩ := fret (HF.out.trans hf) hne
    have HR2 := Lib.hid hr
    have HF2 := Lib.hid (HF.out.trans hf)
    clear hr hf HN HR HF
    refine Lib.hid ?_
    go_wp2_with fail
    exact bodyPost_ret (v := .agg #[.int .u8 1, .int .i64 z, .string ⟨#[]⟩]) (by simp [results, Tryd.results61, go_sem, hc]) rfl ⟨rfl, ((HR2.out.set hB 0 _).set hB 1 _).set hB 2 _, ((((Fr.refl pb w).alloc _).trans HF2.out).setNew (Nat.le_refl _) 0 _ |>.setNew (Nat.le_refl _) 1 _).setNew (Nat.le_refl _) 2 _⟩
  · rw [if_neg h1]
    have hd1 : ((k : Int) == 1) = false := by simp [h1]
    by_cases h2 : k = 2
    · subst h2
      rw [if_pos rfl]
      generalize textS s1 = r at HT
      obtain ⟨z, s2⟩ := r
      clear HN
      go_enter Tryd.func61, Tryd.ntmps61
      go_wp2_with (go_at_call 101; refine (HO.out).mono ?_; rintro e w1 ⟨rfl, hr, hf⟩; refine Hid.out ?_)
      have HR := Lib.hid hr
      have HF := Lib.hid hf
      clear hr hf HO
      refine Lib.hid ?_
      go_wp2_with (go_at_call 59; refine (HT.out _ HR.out).mono ?_; rintro e w2 ⟨rfl, hr, hf⟩; refine Hid.out ?_)
      obtain ⟨hc, hz⟩ := fret (HF.out.trans hf) hne
      have HR2 := Lib.hid hr
      have HF2 := Lib.hid (HF.out.trans hf)
      clear hr hf HT HR HF
      refine Lib.hid ?_
      go_wp2_with fail
      exact bodyPost_ret (v := .agg #[.int .u8 2, .int .i64 0, .string z]) (by simp [results, Tryd.results61, go_sem, hc]) rfl ⟨rfl, ((HR2.out.set hB 0 _).set hB 1 _).set hB 2 _, ((((Fr.refl pb w).alloc _).trans HF2.out).setNew (Nat.le_refl _) 0 _ |>.setNew (Nat.le_refl _) 1 _).setNew (Nat.le_refl _) 2 _⟩
    · rw [if_neg h2]
      have hd2 : ((k : Int) == 2) = false := by simp [h2]
      clear HN HT
      go_enter Tryd.func61, Tryd.ntmps61
      go_wp2_with (go_at_call 101; refine (HO.out).mono ?_; rintro e w1 ⟨rfl, hr, hf⟩; refine Hid.out ?_)
      have HR := Lib.hid hr
      have HF := Lib.hid hf
      have c1 := hr.ptr
      clear hr hf HO
      refine Lib.hid ?_
      go_wp2_with (go_at_call 102; refine (spoil_any pb B s1 w1 HR.out.pl).mono ?_; rintro e w2 ⟨rfl, hp, hf⟩; refine Hid.out ?_)
      obtain ⟨hc, hz⟩ := fret (HF.out.trans hf) hne
      have HR2 := Lib.hid (HR.out.step hf hp)
      have HF2 := Lib.hid (HF.out.trans hf)
      clear hf hp HR HF c1
      refine Lib.hid ?_
      go_wp2_with fail
      exact bodyPost_ret (v := .agg #[.int .u8 0, .int .i64 0, .string ⟨#[]⟩]) (by simp [results, Tryd.results61, go_sem, hc]) rfl ⟨rfl, ((HR2.out.set hB 0 _).set hB 1 _).set hB 2 _, ((((Fr.refl pb w).alloc _).trans HF2.out).setNew (Nat.le_refl _) 0 _ |>.setNew (Nat.le_refl _) 1 _).setNew (Nat.le_refl _) 2 _⟩
end Go.Proofs.YtmocfielcllfmaaDoor
