/- A fact lent, a fact looked at again. -/
import Derived.Test.YtnnhgbncghpecaaGreatLentW10
namespace Go.Proofs.YtnnhgbncghpecaaGreat
open Go.RowKit

/-- A fact whose row of values was lent: its block, twelve marks behind it. -/
structure LentF (base : Nat) (w : World) (f : F10) (v : Value) : Prop where
  ex : ∃ g, v = .slice (some ⟨g, 0, none⟩) f.args.length (f.args.length + 12) ∧ base ≤ g ∧ g < w.heap.size ∧ RowAt w g 0 (f.args ++ marksV 12)
theorem LentF.old {base : Nat} {w w' : World} {f : F10} {v : Value} (h : LentF base w f v) (b : Below w.heap.size w w') : LentF base w' f v := by
  obtain ⟨g, h1, h2, h3, h4⟩ := h.ex
  exact ⟨g, h1, h2, Nat.lt_of_lt_of_le h3 b.size, h4.later b h3⟩
theorem LentF.mono {base base' : Nat} {w : World} {f : F10} {v : Value} (h : LentF base w f v) (hb : base' ≤ base) : LentF base' w f v := by
  obtain ⟨g, h1, h2, h3, h4⟩ := h.ex
  exact ⟨g, h1, Nat.le_trans hb h2, h3, h4⟩
theorem LentF.apart {base g : Nat} {w w' : World} {f : F10} {v : Value} (h : LentF base w f v) (b : w.grownBy w' (some g)) (hlt : g < base) : LentF base w' f v := by
  obtain ⟨q, h1, h2, h3, h4⟩ := h.ex
  refine ⟨q, h1, h2, Nat.lt_of_lt_of_le h3 b.size, fun j hj => ?_⟩
  obtain ⟨k, n, s⟩ := h4 j hj
  have hne : some q ≠ some g := fun e => by have := Option.some.inj e; omega
  exact ⟨World.grownBy.cell b k hne, World.grownBy.cell b n hne, World.grownBy.cell b s hne⟩
theorem LentF.sl {base : Nat} {w : World} {f : F10} {v : Value} (h : LentF base w f v) (hs : f.args.length ≤ 1000) : ∃ g, v = .slice (some ⟨g, 0, none⟩) f.args.length (f.args.length + 12) ∧ Sl10 w.heap.size w f.args.length (some ⟨g, 0, none⟩) (f.args.length + 12) (cellsV f.args) := by
  obtain ⟨g, h1, h2, h3, h4⟩ := h.ex
  refine ⟨g, h1, ⟨fun _ => ⟨g, 0, rfl, h3, fun j u hu => ?_⟩, (fun e => by cases e), by omega, by unfold maxLen; omega⟩⟩
  have := h4.cells _ j u (by rw [cellsV_append, List.getElem?_append_left (List.getElem?_eq_some_iff.1 hu).1]; exact hu)
  exact this
theorem Sl10.rowAt {w : World} {n c : Nat} {ao : Option Addr} {l : List V3} (h : Sl10 w.heap.size w n ao c (cellsV l)) (hn : l.length = n) : (ao = none → n = 0 ∧ c = 0) ∧ (0 < n → ∀ ad, ao = some ad → ∃ b off, ad = ⟨b, off, none⟩ ∧ b < w.heap.size ∧ RowAt w b off l) := by
  refine ⟨h.nil, fun hp ad e => ?_⟩
  obtain ⟨b, off, e', lt, hc⟩ := h.row (fun h0 => by have := cellsV_length l; rw [h0] at this; simp at this; omega)
  rw [e] at e'
  obtain rfl := Option.some.inj e'
  refine ⟨b, off, rfl, lt, RowAt.ofCells l fun j hj => ?_⟩
  cases hu : (cellsV l)[j]? with
  | none => have := List.getElem?_eq_none_iff.1 hu; rw [cellsV_length] at this; omega
  | some u => exact hc j u hu
def markF (i : Nat) : F10 := ⟨8000024 + (i : Int), 0, []⟩
set_option maxRecDepth 100000 in
set_option maxHeartbeats 4000000 in
theorem markFact_any (i : Nat) (w : World) (hi : i ≤ 1000) : Calls Tryz.prog 53 #[.int .i64 1, .int .i64 i] w fun e w' => e = .returned (.agg #[.int .i64 (8000024 + (i : Int)), .int .i64 0, .slice none 0 0]) ∧ Gr w w' := by
  have HM := Lib.hid (fun W => markV_any i W hi)
  go_enter Tryz.func53, Tryz.ntmps53
  go_wp2_with (go_at_call 41; refine (HM.out _).mono ?_; rintro e w' ⟨rfl, rfl⟩)
  exact bodyPost_ret (v := .agg #[.int .i64 (8000024 + (i : Int)), .int .i64 0, .slice none 0 0]) (by simp [results, Tryz.results53, go_sem]) rfl ⟨rfl, (Gr.refl w).alloc _⟩
set_option maxRecDepth 100000 in
set_option maxHeartbeats 4000000 in
theorem sameFact_yes (f : F10) (a1 : Option Addr) (c1 : Nat) (a2 : Option Addr) (c2 : Nat) (w : World) (h1 : Sl10 w.heap.size w f.args.length a1 c1 (cellsV f.args)) (h2 : Sl10 w.heap.size w f.args.length a2 c2 (cellsV f.args)) :
    Calls Tryz.prog 33 #[aggF f a1 c1, aggF f a2 c2] w fun e w' => e = .returned (.bool true) ∧ Gr w w' := by
  have HS := Lib.hid (fun W (hW : Gr w W) => sameV_yes f.args a1 c1 a2 c2 W (h1.up hW.below hW.below.size) (h2.up hW.below hW.below.size))
  have HB : Hid (∀ o1 o2, Gr w ((w.alloc o1).alloc o2)) := fun o1 o2 => ((Gr.refl w).alloc o1).alloc o2
  obtain ⟨fi, ft, fl⟩ := f
  unfold aggF
  simp only at HS ⊢
  clear h1 h2
  generalize fl.length = n at *
  have mixed : Tryz.prog.follows .mixedOrders = true := by kernel_rfl
  go_enter Tryz.func33, Tryz.ntmps33
  go_wp2_with (go_at_call 29; go_must (refine (HS.out _ (HB.out _ _)).mono ?_; rintro e w1 ⟨rfl, hg⟩; have HG := Lib.hid ((HB.out _ _).trans hg); clear hg))
  go_ret
  exact ⟨rfl, HG.out⟩
set_option maxRecDepth 100000 in
set_option maxHeartbeats 4000000 in
theorem keptFact_yes (f : F10) (base : Nat) (v1 : Value) (a2 : Option Addr) (c2 : Nat) (w : World) (hs : f.args.length ≤ 60) (h1 : LentF base w f v1) (h2 : Sl10 w.heap.size w f.args.length a2 c2 (cellsV f.args)) :
    Calls Tryz.prog 14 #[.agg #[.int .i64 f.id, .int .i64 f.type, v1], aggF f a2 c2] w fun e w' => e = .returned (.bool true) ∧ Gr w w' := by
  have HK := Lib.hid (fun W (hW : Gr w W) => by
    obtain ⟨g, e1, h3, h4, h5⟩ := (h1.old hW.below).ex
    have h2' := (h2.up hW.below hW.below.size)
    exact (⟨g, e1, keptW_any a2 g f.args.length c2 f.args W rfl hs h4 (h2'.rowAt rfl).1 (h2'.rowAt rfl).2 h5⟩ : ∃ g, v1 = .slice (some ⟨g, 0, none⟩) f.args.length (f.args.length + 12) ∧ Calls Tryz.prog 15 #[.slice (some ⟨g, 0, none⟩) f.args.length (f.args.length + 12), .slice a2 f.args.length c2] W fun e w' => e = .returned (.bool true) ∧ Gr W w'))
  have HSF := Lib.hid (fun W (hW : Gr w W) => by
    obtain ⟨g, e1, h3⟩ := (h1.old hW.below).sl (by omega)
    exact (⟨g, e1, sameFact_yes f (some ⟨g, 0, none⟩) (f.args.length + 12) a2 c2 W h3 (h2.up hW.below hW.below.size)⟩ : ∃ g, v1 = .slice (some ⟨g, 0, none⟩) f.args.length (f.args.length + 12) ∧ Calls Tryz.prog 33 #[aggF f (some ⟨g, 0, none⟩) (f.args.length + 12), aggF f a2 c2] W fun e w' => e = .returned (.bool true) ∧ Gr W w'))
  obtain ⟨g, rfl, -⟩ := HK.out w (Gr.refl w)
  have HK2 : Hid (∀ W, Gr w W → Calls Tryz.prog 15 #[.slice (some ⟨g, 0, none⟩) f.args.length (f.args.length + 12), .slice a2 f.args.length c2] W fun e w' => e = .returned (.bool true) ∧ Gr W w') := fun W hW => by
    obtain ⟨g', e1, h⟩ := HK.out W hW
    cases e1
    exact h
  have HS2 : Hid (∀ W, Gr w W → Calls Tryz.prog 33 #[aggF f (some ⟨g, 0, none⟩) (f.args.length + 12), aggF f a2 c2] W fun e w' => e = .returned (.bool true) ∧ Gr W w') := fun W hW => by
    obtain ⟨g', e1, h⟩ := HSF.out W hW
    cases e1
    exact h
  have HB : Hid (∀ o1 o2, Gr w ((w.alloc o1).alloc o2)) := fun o1 o2 => ((Gr.refl w).alloc o1).alloc o2
  have two : Hid (∀ o1 o2 w1, Gr ((w.alloc o1).alloc o2) w1 → w1.heap[w.heap.size]? = some o1 ∧ w1.heap[w.heap.size + 1]? = some o2) := fun o1 o2 w1 h => by
    obtain ⟨t1, t2⟩ := heap_two (w := w) o1 o2
    exact ⟨(h.below.block _ (by simp; omega)).trans t1, (h.below.block _ (by simp)).trans t2⟩
  obtain ⟨fi, ft, fl⟩ := f
  unfold aggF at HS2 ⊢
  simp only at HK2 HS2 ⊢
  clear h1 h2 hs HK HSF
  generalize fl.length = n at *
  have mixed : Tryz.prog.follows .mixedOrders = true := by kernel_rfl
  go_enter Tryz.func14, Tryz.ntmps14
  go_wp2_with (first
    | (go_at_call 33; go_must (refine (HS2.out _ (HB.out _ _)).mono ?_; rintro e w1 ⟨rfl, hg⟩; obtain ⟨t1, t2⟩ := two.out _ _ _ hg; have y1 := (fun j => Lib.cell_of_heap t1 j); have y2 := (fun j => Lib.cell_of_heap t2 j); have HG := Lib.hid ((HB.out _ _).trans hg); clear hg t1 t2))
    | (go_at_call 15; go_must (refine (HK2.out _ HG.out).mono ?_; rintro e w2 ⟨rfl, hg⟩; have HG2 := Lib.hid (HG.out.trans hg); clear hg)))
  go_ret
  exact ⟨rfl, HG2.out⟩
end Go.Proofs.YtnnhgbncghpecaaGreat
