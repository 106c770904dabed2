/- The kinds of tokens: word, named. -/
import Derived.Test.YtfmjhbaenpbfoaaGreatDoorNumber
namespace Go.Proofs.YtfmjhbaenpbfoaaGreatDoor
open Go.RowKit

theorem Fr.setNew {R b : Nat} {a w : World} (h : Fr R a w) (hb : a.heap.size ≤ b) (i : Nat) (v : Value) : Fr R a (w.setCell ⟨b, i, none⟩ v) :=
  ⟨h.os, h.tape, h.output, by simpa using h.size, fun k hk hne => ((Lib.grownBy_setCell w b i v).block k (Nat.lt_of_lt_of_le hk h.size) (fun e => by cases e; omega)).trans (h.block k hk hne)⟩
theorem Rd.setOther {w : World} {R b : Nat} {s : ByteArray} {k : Nat} (h : Rd w R s k) (hb : b ≠ R) (i : Nat) (v : Value) : Rd (w.setCell ⟨b, i, none⟩ v) R s k :=
  ⟨h.two, by simpa using h.lt, (World.cell?_setCell_other _ _ _ _ (fun e => by cases e; exact hb rfl)).trans h.src, (World.cell?_setCell_other _ _ _ _ (fun e => by cases e; exact hb rfl)).trans h.pos, by rw [World.frozen?_setCell]; exact h.froz⟩

theorem Went.of {R : Nat} {s : ByteArray} {k k' : Nat} {w w1 w2 : World} (h : Went R s k w w1) (h' : Went R s k' w1 w2) : Went R s k' w w2 := ⟨h'.rd, h.fr.trans h'.fr⟩
theorem Went.alloc {R : Nat} {s : ByteArray} {k : Nat} {w w1 : World} {o : Obj} (h : Went R s k (w.alloc o) w1) : Went R s k w w1 := ⟨h.rd, ((Fr.refl R w).alloc o).trans h.fr⟩
theorem Went.below {R : Nat} {s : ByteArray} {k : Nat} {w w1 w2 : World} (h : Went R s k w w1) (b : Below w1.heap.size w1 w2) : Went R s k w w2 := ⟨h.rd.below b, h.fr.trans (Fr.of_below b)⟩
theorem Went.setNew {R b : Nat} {s : ByteArray} {k : Nat} {w w1 : World} (h : Went R s k w w1) (hb : w.heap.size ≤ b) (hR : b ≠ R) (i : Nat) (v : Value) : Went R s k w (w1.setCell ⟨b, i, none⟩ v) := ⟨h.rd.setOther hR i v, h.fr.setNew hb i v⟩
/-- The reader went on to where just this is left. -/
def To (R : Nat) (s : ByteArray) (rest : Bs) (w w' : World) : Prop := ∃ k, k ≤ s.size ∧ s.data.toList.drop k = rest ∧ Went R s k w w'
theorem Went.to {R : Nat} {s : ByteArray} {k : Nat} {w w' : World} {P : UInt8 → Bool} (h : Went R s (k + ((s.data.toList.drop k).takeWhile P).length) w w') (hk : k ≤ s.size) : To R s ((s.data.toList.drop k).dropWhile P) w w' :=
  ⟨_, by have := takeWhile_len P s k; omega, by rw [← List.drop_drop, dropWhile_drop], h⟩
theorem To.below {R : Nat} {s : ByteArray} {rest : Bs} {w w1 w2 : World} (h : To R s rest w w1) (b : Below w1.heap.size w1 w2) : To R s rest w w2 := by
  obtain ⟨k, h1, h2, h3⟩ := h
  exact ⟨k, h1, h2, h3.below b⟩
theorem To.alloc {R : Nat} {s : ByteArray} {rest : Bs} {w w1 : World} {o : Obj} (h : To R s rest (w.alloc o) w1) : To R s rest w w1 := by
  obtain ⟨k, h1, h2, h3⟩ := h
  exact ⟨k, h1, h2, h3.alloc⟩
theorem To.fr {R : Nat} {s : ByteArray} {rest : Bs} {w w1 : World} (h : To R s rest w w1) : Fr R w w1 := h.choose_spec.2.2.fr
theorem To.setNew {R b : Nat} {s : ByteArray} {rest : Bs} {w w1 : World} (h : To R s rest w w1) (hb : w.heap.size ≤ b) (hR : b ≠ R) (i : Nat) (v : Value) : To R s rest w (w1.setCell ⟨b, i, none⟩ v) := by
  obtain ⟨k, h1, h2, h3⟩ := h
  exact ⟨k, h1, h2, h3.setNew hb hR i v⟩
theorem To.first {R : Nat} {s : ByteArray} {k : Nat} {rest : Bs} {w w1 w2 : World} (h : Went R s k w w1) (h' : To R s rest w1 w2) : To R s rest w w2 := by
  obtain ⟨j, h1, h2, h3⟩ := h'
  exact ⟨j, h1, h2, h.of h3⟩

/-- The sets are made, then asked. -/
theorem next_set (R k n : Nat) (zs : List ByteArray) (cs : Array Value) (P : UInt8 → Bool) (hP : ∀ x, amongB zs x = P x) (hcs : cs = (zs.map Value.string).toArray) (hn : zs.length = n) (hn' : n ≤ 1000) (s : ByteArray) (w : World) (h : Rd w R s k) (hk : k ≤ s.size) :
    Calls Tryz.prog 112 #[.pointer (some ⟨R, 0, none⟩), .slice (some ⟨w.heap.size, 0, none⟩) n n] (w.alloc (.cells cs 9)) fun e w' => e = .returned (.bool (nextB P (s.data.toList.drop k))) ∧ Went R s k w w' :=
  (next_any R k w.heap.size n n zs P hP s _ (h.alloc _) hk (sets_made w zs cs _ hcs) hn hn').mono fun _ _ ⟨h1, m, h2⟩ => ⟨h1, by rw [← h2]; exact ⟨(h.alloc _).drewN m, ((Fr.refl R w).alloc _).drewN m⟩⟩
theorem pass_set (R k n : Nat) (zs : List ByteArray) (cs : Array Value) (P : UInt8 → Bool) (hP : ∀ x, amongB zs x = P x) (hcs : cs = (zs.map Value.string).toArray) (hn : zs.length = n) (hn' : n ≤ 1000) (s : ByteArray) (hm : s.size ≤ 1000000) (w : World) (h : Rd w R s k) (hk : k ≤ s.size) :
    Calls Tryz.prog 146 #[.pointer (some ⟨R, 0, none⟩), .slice (some ⟨w.heap.size, 0, none⟩) n n] (w.alloc (.cells cs 9)) fun e w' => (∃ v, e = .returned v) ∧ Went R s (k + ((s.data.toList.drop k).takeWhile P).length) w w' :=
  (pass_any R k w.heap.size n n zs P hP s hm _ (h.alloc _) hk (sets_made w zs cs _ hcs) (by have := h.lt; omega) hn hn').mono fun _ _ ⟨h1, h2⟩ => ⟨h1, h2.alloc⟩
theorem take_set (R k n : Nat) (zs : List ByteArray) (cs : Array Value) (P : UInt8 → Bool) (hP : ∀ x, amongB zs x = P x) (hcs : cs = (zs.map Value.string).toArray) (hn : zs.length = n) (hn' : n ≤ 1000) (s : ByteArray) (hm : s.size ≤ 1000000) (w : World) (h : Rd w R s k) (hk : k ≤ s.size) :
    Calls Tryz.prog 154 #[.pointer (some ⟨R, 0, none⟩), .slice (some ⟨w.heap.size, 0, none⟩) n n] (w.alloc (.cells cs 9)) fun e w' => e = .returned (.string ⟨((s.data.toList.drop k).takeWhile P).toArray⟩) ∧ To R s ((s.data.toList.drop k).dropWhile P) w w' :=
  (take_any R k w.heap.size n n zs P hP s hm _ (h.alloc _) hk (sets_made w zs cs _ hcs) (by have := h.lt; omega) hn hn').mono fun _ _ ⟨h1, h2⟩ => ⟨h1, h2.alloc.to hk⟩

theorem nameBytes_any (R k : Nat) (s : ByteArray) (hm : s.size ≤ 1000000) (w : World) (h : Rd w R s k) (hk : k ≤ s.size) :
    Calls Tryz.prog 149 #[.pointer (some ⟨R, 0, none⟩)] w fun e w' => e = .returned (.string ⟨((s.data.toList.drop k).takeWhile onB).toArray⟩) ∧ To R s ((s.data.toList.drop k).dropWhile onB) w w' := by
  have KT := Lib.hid (take_set R k 3 [lettersZ, digitsZ, lowZ] #[.string lettersZ, .string digitsZ, .string lowZ] onB among_on rfl rfl (by decide) s hm w h hk)
  clear h
  go_enter Tryz.func149, Tryz.ntmps149
  go_wp2_with (go_at_call 154; refine (KT.out).mono ?_; rintro e w1 ⟨rfl, hw⟩)
  go_ret
  exact ⟨rfl, hw⟩

/-- What stands in a new block, once other calls have run. -/
theorem Fr.made {R : Nat} {w w1 : World} {cs : Array Value} {t : TypeId} (h : Fr R (w.alloc (.cells cs t)) w1) (hR : R < w.heap.size) : w1.heap[w.heap.size]? = some (.cells cs t (0, 0)) := h.keep (heap_alloc_new w _) (by omega)

abbrev lexC : Array Value := #[.int .u8 0, .string ⟨#[]⟩, .int .i64 0]

set_option maxRecDepth 100000 in
set_option maxHeartbeats 1000000 in
theorem named_any (R k : Nat) (kd : Int) (s : ByteArray) (hm : s.size ≤ 1000000) (w : World) (h : Rd w R s k) (hk : k ≤ s.size) :
    Calls Tryz.prog 115 #[.pointer (some ⟨R, 0, none⟩), .int .u8 kd] w fun e w' => e = .returned (tkV (namedT kd (s.data.toList.drop k)) 0) ∧ To R s (namedT kd (s.data.toList.drop k)).rest w w' := by
  have KN := Lib.hid (nameBytes_any R k s hm (w.alloc (.cells lexC 99)) (h.alloc _) hk)
  have HR : Hid (R < w.heap.size) := h.lt
  have hrest : (namedT kd (s.data.toList.drop k)).rest = (s.data.toList.drop k).dropWhile onB := by unfold namedT tkOf tkBad; split <;> rfl
  rw [hrest]
  have hT : namedT kd (s.data.toList.drop k) = tkOf kd ((s.data.toList.drop k).takeWhile onB) ((s.data.toList.drop k).dropWhile onB) (nameB ((s.data.toList.drop k).takeWhile onB)) := rfl
  rw [hT]
  generalize (s.data.toList.drop k).takeWhile onB = t at KN ⊢
  generalize (s.data.toList.drop k).dropWhile onB = rest at KN ⊢
  have KI := Lib.hid (fun w' => isName_any t w')
  have KT := Lib.hid (fun w' => told_any kd t rest (nameB t) w')
  generalize nameB t = b at KI KT ⊢
  obtain ⟨⟨er, kk, tx, rs⟩, hx⟩ : ∃ x, tkOf kd t rest b = x := ⟨_, rfl⟩
  rw [hx] at KT ⊢
  unfold tkV at KT
  simp only at KT
  clear h hrest hT hx
  go_enter Tryz.func115, Tryz.ntmps115
  go_wp2_with (first
    | (go_at_call 149; refine (KN.out).mono ?_; rintro e w1 ⟨rfl, hw⟩; have HW := Lib.hid hw; clear hw)
    | (go_at_call 152; refine (KI.out _).mono ?_; rintro e w2 ⟨rfl, hb2⟩; have HB2 := Lib.hid hb2; clear hb2)
    | (go_at_call 151; refine (KT.out _).mono ?_; rintro e w3 ⟨rfl, hb3⟩; have HB3 := Lib.hid hb3; clear hb3
       have HH : Hid (w3.heap[w.heap.size]? = some (.cells lexC 99 (0, 0))) := (HB3.out.block _ (lt_of_heap ((HB2.out.block _ (lt_of_heap (HW.out.fr.made HR.out))).trans (HW.out.fr.made HR.out)))).trans ((HB2.out.block _ (lt_of_heap (HW.out.fr.made HR.out))).trans (HW.out.fr.made HR.out))
       have c0 : w3.cell? ⟨w.heap.size, 0, none⟩ = some (.int .u8 0) := Lib.cell_of_heap HH.out 0
       have c1 : w3.cell? ⟨w.heap.size, 1, none⟩ = some (.string ⟨#[]⟩) := Lib.cell_of_heap HH.out 1
       have c2 : w3.cell? ⟨w.heap.size, 2, none⟩ = some (.int .i64 0) := Lib.cell_of_heap HH.out 2
       have f0 : ∀ j, w3.frozen? ⟨w.heap.size, j, none⟩ = false := fun j => Lib.frozen_of_heap HH.out j))
  have hne : w.heap.size ≠ R := by have := HR.out; omega
  exact bodyPost_ret (v := .tuple #[.agg #[.int .u8 kk, .string ⟨tx.toArray⟩, .int .i64 0], .int .i64 er]) (by simp [results, Tryz.results115, go_sem, c0, c1, c2]) rfl ⟨rfl, (((((HW.out.below HB2.out).below HB3.out).alloc).setNew (Nat.le_refl _) hne _ _).setNew (Nat.le_refl _) hne _ _).setNew (Nat.le_refl _) hne _ _⟩
end Go.Proofs.YtfmjhbaenpbfoaaGreatDoor
