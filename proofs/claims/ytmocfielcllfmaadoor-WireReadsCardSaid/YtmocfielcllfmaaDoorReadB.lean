/- read: both readers tell the same, in whatever form: the walk. -/
import Derived.Test.YtmocfielcllfmaaDoorReadA
namespace Go.Proofs.YtmocfielcllfmaaDoor
open Go.RowKit

theorem owns_len {w : World} {base : Nat} {e size n : Nat} {v : Value} {xs : List Value} (h : w.ownsRow base e size v n xs) : n ≤ 9223372036854775807 := by
  rcases h.2 with ⟨_, h2⟩ | ⟨g, cap, cur, _, _, _, hn, hm, _⟩
  · omega
  · unfold maxLen at hm
    omega
theorem owns_slG {w : World} {base : Nat} {e size n : Nat} {ao : Option Addr} {c : Nat} {xs : List Value} (h : w.ownsRow base e size (.slice ao n c) n xs) : SlG w.heap.size w ao xs := fun hne => by
  rcases h.2 with ⟨h1, h2⟩ | ⟨g, cap, cur, h1, _, hg, _⟩
  · exfalso
    apply hne
    apply List.eq_nil_of_length_eq_zero
    rw [h.1, h2, Nat.zero_mul]
  · simp only [Value.slice.injEq] at h1
    obtain ⟨rfl, _, rfl⟩ := h1
    refine ⟨g, 0, rfl, lt_of_heap hg, fun j u hu => ?_⟩
    rw [Nat.zero_add]
    have := h.cells (g := g) rfl j u hu
    rwa [Addr.add_lit, Nat.zero_add] at this
theorem RowV.sl {w : World} {base : Nat} {ao : Option Addr} {c : Nat} {xs : List V3} (h : RowV w base (.slice ao xs.length c) xs) : SlV w.heap.size w ao xs := owns_slG h
theorem RowV.len {w : World} {base : Nat} {v : Value} {xs : List V3} (h : RowV w base v xs) : xs.length ≤ 9223372036854775807 := owns_len h
theorem RowI.len {w : World} {base : Nat} {v : Value} {xs : List Int} (h : RowI w base v xs) : xs.length ≤ 9223372036854775807 := owns_len h
theorem RowF.len {w : World} {base : Nat} {v : Value} {xs : List F3} (h : RowF w base v xs) : xs.length ≤ 9223372036854775807 := owns_len h.choose_spec.2.1
theorem RowF.lens {w : World} {base : Nat} {v : Value} {xs : List F3} (h : RowF w base v xs) : ∀ x, x ∈ xs → x.2.2.length ≤ 9223372036854775807 := fun x hx => by
  obtain ⟨ps, rfl, _, h3⟩ := h
  obtain ⟨p, hp, rfl⟩ := List.mem_map.1 hx
  exact (h3 p hp).len
theorem RowI.sl {w : World} {base : Nat} {ao : Option Addr} {c : Nat} {xs : List Int} (h : RowI w base (.slice ao xs.length c) xs) : SlI w.heap.size w ao xs := fun hl => by
  obtain ⟨sb, off, e, lt, hc⟩ := (owns_slG h) (by
    cases xs with
    | nil => simp at hl
    | cons x l => simp [cellsI])
  exact ⟨sb, off, e, lt, fun j hj => hc j _ (by simp [cellsI, hj])⟩
theorem RowF.sl {w : World} {base : Nat} {ao : Option Addr} {c : Nat} {xs : List F3} (h : RowF w base (.slice ao xs.length c) xs) : SlF w.heap.size w ao xs := by
  obtain ⟨ps, h1, h2, h3⟩ := h
  refine ⟨ps, h1, owns_slG h2, fun p hp => ?_⟩
  have hv := h3 p hp
  obtain ⟨ao', c', e⟩ := hv.slice
  exact ⟨ao', c', e, by rw [e] at hv; exact hv.sl⟩

/-- Both readers stand at one place. -/
structure Two (w : World) (R pb B D B1 : Nat) (ao : Option Addr) (l0 : List UInt8) (c : Nat) (s : St) : Prop where
  rd : RdS w R pb B s
  rf : RfS w D B1 ao l0 c s
  ne : D ≠ pb
  bd : B ≤ D
  bp : B1 ≤ pb

theorem Two.below {w w' : World} {R pb B D B1 : Nat} {ao : Option Addr} {l0 : List UInt8} {c : Nat} {s : St} (h : Two w R pb B D B1 ao l0 c s) (b : Below w.heap.size w w') : Two w' R pb B D B1 ao l0 c s :=
  ⟨h.rd.below b, h.rf.below b, h.ne, h.bd, h.bp⟩
/-- The program's reader has gone on. -/
theorem Two.half {w w1 : World} {R pb B D B1 : Nat} {ao : Option Addr} {l0 : List UInt8} {c : Nat} {s : St} (h : Two w R pb B D B1 ao l0 c s) (f : Fr pb w w1) : RfS w1 D B1 ao l0 c s ∧ Below B1 w w1 :=
  ⟨h.rf.keep (f.block D h.rf.lt (fun e => h.ne (Option.some.inj e))) (f.below h.rf.lb h.bp), f.below h.rf.lb h.bp⟩
theorem Two.both {w w1 w2 : World} {R pb B D B1 : Nat} {ao : Option Addr} {l0 : List UInt8} {c : Nat} {s s' : St} (h : Two w R pb B D B1 ao l0 c s) (f1 : Fr pb w w1) (hr : RdS w1 R pb B s') (hf : RfS w2 D B1 ao l0 c s') (f2 : Fr D w1 w2) : Two w2 R pb B D B1 ao l0 c s' ∧ Below B1 w w2 :=
  ⟨⟨hr.far f2 h.bd, hf, h.ne, h.bd, h.bp⟩, (f1.below h.rf.lb h.bp).trans (f2.below (Nat.le_trans h.rf.lb f1.size) hf.ld)⟩

def ReadP (R pb B D B1 : Nat) (ao : Option Addr) (l0 : List UInt8) (c : Nat) (w : World) (e : Ending) (w' : World) : Prop :=
  ∃ s', e = .returned (.bool true) ∧ Two w' R pb B D B1 ao l0 c s' ∧ Below B1 w w'

set_option maxRecDepth 100000 in
set_option maxHeartbeats 1000000 in
theorem read0 (R pb B D B1 : Nat) (ao : Option Addr) (l0 : List UInt8) (c : Nat) (s : St) (x : Int) (w : World) (h : Two w R pb B D B1 ao l0 c s) (hp : ∀ W, Calls Tryd.prog 47 #[.int .i64 x, .int .i64 8] W fun e w' => e = .returned (.int .i64 0) ∧ W = w') :
    Calls Tryd.prog 17 #[.pointer (some ⟨R, 0, none⟩), .pointer (some ⟨D, 0, none⟩), .int .i64 x] w (ReadP R pb B D B1 ao l0 c w) := by
  have HP := Lib.hid (hp w)
  have H := Lib.hid h
  have K1 := Lib.hid (pubAtN R pb B s w h.rd h.rf.ok)
  have K2 := Lib.hid (fun W hr => rnumber_any D B1 ao l0 c s W hr)
  rw [num_pub h.rf.ok] at K2
  generalize pubS numP 0 s = r at K1 K2
  obtain ⟨y, s'⟩ := r
  have hlt : D < w.heap.size := h.rf.lt
  clear h hp
  go_enter Tryd.func17, Tryd.ntmps17
  go_wp2_with (go_at_call 47; refine (HP.out).mono ?_; rintro e w0 ⟨rfl, rfl⟩; refine Hid.out ?_)
  clear HP
  refine Lib.hid ?_
  go_wp2_with (go_at_call 18; refine (K1.out).mono ?_; rintro e w1 ⟨rfl, hr, hf⟩; refine Hid.out ?_)
  have HR1 := Lib.hid hr
  have HF1 := Lib.hid hf
  have HX1 := Lib.hid (H.out.half hf).1
  have hl1 : D < w1.heap.size := Nat.lt_of_lt_of_le hlt hf.size
  clear hr hf K1 
  refine Lib.hid ?_
  go_wp2_with (go_at_call 48; refine (K2.out _ HX1.out).mono ?_; rintro e w2 ⟨rfl, hr, hf⟩; refine Hid.out ?_)
  have HT := Lib.hid (H.out.both HF1.out HR1.out hr hf)
  clear hr hf K2 HR1 HF1 HX1 H 
  refine Lib.hid ?_
  go_wp2
  go_ret
  exact ⟨s', rfl, HT.out.1, HT.out.2⟩

set_option maxRecDepth 100000 in
set_option maxHeartbeats 1000000 in
theorem read1 (R pb B D B1 : Nat) (ao : Option Addr) (l0 : List UInt8) (c : Nat) (s : St) (x : Int) (w : World) (h : Two w R pb B D B1 ao l0 c s) (hp : ∀ W, Calls Tryd.prog 47 #[.int .i64 x, .int .i64 8] W fun e w' => e = .returned (.int .i64 1) ∧ W = w') :
    Calls Tryd.prog 17 #[.pointer (some ⟨R, 0, none⟩), .pointer (some ⟨D, 0, none⟩), .int .i64 x] w (ReadP R pb B D B1 ao l0 c w) := by
  have HP := Lib.hid (hp w)
  have H := Lib.hid h
  have K1 := Lib.hid (pubAtS R pb B s w h.rd h.rf.ok)
  have K2 := Lib.hid (fun W hr => rtext_any D B1 ao l0 c s W hr)
  rw [text_pub h.rf.ok] at K2
  generalize pubS textP ⟨#[]⟩ s = r at K1 K2
  obtain ⟨y, s'⟩ := r
  have hlt : D < w.heap.size := h.rf.lt
  clear h hp
  go_enter Tryd.func17, Tryd.ntmps17
  go_wp2_with (go_at_call 47; refine (HP.out).mono ?_; rintro e w0 ⟨rfl, rfl⟩; refine Hid.out ?_)
  clear HP
  refine Lib.hid ?_
  go_wp2_with (go_at_call 19; refine (K1.out).mono ?_; rintro e w1 ⟨rfl, hr, hf⟩; refine Hid.out ?_)
  have HR1 := Lib.hid hr
  have HF1 := Lib.hid hf
  have HX1 := Lib.hid (H.out.half hf).1
  have hl1 : D < w1.heap.size := Nat.lt_of_lt_of_le hlt hf.size
  clear hr hf K1 
  refine Lib.hid ?_
  go_wp2_with (go_at_call 49; refine (K2.out _ HX1.out).mono ?_; rintro e w2 ⟨rfl, hr, hf⟩; refine Hid.out ?_)
  have HT := Lib.hid (H.out.both HF1.out HR1.out hr hf)
  clear hr hf K2 HR1 HF1 HX1 H 
  refine Lib.hid ?_
  go_wp2
  go_ret
  exact ⟨s', rfl, HT.out.1, HT.out.2⟩

set_option maxRecDepth 100000 in
set_option maxHeartbeats 1000000 in
theorem read2 (R pb B D B1 : Nat) (ao : Option Addr) (l0 : List UInt8) (c : Nat) (s : St) (x : Int) (w : World) (h : Two w R pb B D B1 ao l0 c s) (hp : ∀ W, Calls Tryd.prog 47 #[.int .i64 x, .int .i64 8] W fun e w' => e = .returned (.int .i64 2) ∧ W = w') :
    Calls Tryd.prog 17 #[.pointer (some ⟨R, 0, none⟩), .pointer (some ⟨D, 0, none⟩), .int .i64 x] w (ReadP R pb B D B1 ao l0 c w) := by
  have HP := Lib.hid (hp w)
  have H := Lib.hid h
  have K1 := Lib.hid (pubAtV R pb B s w h.rd h.rf.ok)
  have K2 := Lib.hid (fun W hr => rvalue_any D B1 ao l0 c s W hr)
  rw [value_pub h.rf.ok] at K2
  generalize pubS valueP (0, 0, ⟨#[]⟩) s = r at K1 K2
  obtain ⟨y, s'⟩ := r
  have hlt : D < w.heap.size := h.rf.lt
  clear h hp
  have hg := eqGuardV
  have heq := fun W => eqV y.1 y.2.1 y.1 y.2.1 y.2.2 y.2.2 W
  rw [eqvB_self (y.1, y.2.1, y.2.2)] at heq
  go_enter Tryd.func17, Tryd.ntmps17
  go_wp2_with (go_at_call 47; refine (HP.out).mono ?_; rintro e w0 ⟨rfl, rfl⟩; refine Hid.out ?_)
  clear HP
  refine Lib.hid ?_
  go_wp2_with (go_at_call 20; refine (K1.out).mono ?_; rintro e w1 ⟨rfl, hr, hf⟩; refine Hid.out ?_)
  have HR1 := Lib.hid hr
  have HF1 := Lib.hid hf
  have HX1 := Lib.hid (H.out.half hf).1
  have hl1 : D < w1.heap.size := Nat.lt_of_lt_of_le hlt hf.size
  clear hr hf K1 
  refine Lib.hid ?_
  unfold aggV
  go_wp2_with (go_at_call 50; refine (K2.out _ HX1.out).mono ?_; rintro e w2 ⟨rfl, hr, hf⟩; refine Hid.out ?_)
  have HT := Lib.hid (H.out.both HF1.out HR1.out hr hf)
  clear hr hf K2 HR1 HF1 HX1 H 
  refine Lib.hid ?_
  unfold aggV
  go_wp2
  go_ret
  exact ⟨s', rfl, HT.out.1, HT.out.2⟩

set_option maxRecDepth 100000 in
set_option maxHeartbeats 1000000 in
theorem read3 (R pb B D B1 : Nat) (ao : Option Addr) (l0 : List UInt8) (c : Nat) (s : St) (x : Int) (w : World) (h : Two w R pb B D B1 ao l0 c s) (hp : ∀ W, Calls Tryd.prog 47 #[.int .i64 x, .int .i64 8] W fun e w' => e = .returned (.int .i64 3) ∧ W = w') :
    Calls Tryd.prog 17 #[.pointer (some ⟨R, 0, none⟩), .pointer (some ⟨D, 0, none⟩), .int .i64 x] w (ReadP R pb B D B1 ao l0 c w) := by
  have HP := Lib.hid (hp w)
  have H := Lib.hid h
  have K1 := Lib.hid (pubAtL R pb B s w h.rd h.rf.ok)
  have K2 := Lib.hid (fun W hr => rvalues_any D B1 ao l0 c s W hr)
  rw [values_pub h.rf.ok] at K2
  generalize pubS valuesP [] s = r at K1 K2
  obtain ⟨y, s'⟩ := r
  have hlt : D < w.heap.size := h.rf.lt
  clear h hp
  go_enter Tryd.func17, Tryd.ntmps17
  go_wp2_with (go_at_call 47; refine (HP.out).mono ?_; rintro e w0 ⟨rfl, rfl⟩; refine Hid.out ?_)
  clear HP
  refine Lib.hid ?_
  go_wp2_with (go_at_call 21; refine (K1.out).mono ?_; rintro e w1 ⟨v0, rfl, hw0, hr, hf⟩; obtain ⟨ao0, c0, rfl⟩ := hw0.slice; refine Hid.out ?_)
  have HR1 := Lib.hid hr
  have HF1 := Lib.hid hf
  have HX1 := Lib.hid (H.out.half hf).1
  have hl1 : D < w1.heap.size := Nat.lt_of_lt_of_le hlt hf.size
  have HW0 := Lib.hid hw0
  clear hr hf K1 hw0
  refine Lib.hid ?_
  go_wp2_with (go_at_call 51; refine (K2.out _ HX1.out).mono ?_; rintro e w2 ⟨v0, rfl, hw0, hr, hf⟩; obtain ⟨bo0, d0, rfl⟩ := hw0.slice; refine Hid.out ?_)
  have HT := Lib.hid (H.out.both HF1.out HR1.out hr hf)
  have HA0 := Lib.hid (HW0.out.fr hf hlt)
  have HB0 := Lib.hid hw0
  have KS := Lib.hid (sameV ao0 bo0 c0 d0 y HB0.out.len w2 HA0.out.sl HB0.out.sl)
  clear hr hf K2 HR1 HF1 HX1 H hw0 HW0 HA0 HB0
  refine Lib.hid ?_
  go_wp2_with (go_at_call 41; refine (KS.out).mono ?_; rintro e w3 ⟨rfl, hb⟩)
  go_ret
  exact ⟨s', rfl, HT.out.1.below hb, HT.out.2.trans (hb.mono (Nat.le_trans HT.out.1.rf.lb (Nat.le_refl _)))⟩

set_option maxRecDepth 100000 in
set_option maxHeartbeats 1000000 in
theorem read4 (R pb B D B1 : Nat) (ao : Option Addr) (l0 : List UInt8) (c : Nat) (s : St) (x : Int) (w : World) (h : Two w R pb B D B1 ao l0 c s) (hp : ∀ W, Calls Tryd.prog 47 #[.int .i64 x, .int .i64 8] W fun e w' => e = .returned (.int .i64 4) ∧ W = w') :
    Calls Tryd.prog 17 #[.pointer (some ⟨R, 0, none⟩), .pointer (some ⟨D, 0, none⟩), .int .i64 x] w (ReadP R pb B D B1 ao l0 c w) := by
  have HP := Lib.hid (hp w)
  have H := Lib.hid h
  have K1 := Lib.hid (pubAtF R pb B s w h.rd h.rf.ok)
  have K2 := Lib.hid (fun W hr => rfact_any D B1 ao l0 c s W hr)
  rw [fact_pub h.rf.ok] at K2
  generalize pubS factP (0, 0, []) s = r at K1 K2
  obtain ⟨y, s'⟩ := r
  have hlt : D < w.heap.size := h.rf.lt
  clear h hp
  go_enter Tryd.func17, Tryd.ntmps17
  go_wp2_with (go_at_call 47; refine (HP.out).mono ?_; rintro e w0 ⟨rfl, rfl⟩; refine Hid.out ?_)
  clear HP
  refine Lib.hid ?_
  go_wp2_with (go_at_call 23; refine (K1.out).mono ?_; rintro e w1 ⟨v0, rfl, hw0, hr, hf⟩; obtain ⟨ao0, c0, rfl⟩ := hw0.slice; refine Hid.out ?_)
  have HR1 := Lib.hid hr
  have HF1 := Lib.hid hf
  have HX1 := Lib.hid (H.out.half hf).1
  have hl1 : D < w1.heap.size := Nat.lt_of_lt_of_le hlt hf.size
  have HW0 := Lib.hid hw0
  clear hr hf K1 hw0
  refine Lib.hid ?_
  unfold aggF
  go_wp2_with (go_at_call 52; refine (K2.out _ HX1.out).mono ?_; rintro e w2 ⟨v0, rfl, hw0, hr, hf⟩; obtain ⟨bo0, d0, rfl⟩ := hw0.slice; refine Hid.out ?_)
  have HT := Lib.hid (H.out.both HF1.out HR1.out hr hf)
  have HA0 := Lib.hid (HW0.out.fr hf hlt)
  have HB0 := Lib.hid hw0
  have KS := Lib.hid (sameFact y ao0 bo0 c0 d0 HB0.out.len w2 HA0.out.sl HB0.out.sl)
  clear hr hf K2 HR1 HF1 HX1 H hw0 HW0 HA0 HB0
  refine Lib.hid ?_
  unfold aggF
  go_wp2_with (go_at_call 22; refine (KS.out).mono ?_; rintro e w3 ⟨rfl, hb⟩)
  go_ret
  exact ⟨s', rfl, HT.out.1.below hb, HT.out.2.trans (hb.mono (Nat.le_trans HT.out.1.rf.lb (Nat.le_refl _)))⟩

set_option maxRecDepth 100000 in
set_option maxHeartbeats 1000000 in
theorem read5 (R pb B D B1 : Nat) (ao : Option Addr) (l0 : List UInt8) (c : Nat) (s : St) (x : Int) (w : World) (h : Two w R pb B D B1 ao l0 c s) (hp : ∀ W, Calls Tryd.prog 47 #[.int .i64 x, .int .i64 8] W fun e w' => e = .returned (.int .i64 5) ∧ W = w') :
    Calls Tryd.prog 17 #[.pointer (some ⟨R, 0, none⟩), .pointer (some ⟨D, 0, none⟩), .int .i64 x] w (ReadP R pb B D B1 ao l0 c w) := by
  have HP := Lib.hid (hp w)
  have H := Lib.hid h
  have K1 := Lib.hid (pubAtC R pb B s w h.rd h.rf.ok)
  have K2 := Lib.hid (fun W hr => rcommand_any D B1 ao l0 c s W hr)
  rw [command_pub h.rf.ok] at K2
  generalize pubS commandP (0, ⟨#[]⟩, [], 0) s = r at K1 K2
  obtain ⟨y, s'⟩ := r
  have hlt : D < w.heap.size := h.rf.lt
  clear h hp
  go_enter Tryd.func17, Tryd.ntmps17
  go_wp2_with (go_at_call 47; refine (HP.out).mono ?_; rintro e w0 ⟨rfl, rfl⟩; refine Hid.out ?_)
  clear HP
  refine Lib.hid ?_
  go_wp2_with (go_at_call 25; refine (K1.out).mono ?_; rintro e w1 ⟨v0, rfl, hw0, hr, hf⟩; obtain ⟨ao0, c0, rfl⟩ := hw0.slice; refine Hid.out ?_)
  have HR1 := Lib.hid hr
  have HF1 := Lib.hid hf
  have HX1 := Lib.hid (H.out.half hf).1
  have hl1 : D < w1.heap.size := Nat.lt_of_lt_of_le hlt hf.size
  have HW0 := Lib.hid hw0
  clear hr hf K1 hw0
  refine Lib.hid ?_
  unfold aggC
  go_wp2_with (go_at_call 53; refine (K2.out _ HX1.out).mono ?_; rintro e w2 ⟨v0, rfl, hw0, hr, hf⟩; obtain ⟨bo0, d0, rfl⟩ := hw0.slice; refine Hid.out ?_)
  have HT := Lib.hid (H.out.both HF1.out HR1.out hr hf)
  have HA0 := Lib.hid (HW0.out.fr hf hlt)
  have HB0 := Lib.hid hw0
  have KS := Lib.hid (sameCommand y ao0 bo0 c0 d0 HB0.out.len w2 HA0.out.sl HB0.out.sl)
  clear hr hf K2 HR1 HF1 HX1 H hw0 HW0 HA0 HB0
  refine Lib.hid ?_
  unfold aggC
  go_wp2_with (go_at_call 24; refine (KS.out).mono ?_; rintro e w3 ⟨rfl, hb⟩)
  go_ret
  exact ⟨s', rfl, HT.out.1.below hb, HT.out.2.trans (hb.mono (Nat.le_trans HT.out.1.rf.lb (Nat.le_refl _)))⟩

set_option maxRecDepth 100000 in
set_option maxHeartbeats 1000000 in
theorem read6 (R pb B D B1 : Nat) (ao : Option Addr) (l0 : List UInt8) (c : Nat) (s : St) (x : Int) (w : World) (h : Two w R pb B D B1 ao l0 c s) (hp : ∀ W, Calls Tryd.prog 47 #[.int .i64 x, .int .i64 8] W fun e w' => e = .returned (.int .i64 6) ∧ W = w') :
    Calls Tryd.prog 17 #[.pointer (some ⟨R, 0, none⟩), .pointer (some ⟨D, 0, none⟩), .int .i64 x] w (ReadP R pb B D B1 ao l0 c w) := by
  have HP := Lib.hid (hp w)
  have H := Lib.hid h
  have K1 := Lib.hid (pubAtR R pb B s w h.rd h.rf.ok)
  have K2 := Lib.hid (fun W hr => rreply_any D B1 ao l0 c s W hr)
  rw [reply_pub h.rf.ok] at K2
  generalize pubS replyP (0, 0, [], []) s = r at K1 K2
  obtain ⟨y, s'⟩ := r
  have hlt : D < w.heap.size := h.rf.lt
  clear h hp
  go_enter Tryd.func17, Tryd.ntmps17
  go_wp2_with (go_at_call 47; refine (HP.out).mono ?_; rintro e w0 ⟨rfl, rfl⟩; refine Hid.out ?_)
  clear HP
  refine Lib.hid ?_
  go_wp2_with (go_at_call 27; refine (K1.out).mono ?_; rintro e w1 ⟨v0, v1, rfl, hw0, hw1, hr, hf⟩; obtain ⟨ao0, c0, rfl⟩ := hw0.slice; obtain ⟨ao1, c1, rfl⟩ := hw1.slice; refine Hid.out ?_)
  have HR1 := Lib.hid hr
  have HF1 := Lib.hid hf
  have HX1 := Lib.hid (H.out.half hf).1
  have hl1 : D < w1.heap.size := Nat.lt_of_lt_of_le hlt hf.size
  have HW0 := Lib.hid hw0
  have HW1 := Lib.hid hw1
  clear hr hf K1 hw0 hw1
  refine Lib.hid ?_
  unfold aggR
  go_wp2_with (go_at_call 54; refine (K2.out _ HX1.out).mono ?_; rintro e w2 ⟨v0, v1, rfl, hw0, hw1, hr, hf⟩; obtain ⟨bo0, d0, rfl⟩ := hw0.slice; obtain ⟨bo1, d1, rfl⟩ := hw1.slice; refine Hid.out ?_)
  have HT := Lib.hid (H.out.both HF1.out HR1.out hr hf)
  have HA0 := Lib.hid (HW0.out.fr hf hlt)
  have HB0 := Lib.hid hw0
  have HA1 := Lib.hid (HW1.out.fr hf hlt)
  have HB1 := Lib.hid hw1
  have KS := Lib.hid (sameReply y ao0 bo0 c0 d0 ao1 bo1 c1 d1 HB0.out.len HB0.out.lens HB1.out.len w2 HA0.out.sl HB0.out.sl HA1.out.sl HB1.out.sl)
  clear hr hf K2 HR1 HF1 HX1 H hw0 HW0 HA0 HB0 hw1 HW1 HA1 HB1
  refine Lib.hid ?_
  unfold aggR
  go_wp2_with (go_at_call 26; refine (KS.out).mono ?_; rintro e w3 ⟨rfl, hb⟩)
  go_ret
  exact ⟨s', rfl, HT.out.1.below hb, HT.out.2.trans (hb.mono (Nat.le_trans HT.out.1.rf.lb (Nat.le_refl _)))⟩

set_option maxRecDepth 100000 in
set_option maxHeartbeats 1000000 in
theorem read7 (R pb B D B1 : Nat) (ao : Option Addr) (l0 : List UInt8) (c : Nat) (s : St) (x : Int) (w : World) (h : Two w R pb B D B1 ao l0 c s) (hp : ∀ W, Calls Tryd.prog 47 #[.int .i64 x, .int .i64 8] W fun e w' => e = .returned (.int .i64 7) ∧ W = w') :
    Calls Tryd.prog 17 #[.pointer (some ⟨R, 0, none⟩), .pointer (some ⟨D, 0, none⟩), .int .i64 x] w (ReadP R pb B D B1 ao l0 c w) := by
  have HP := Lib.hid (hp w)
  have H := Lib.hid h
  have K1 := Lib.hid (pubAtE R pb B s w h.rd h.rf.ok)
  have K2 := Lib.hid (fun W hr => rentry_any D B1 ao l0 c s W hr)
  rw [entry_pub h.rf.ok] at K2
  generalize pubS entryP (0, 0, 0, 0, (0, ⟨#[]⟩, [], 0), []) s = r at K1 K2
  obtain ⟨y, s'⟩ := r
  have hlt : D < w.heap.size := h.rf.lt
  clear h hp
  go_enter Tryd.func17, Tryd.ntmps17
  go_wp2_with (go_at_call 47; refine (HP.out).mono ?_; rintro e w0 ⟨rfl, rfl⟩; refine Hid.out ?_)
  clear HP
  refine Lib.hid ?_
  go_wp2_with (go_at_call 29; refine (K1.out).mono ?_; rintro e w1 ⟨v0, v1, rfl, hw0, hw1, hr, hf⟩; obtain ⟨ao0, c0, rfl⟩ := hw0.slice; obtain ⟨ao1, c1, rfl⟩ := hw1.slice; refine Hid.out ?_)
  have HR1 := Lib.hid hr
  have HF1 := Lib.hid hf
  have HX1 := Lib.hid (H.out.half hf).1
  have hl1 : D < w1.heap.size := Nat.lt_of_lt_of_le hlt hf.size
  have HW0 := Lib.hid hw0
  have HW1 := Lib.hid hw1
  clear hr hf K1 hw0 hw1
  refine Lib.hid ?_
  unfold aggE
  go_wp2_with (go_at_call 55; refine (K2.out _ HX1.out).mono ?_; rintro e w2 ⟨v0, v1, rfl, hw0, hw1, hr, hf⟩; obtain ⟨bo0, d0, rfl⟩ := hw0.slice; obtain ⟨bo1, d1, rfl⟩ := hw1.slice; refine Hid.out ?_)
  have HT := Lib.hid (H.out.both HF1.out HR1.out hr hf)
  have HA0 := Lib.hid (HW0.out.fr hf hlt)
  have HB0 := Lib.hid hw0
  have HA1 := Lib.hid (HW1.out.fr hf hlt)
  have HB1 := Lib.hid hw1
  have KS := Lib.hid (sameEntry y ao0 bo0 c0 d0 ao1 bo1 c1 d1 HB0.out.len HB1.out.len w2 HA0.out.sl HB0.out.sl HA1.out.sl HB1.out.sl)
  clear hr hf K2 HR1 HF1 HX1 H hw0 HW0 HA0 HB0 hw1 HW1 HA1 HB1
  refine Lib.hid ?_
  unfold aggE
  go_wp2_with (go_at_call 28; refine (KS.out).mono ?_; rintro e w3 ⟨rfl, hb⟩)
  go_ret
  exact ⟨s', rfl, HT.out.1.below hb, HT.out.2.trans (hb.mono (Nat.le_trans HT.out.1.rf.lb (Nat.le_refl _)))⟩

theorem read_any (R pb B D B1 : Nat) (ao : Option Addr) (l0 : List UInt8) (c : Nat) (s : St) (x : Int) (w : World) (h : Two w R pb B D B1 ao l0 c s) :
    Calls Tryd.prog 17 #[.pointer (some ⟨R, 0, none⟩), .pointer (some ⟨D, 0, none⟩), .int .i64 x] w (ReadP R pb B D B1 ao l0 c w) := by
  obtain ⟨p, hp8, hp⟩ := pick_all x
  match p, hp8 with
  | 0, _ => exact read0 R pb B D B1 ao l0 c s x w h hp
  | 1, _ => exact read1 R pb B D B1 ao l0 c s x w h hp
  | 2, _ => exact read2 R pb B D B1 ao l0 c s x w h hp
  | 3, _ => exact read3 R pb B D B1 ao l0 c s x w h hp
  | 4, _ => exact read4 R pb B D B1 ao l0 c s x w h hp
  | 5, _ => exact read5 R pb B D B1 ao l0 c s x w h hp
  | 6, _ => exact read6 R pb B D B1 ao l0 c s x w h hp
  | 7, _ => exact read7 R pb B D B1 ao l0 c s x w h hp
end Go.Proofs.YtmocfielcllfmaaDoor
