/- The document's reader: rows of values. -/
import Derived.Test.YtmocfielcllfmaaDoorRefS
namespace Go.Proofs.YtmocfielcllfmaaDoor
open Go.RowKit

theorem count_ok {s : St} (h : OkS s) : OkS (countS s).2 := by
  unfold countS
  split
  · intro _; rfl
  · exact word_ok h
theorem count_zero {s : St} (h : OkS s) (hb : (countS s).2.2 = true) : (countS s).1 = 0 := by
  unfold countS at hb ⊢
  split
  · rfl
  · rename_i hn
    rw [if_neg hn] at hb
    exact word_zero h hb

/-- A loop over a row, under way. -/
def Under {α : Type} (f : St → α × St) (N : Nat) (s0 : St) (m : Nat) (acc : List α) (sj : St) : Prop :=
  (sj.2 = false ∧ rowS f N [] s0 = rowS f m acc sj) ∨ (sj.2 = true ∧ rowS f N [] s0 = ([], sj))

theorem under_start {α : Type} {f : St → α × St} {s : St} (h : OkS s) : Under f (countS s).1 (countS s).2 (countS s).1 [] (countS s).2 := by
  cases hb : (countS s).2.2 with
  | false => exact Or.inl ⟨hb, rfl⟩
  | true =>
    refine Or.inr ⟨hb, ?_⟩
    rw [count_zero h hb]
    rfl
theorem under_step {α : Type} {f : St → α × St} {N : Nat} {s0 : St} {m : Nat} {acc : List α} {sj : St} (h : Under f N s0 (m + 1) acc sj) (hb : sj.2 = false) : Under f N s0 m (acc ++ [(f sj).1]) (f sj).2 := by
  rcases h with ⟨_, h⟩ | ⟨h, _⟩
  · cases hf : (f sj).2.2 with
    | false =>
      refine Or.inl ⟨hf, h.trans ?_⟩
      rw [rowS, if_neg (by simp [hf])]
    | true =>
      refine Or.inr ⟨hf, h.trans ?_⟩
      rw [rowS, if_pos hf]
  · rw [hb] at h; cases h
theorem under_end {α : Type} {f : St → α × St} {N : Nat} {s0 : St} {acc : List α} {sj : St} (h : Under f N s0 0 acc sj) (hb : sj.2 = false) : rowS f N [] s0 = (acc, sj) := by
  rcases h with ⟨_, h⟩ | ⟨h, _⟩
  · exact h
  · rw [hb] at h; cases h
theorem under_bad {α : Type} {f : St → α × St} {N : Nat} {s0 : St} {m : Nat} {acc : List α} {sj : St} (h : Under f N s0 m acc sj) (hb : sj.2 = true) : rowS f N [] s0 = ([], sj) := by
  rcases h with ⟨h, _⟩ | ⟨_, h⟩
  · rw [hb] at h; cases h
  · exact h

/-- A row is told by the document's reader. -/
def RowedR {α : Type} (Row : World → Nat → Value → List α → Prop) (r : List α × St) (D B : Nat) (ao : Option Addr) (l0 : List UInt8) (c : Nat) (w : World) (e : Ending) (w' : World) : Prop :=
  ∃ v, e = .returned v ∧ Row w' w.heap.size v r.1 ∧ RfS w' D B ao l0 c r.2 ∧ Fr D w w'

theorem RfS.grown {w w' : World} {D B : Nat} {ao : Option Addr} {l0 : List UInt8} {c : Nat} {s : St} {row : Option Nat} (h : RfS w D B ao l0 c s) (g : w.grownBy w' row) (hr : ∀ k, row = some k → D < k) : RfS w' D B ao l0 c s :=
  h.keep (g.block D h.lt (fun e => by have := hr D e.symm; omega)) ⟨g.os, g.tape, g.output, g.size, fun k hk => g.block k (Nat.lt_of_lt_of_le hk h.lb) (fun e => by have := hr k e.symm; have := h.ld; omega)⟩

theorem cells_made' (w : World) (o : Obj) (cs : Array Value) (t : TypeId) (b : Nat) (hb : b = w.heap.size + 1) (j : Nat) (u : Value) (h : cs[j]? = some u) : ((w.alloc o).alloc (.cells cs t)).cell? ⟨b, j, none⟩ = some u := by
  rw [show b = (w.alloc o).heap.size by rw [hb]; simp]
  exact cells_made _ _ _ _ _ h

def valuesR (s : St) : List V3 × St := manyS valueR s

set_option maxRecDepth 100000 in
set_option maxHeartbeats 2000000 in
theorem rvalues_any (D B : Nat) (ao : Option Addr) (l0 : List UInt8) (c : Nat) (s : St) (w : World) (h : RfS w D B ao l0 c s) :
    Calls Tryd.prog 51 #[.pointer (some ⟨D, 0, none⟩)] w (RowedR RowV (valuesR s) D B ao l0 c w) := by
  obtain ⟨i0, hi, hz0, hz1, hz2⟩ := info_parts infoV
  have HC := Lib.hid (rcount_any D B ao l0 c s w h)
  have hle := countS_le s
  have HU := Lib.hid (under_start (f := valueR) h.ok)
  have hlt : D < w.heap.size := h.lt
  clear h
  unfold valuesR manyS
  generalize countS s = r at HC hle HU
  obtain ⟨n, s0⟩ := r
  simp only at HC hle HU ⊢
  obtain ⟨out, hout⟩ : ∃ out, out = rowS valueR n [] s0 := ⟨_, rfl⟩
  rw [← hout]
  have HOUT := Lib.hid hout
  clear hout
  go_enter Tryd.func51, Tryd.ntmps51
  go_wp2_with (go_at_call 96; refine (HC.out).mono ?_; rintro e w0 ⟨rfl, hr, hf⟩; refine Hid.out ?_)
  have HR0 := Lib.hid hr
  have HF0 := Lib.hid hf
  clear hr hf HC
  refine Lib.hid ?_
  go_wp2_with fail
  go_loopw [3, 4, 5] (fun v i x wr => ∃ (vv : Value) (m : Nat) (acc : List V3) (sj : St), acc.length + m ≤ n ∧ i = .int .i64 m ∧ vv = v ∧ Under valueR n s0 m acc sj ∧ RowV wr w.heap.size vv acc ∧ RfS wr D B ao l0 c sj ∧ Fr D w wr) (fun _ i _ _ => (intOf i).toNat)
  case atStart => exact ⟨_, n, [], s0, by simp, rfl, rfl, HU.out, RowV.nil _ _, HR0.out, HF0.out⟩
  case round =>
    obtain ⟨vv, m, acc, sj, hm, rfl, rfl, hun, hrow, hrd, hfr⟩ := hrel
    have HRow := Lib.hid hrow
    have HRd := Lib.hid hrd
    have HFr := Lib.hid hfr
    have HUn := Lib.hid hun
    have HM := Lib.hid hm
    obtain ⟨-, cq, fq⟩ := hrd.cells
    clear hrow hrd hfr hun HR0 HF0 HU hm
    obtain ⟨lj, bj⟩ := sj
    cases bj with
    | true =>
      cases m with
      | zero =>
        go_wp2
        go_ret
        refine ⟨.slice none 0 0, rfl, ?_⟩
        rw [HOUT.out, under_bad HUn.out rfl]
        exact ⟨RowV.nil _ _, HRd.out, HFr.out⟩
      | succ m =>
        have hpos : (0 : Int) < ((m + 1 : Nat) : Int) := by omega
        have hposd : decide ((0 : Int) < ((m + 1 : Nat) : Int)) = true := by simp
        go_wp2
        go_ret
        refine ⟨.slice none 0 0, rfl, ?_⟩
        rw [HOUT.out, under_bad HUn.out rfl]
        exact ⟨RowV.nil _ _, HRd.out, HFr.out⟩
    | false =>
      cases m with
      | zero =>
        go_wp2
        go_ret
        refine ⟨vv, rfl, ?_⟩
        rw [HOUT.out, under_end HUn.out rfl]
        exact ⟨HRow.out, HRd.out, HFr.out⟩
      | succ m =>
        have HUs := Lib.hid (under_step HUn.out rfl)
        have hmb : (m : Int) ≤ 65536 := by have := HM.out; omega
        have HV := Lib.hid (rvalue_any D B ao l0 c (lj, false) wr HRd.out)
        generalize valueR (lj, false) = r at HV HUs
        obtain ⟨x, s1⟩ := r
        simp only at HV HUs
        have hpos : (0 : Int) < ((m + 1 : Nat) : Int) := by omega
        have hposd : decide ((0 : Int) < ((m + 1 : Nat) : Int)) = true := by simp
        go_wp2_with (go_at_call 50; refine (HV.out).mono ?_; rintro e w1 ⟨rfl, hr, hf⟩; refine Hid.out ?_)
        have hown : w1.ownsRow w.heap.size 46 3 _ _ _ := (HRow.out.fr hf hlt)
        have HR1 := Lib.hid hr
        have HF1 := Lib.hid (HFr.out.trans hf)
        clear hr hf HV HFr cq fq hpos hposd
        have hs1 : w.heap.size ≤ w1.heap.size := HF1.out.size
        refine Lib.hid ?_
        unfold aggV
        go_wp2_with (at_builtin; refine wpList_append_own _ rfl _ _ 48 rfl w.heap.size 46 i0 (.agg #[.int .u8 0, .int .i64 0, .string ⟨#[]⟩]) 3 32 Tryd.underlying48 hi hz0 hz1 hz2 rfl (by decide) _ _ _ rfl ((hown.alloc _).alloc _) ⟨w1.heap.size + 1, 0, none⟩ 1 1 (cellsV [x]) rfl rfl (fun t u hu => by rw [Addr.add_lit, Nat.zero_add]; exact cells_made' _ _ _ _ _ rfl t u (by simpa [cellsV] using hu)) (cellsV_one _) (by have := HM.out; unfold maxLen; omega) (by have := HM.out; omega) (by simp; omega) ?_; intro v' w3 hown' hgrow' hnil'; refine Hid.out ?_)
        have HOwn := Lib.hid hown'
        have hgk : ∀ k, (vv.ownBlock = some k → w.heap.size ≤ k) := fun k hk => ((hown.lt) k hk).1
        have HF3 := Lib.hid (((HF1.out.alloc _).alloc _).grown hgrow' hgk)
        have HR3 := Lib.hid (((HR1.out.alloc _).alloc _).grown hgrow' (fun k hk => Nat.lt_of_lt_of_le hlt (hgk k hk)))
        clear hown' hgrow' hnil' hown HF1 HR1 HRow HRd hgk
        refine Lib.hid ?_
        go_wp2_with fail
        have R' : RowV w3 w.heap.size v' (acc ++ [x]) := by
          have h := HOwn.out
          rw [← cellsV_append] at h
          unfold RowV
          rw [List.length_append]
          exact h
        go_roundw
        case rel => exact ⟨v', m, acc ++ [x], s1, by have := HM.out; rw [List.length_append]; simp only [List.length_cons, List.length_nil]; omega, by go_num, rfl, HUs.out, R', HR3.out, HF3.out⟩
        case measure => simp [intOf]
end Go.Proofs.YtmocfielcllfmaaDoor
