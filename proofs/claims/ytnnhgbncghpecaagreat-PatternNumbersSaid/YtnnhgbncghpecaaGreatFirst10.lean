/- The first fact that fits: the closure that is asked of each. -/
import Derived.Test.YtnnhgbncghpecaaGreatThrough10
import Derived.Test.YtnnhgbncghpecaaGreatMade10
import Derived.Test.YtnnhgbncghpecaaGreatTree10
namespace Go.Proofs.YtnnhgbncghpecaaGreat
open Go.RowKit

/-- A fact. -/
structure F10 where
  id : Int
  type : Int
  args : List V3
instance : Inhabited F10 := ⟨0, 0, []⟩
abbrev aggF (f : F10) (ao : Option Addr) (c : Nat) : Value := .agg #[.int .i64 f.id, .int .i64 f.type, .slice ao f.args.length c]
/-- A condition: what it tests is an expression. -/
structure C10 where
  kind : Int
  type : Int
  args : List A10
  test : X
abbrev cellsC (c : C10) (ao : Option Addr) (ac : Nat) (xo : Option Addr) (xc : Nat) : Array Value := #[.int .u8 c.kind, .int .i64 c.type, .slice ao c.args.length ac, .int .u8 c.test.kind, .int .u8 c.test.vk, .int .i64 c.test.vn, .string c.test.vs, .int .i64 c.test.var, .int .u8 c.test.op, .slice xo c.test.kids.length xc]
abbrev aggC (c : C10) (ao : Option Addr) (ac : Nat) (xo : Option Addr) (xc : Nat) : Value := .agg (cellsC c ao ac xo xc)
/-- Whether a fact is what a condition asks for, but for its kind and the env's being well made. -/
def hit10 (ct : Int) (al : List A10) (e : E10) (f : F10) : Option E10 := if (decide (f.type = ct) && decide (f.args.length = al.length)) = true then fitsP (al.zip f.args) e else none
def first10 (ct : Int) (al : List A10) (e : E10) : List F10 → Option E10
  | [] => none
  | f :: l => match hit10 ct al e f with | some e' => some e' | none => first10 ct al e l
theorem first10_hit {ct : Int} {al : List A10} {e e' : E10} : ∀ {l : List F10} {j : Nat}, (∀ k, k < j → (h : k < l.length) → hit10 ct al e l[k] = none) → (h : j < l.length) → hit10 ct al e l[j] = some e' → first10 ct al e l = some e'
  | f :: l, 0, _, _, h1 => by rw [first10]; simp only [List.getElem_cons_zero] at h1; rw [h1]
  | f :: l, j + 1, h0, h, h1 => by
    rw [first10]
    have q := h0 0 (Nat.succ_pos _) (by simp)
    simp only [List.getElem_cons_zero] at q
    rw [q]
    exact first10_hit (fun k hk hl => by have := h0 (k + 1) (Nat.succ_lt_succ hk) (by rw [List.length_cons]; exact Nat.succ_lt_succ hl); simpa using this) (by simpa using h) (by simpa using h1)
theorem first10_none {ct : Int} {al : List A10} {e : E10} : ∀ {l : List F10}, (∀ k, (h : k < l.length) → hit10 ct al e l[k] = none) → first10 ct al e l = none
  | [], _ => rfl
  | f :: l, h => by
    rw [first10]
    have q := h 0 (by simp)
    simp only [List.getElem_cons_zero] at q
    rw [q]
    exact first10_none fun k hk => by have := h (k + 1) (by rw [List.length_cons]; exact Nat.succ_lt_succ hk); simpa using this

section
variable {B : Nat} {w : World} {nb n : Nat} {e0 e : E10} {ho : Option Addr} {hc : Nat} {vo : Option Addr} {vc : Nat} {bd : Bool}
/-- What the closure tells. -/
def TestP (B nb n : Nat) (e0 : E10) (ho : Option Addr) (hc : Nat) (vo : Option Addr) (vc : Nat) (x : Option E10) (w : World) (r : Ending) (w' : World) : Prop :=
  ∃ bd', r = .returned (.bool x.isSome) ∧ M10 B w' nb n e0 (x.getD e0) ho hc vo vc bd' ∧ MFr B nb w w'
set_option maxRecDepth 100000 in
set_option maxHeartbeats 4000000 in
theorem test_any (h : M10 B w nb n e0 e0 ho hc vo vc bd) (hB : B ≤ w.heap.size) (cb : Nat) (c : C10) (ao : Option Addr) (ac : Nat) (xo : Option Addr) (xc : Nat) (hcb : w.heap[cb]? = some (.cells (cellsC c ao ac xo xc) 33 (0, 0))) (ha : Sl10 B w c.args.length ao ac (cellsA c.args))
    (f : F10) (fo : Option Addr) (fc : Nat) (hf : Sl10 B w f.args.length fo fc (cellsV f.args)) :
    Calls Tryz.prog 44 #[aggF f fo fc, .pointer (some ⟨cb, 0, none⟩), .pointer (some ⟨nb, 0, none⟩)] w (TestP B nb n e0 ho hc vo vc (hit10 c.type c.args e0 f) w) := by
  have y := fun j => Lib.cell_of_heap hcb j
  have hlt := lt_of_heap hcb
  have hbx : Below w.heap.size w (w.alloc (.cells #[.int .i64 f.id, .int .i64 f.type, .slice fo f.args.length fc] 36)) := below_own _
  have HM := Lib.hid (h.old hbx)
  have HF := Lib.hid (MFr.of_below (nb := nb) hbx hB)
  have hm : c.args.length ≤ 9223372036854775807 := by have := ha.cap; have := ha.top; unfold maxLen at this; omega
  have hm2 : f.args.length ≤ 9223372036854775807 := by have := hf.cap; have := hf.top; unfold maxLen at this; omega
  unfold TestP
  by_cases h1 : f.type = c.type
  · by_cases h2 : f.args.length = c.args.length
    · have HT := Lib.hid (through_any HM.out (Nat.le_trans hB hbx.size) c.args ao ac (ha.up (hbx.mono hB) (Nat.le_refl _)) f.args fo fc (hf.up (hbx.mono hB) (Nat.le_refl _)) h2)
      unfold ThroughP at HT
      have hx : hit10 c.type c.args e0 f = fitsP (c.args.zip f.args) e0 := by unfold hit10; rw [if_pos (by simp [h1, h2])]
      rw [hx]
      obtain ⟨fi, ft, fa⟩ := f
      simp only at h1 h2 HT hm2
      subst h1
      unfold aggF
      simp only at HM HF ⊢
      rw [h2] at HT HM HF ⊢
      clear hx h ha hf hcb hbx h2 hm2
      go_enter Tryz.func44, Tryz.ntmps44
      go_wp2_with (go_at_call 45; go_must (refine (HT.out).mono ?_; rintro r w1 ⟨bd', rfl, hm1, hf1⟩; have HM1 := Lib.hid hm1; have HF1 := Lib.hid (HF.out.trans hf1); clear hm1 hf1))
      go_ret
      exact ⟨_, rfl, HM1.out, HF1.out⟩
    · have hx : hit10 c.type c.args e0 f = none := by unfold hit10; rw [if_neg (by simp [h2])]
      have hne : ((f.args.length : Int) == (c.args.length : Int)) = false := by simp; omega
      have hq : (f.type == c.type) = true := by simp [h1]
      rw [hx]
      clear hx h ha hf hcb hbx h1 h2
      go_enter Tryz.func44, Tryz.ntmps44
      go_wp2
      go_ret
      exact ⟨_, rfl, HM.out, HF.out⟩
  · have hx : hit10 c.type c.args e0 f = none := by unfold hit10; rw [if_neg (by simp [h1])]
    have hq : (f.type == c.type) = false := by simp [h1]
    rw [hx]
    clear hx h ha hf hcb hbx h1
    go_enter Tryz.func44, Tryz.ntmps44
    go_wp2
    go_ret
    exact ⟨_, rfl, HM.out, HF.out⟩
end
end Go.Proofs.YtnnhgbncghpecaaGreat
