/- pattern.Match and pattern.Some: what they tell, wherever their arguments lie. -/
import Derived.Test.YtnnhgbncghpecaaGreatOwn10
namespace Go.Proofs.YtnnhgbncghpecaaGreat
open Go.RowKit

theorem fit1_short {a : A10} {v : V3} {e e' : E10} (h : fit1 a v e = some e') (he : Short10 e.2) (hv : v.2.2.size ≤ 140737488355328) : Short10 e'.2 := by
  rcases fit1_some h with ⟨-, rfl⟩ | ⟨-, k, -, -, rfl⟩ | ⟨-, rfl, -⟩ | ⟨-, rfl, -⟩
  · exact he
  · intro x hx
    rcases List.mem_or_eq_of_mem_set hx with h | rfl
    · exact he x h
    · exact hv
  · exact he
  · exact he
theorem fitsP_short {l : List (A10 × V3)} : ∀ {e e' : E10}, fitsP l e = some e' → Short10 e.2 → (∀ p, p ∈ l → p.2.2.2.size ≤ 140737488355328) → Short10 e'.2 := by
  induction l with
  | nil => intro e e' h he _; exact Option.some.inj h ▸ he
  | cons p l ih =>
    intro e e' h he hl
    rw [fitsP] at h
    split at h
    · rename_i e1 h1
      exact ih h (fit1_short h1 he (hl p (by simp))) (fun q hq => hl q (List.mem_cons_of_mem _ hq))
    · cases h
theorem hit10_short {ct : Int} {al : List A10} {e e' : E10} {f : F10} (h : hit10 ct al e f = some e') (he : Short10 e.2) (hf : Short10 f.args) : Short10 e'.2 := by
  unfold hit10 at h
  split at h
  · exact fitsP_short h he fun p hp => hf _ (List.of_mem_zip hp).2
  · cases h
theorem firstB_one {c : C10} {f : F10} {e e' : E10} (h : firstB c [f] e = some e') : madeP e = true ∧ hit10 c.type c.args e f = some e' := by
  unfold firstB at h
  split at h
  · rename_i h1
    rw [Bool.and_eq_true] at h1
    rw [first10] at h
    split at h
    · rename_i e2 h2
      obtain rfl := Option.some.inj h
      exact ⟨h1.2, h2⟩
    · cases h
  · cases h
/-- What Match tells. -/
def MatchP (x : Option E10) (w : World) (r : Ending) (w' : World) : Prop :=
  Below w.heap.size w w' ∧ ((x = none ∧ r = .returned (.tuple #[.agg #[.slice none 0 0, .slice none 0 0], .bool false])) ∨ ∃ e' h1 c1 h2 c2, x = some e' ∧ r = .returned (.tuple #[aggE e' h1 c1 h2 c2, .bool true]) ∧ Own10 w.heap.size w' e' (.slice h1 e'.1.length c1) (.slice h2 e'.2.length c2))
theorem heap_four {w : World} (o1 o2 o3 o4 : Obj) : ((((w.alloc o1).alloc o2).alloc o3).alloc o4).heap[w.heap.size]? = some o1 ∧ ((((w.alloc o1).alloc o2).alloc o3).alloc o4).heap[w.heap.size + 1]? = some o2 ∧ ((((w.alloc o1).alloc o2).alloc o3).alloc o4).heap[w.heap.size + 2]? = some o3 ∧ ((((w.alloc o1).alloc o2).alloc o3).alloc o4).heap[w.heap.size + 3]? = some o4 := by
  obtain ⟨h1, h2, h3⟩ := heap_three (w := w) o1 o2 o3
  refine ⟨alloc_keep h1 _, alloc_keep h2 _, alloc_keep h3 _, ?_⟩
  have := heap_alloc_new (((w.alloc o1).alloc o2).alloc o3) o4
  simpa using this
/-- A row of one fact. -/
theorem facts_one {B : Nat} {w : World} {f : F10} {fo : Option Addr} {fc g : Nat} (hs : Sl10 B w f.args.length fo fc (cellsV f.args)) (hg : w.heap[g]? = some (.cells #[.int .i64 f.id, .int .i64 f.type, .slice fo f.args.length fc] 36 (0, 0))) (hB : g < B) : Facts10 B w [f] (some ⟨g, 0, none⟩) 1 :=
  ⟨⟨[(f, .slice fo f.args.length fc)], rfl, fun _ => ⟨g, 0, rfl, hB, fun j u hu => by
    rw [Nat.zero_add, Lib.cell_of_heap hg j, ← Array.getElem?_toList]
    exact hu⟩, fun p hp => by rw [List.mem_singleton.1 hp]; exact ⟨fo, fc, rfl, hs⟩⟩, (fun h => by cases h), Nat.le_refl _, by unfold maxLen; omega⟩
/-- Results: an env that stands in a cell, and a truth. -/
theorem env_end2 {F : Func} {Q : Ending → World → Prop} {a : Act} {W : World} {g slot es : Nat} {cs : Array Value} {v0 v1 err : Value} (hr : F.results = #[ResultVar.cell slot 44, ResultVar.tmp es]) (hp : a.tmps[slot]?.getD undef = .pointer (some ⟨g, 0, none⟩)) (he : a.tmps[es]?.getD undef = err) (hd : a.defers = []) (h : W.heap[g]? = some (.cells cs 44 (0, 0))) (hs : cs.size = 2)
    (hQ : ∀ W3, W.grownBy W3 (some g) → Q (.returned (.tuple #[.agg #[v0, v1], err])) W3) :
    bodyPost Tryz.prog F Q .ret a ((W.setCell ⟨g, 0, none⟩ v0).setCell ⟨g, 1, none⟩ v1) := by
  obtain ⟨h3, g3⟩ := two_set v0 v1 h hs
  generalize ((W.setCell ⟨g, 0, none⟩ v0).setCell ⟨g, 1, none⟩ v1) = W3 at h3 g3 ⊢
  have d0 := Lib.cell_of_heap h3 0
  have d1 := Lib.cell_of_heap h3 1
  exact bodyPost_ret (v := .tuple #[.agg #[v0, v1], err]) (by simp [results, hr, hp, he, go_sem, d0, d1]) hd (hQ W3 g3)

set_option maxRecDepth 100000 in
set_option maxHeartbeats 4000000 in
theorem some10_any (c : C10) (ao : Option Addr) (ac : Nat) (xo : Option Addr) (xc : Nat) (e : E10) (ho : Option Addr) (hc : Nat) (vo : Option Addr) (vc : Nat) (fl : List F10) (fo : Option Addr) (fc : Nat) (w : World)
    (ha : Sl10 w.heap.size w c.args.length ao ac (cellsA c.args)) (h : Env10 w.heap.size w e ho hc vo vc) (hf : Facts10 w.heap.size w fl fo fc) (hn : e.1.length ≤ 100000) :
    Calls Tryz.prog 36 #[aggC c ao ac xo xc, aggE e ho hc vo vc, .slice fo fl.length fc] w fun r w' => r = .returned (.bool (firstB c fl e).isSome) ∧ Below w.heap.size w w' := by
  have hb : Below w.heap.size w ((w.alloc (.cells (cellsC c ao ac xo xc) 33)).alloc (.cells #[.slice ho e.1.length hc, .slice vo e.2.length vc] 44)) := below_new (below_own _) _
  have HF := Lib.hid (first_any c ao ac xo xc e ho hc vo vc fl fo fc _ (ha.up hb hb.size) (h.up hb hb.size) (hf.up hb hb.size) hn)
  have HB := Lib.hid hb
  unfold FirstP aggE at HF
  generalize firstB c fl e = x at *
  clear ha h hf hb
  go_enter Tryz.func36, Tryz.ntmps36
  go_wp2_with (go_at_call 26; go_must (refine (HF.out).mono ?_; rintro r w1 ⟨a1, n1, c1, a2, n2, c2, a3, n3, c3, a4, n4, c4, bd, rfl, -, hb1⟩; have HB1 := Lib.hid (HB.out.trans (hb1.mono HB.out.size)); clear hb1))
  go_ret
  exact ⟨rfl, below_new HB1.out _⟩
end Go.Proofs.YtnnhgbncghpecaaGreat
