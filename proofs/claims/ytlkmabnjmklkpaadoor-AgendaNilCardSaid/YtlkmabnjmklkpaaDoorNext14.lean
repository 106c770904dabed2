/- The program's Next. -/
import Derived.Test.YtlkmabnjmklkpaaDoorProgN14
namespace Go.Proofs.YtlkmabnjmklkpaaDoor
open Go.RowKit

theorem fit_of {s : List Int} {ws : List MV} {l : List TK} {sp : List Bool} (hs : Row14 s (ws.map Prod.fst)) (ho : (ws.map Prod.fst).Perm (unspent l sp)) {p : MV} {r : List MV} (e : ws = p :: r) : best14 s (unspent l sp) = some p.1 := by
  subst e
  exact row_best s p.1 (r.map Prod.fst) _ hs ho

set_option maxRecDepth 100000 in
set_option maxHeartbeats 4000000 in
theorem next_tells : NextTells PAg := by
  intro s l sp db bs w _ hl hP
  obtain ⟨lb, so, sc, wo, wc, mb, ws, F, h⟩ := hP
  have HP := Lib.hid h
  clear h
  have c0 : ∀ o, (w.alloc o).cell? ⟨db, 0, none⟩ = some (.pointer (some ⟨lb, 0, none⟩)) := fun o => ((below_own o).cell (p := ⟨db, 0, none⟩) (lt_of_heap HP.out.hdb)).trans (Lib.cell_of_heap HP.out.hdb 0)
  have c1 : ∀ o, (w.alloc o).cell? ⟨lb, 1, none⟩ = some (.slice wo ws.length wc) := fun o => ((below_own o).cell (p := ⟨lb, 1, none⟩) (lt_of_heap HP.out.hlb)).trans (Lib.cell_of_heap HP.out.hlb 1)
  have KM := Lib.hid (made_any db lb (w.alloc (.cells #[.int .i64 0, .slice none 0 0] 24)) (c0 _))
  have HB0 := Lib.hid (below_own (w := w) (.cells #[.int .i64 0, .slice none 0 0] 24))
  have HQ0 : Hid ((w.alloc (.cells #[.int .i64 0, .slice none 0 0] 24)).heap[w.heap.size]? = some (.cells #[.int .i64 0, .slice none 0 0] 24 (0, 0))) := heap_alloc_new w _
  cases hws : ws with
  | nil =>
    subst hws
    have HE : Hid (best14 s (unspent l sp) = none) := by
      have := HP.out.opn
      rw [List.map_nil] at this
      rw [Hid, (List.perm_nil.1 this.symm : unspent l sp = [])]
      rfl
    clear HP HQ0
    simp only [List.length_nil] at c1
    go_enter Tryd.func6, Tryd.ntmps6
    go_wp2_with (go_at_call 18; refine KM.out.mono ?_; rintro e w1 ⟨rfl, rfl⟩)
    refine bodyPost_ret (v := .tuple #[.agg #[.int .i64 0, .slice none 0 0], .bool false]) (by simp [results, Tryd.results6, go_sem]) rfl ⟨HB0.out, Or.inl ⟨HE.out, rfl⟩⟩
  | cons p r =>
    have HE : Hid (best14 s (unspent l sp) = some p.1) := fit_of HP.out.srt HP.out.opn hws
    have hpm := HP.out.wok p (by rw [hws]; simp)
    obtain ⟨g, o, cur, rfl, hbg, hg, hc⟩ := HP.out.row.2.2 (by rw [hws]; simp)
    have HCg : Hid (∀ j u, (mcells ws)[j]? = some u → (w.alloc (.cells #[.int .i64 0, .slice none 0 0] 24)).cell? ⟨g, o + j, none⟩ = some u) := fun j u hu => ((below_own _).cell (p := ⟨g, o + j, none⟩) (lt_of_heap hg)).trans ((Lib.cell_of_heap hg (o + j)).trans (hc j u hu))
    have KT := Lib.hid (tell_any p (w.alloc (.cells #[.int .i64 0, .slice none 0 0] 24)) (hpm.1.ids.slG.up HB0.out HB0.out.size) hpm.1.nil hpm.1.cap hpm.2.len)
    have hlen : ws.length = r.length + 1 := by rw [hws]; rfl
    rw [hws] at HCg
    have m0 := HCg.out 0 _ rfl
    have m1 := HCg.out 1 _ rfl
    have m2 := HCg.out 2 _ rfl
    rw [Nat.add_zero] at m0
    have hne : ((ws.length : Int) == 0) = false := by rw [hlen]; simp; omega
    have hne2 : decide ((ws.length : Int) = 0) = false := by rw [hlen]; simp; omega
    have hlt0 : (0 : Int) < (ws.length : Int) := by rw [hlen]; omega
    have hlt1 : 0 < ws.length := by omega
    clear HP HCg hpm hg hc hws hlen
    generalize ws.length = n at *
    go_enter Tryd.func6, Tryd.ntmps6
    go_wp2_with (go_at_call 18; refine KM.out.mono ?_; rintro e w1 ⟨rfl, rfl⟩; refine Hid.out ?_)
    refine Lib.hid ?_
    go_wp2_with (go_at_call 19; refine KT.out.mono ?_; rintro e w1 ⟨v, rfl, ho, hb⟩; obtain ⟨av, cv, rfl⟩ := owns_slice ho; have HO := Lib.hid ho; have HB := Lib.hid hb; have HQ := Lib.hid ((hb.block _ (lt_of_heap HQ0.out)).trans HQ0.out); have d0 : w1.cell? ⟨w.heap.size, 0, none⟩ = some (.int .i64 0) := Lib.cell_of_heap HQ.out 0; have d1 : w1.cell? ⟨w.heap.size, 1, none⟩ = some (.slice none 0 0) := Lib.cell_of_heap HQ.out 1; have f0 : w1.frozen? ⟨w.heap.size, 0, none⟩ = false := Lib.frozen_of_heap HQ.out 0; have f1 : w1.frozen? ⟨w.heap.size, 1, none⟩ = false := Lib.frozen_of_heap HQ.out 1; clear ho hb)
    have HFin : Hid (∀ u1 u2, Below w.heap.size w ((w1.setCell ⟨w.heap.size, 0, none⟩ u1).setCell ⟨w.heap.size, 1, none⟩ u2) ∧ SlG ((w1.setCell ⟨w.heap.size, 0, none⟩ u1).setCell ⟨w.heap.size, 1, none⟩ u2).heap.size ((w1.setCell ⟨w.heap.size, 0, none⟩ u1).setCell ⟨w.heap.size, 1, none⟩ u2) av (icells p.1.2) ∧ (av = none → cv = 0) ∧ p.1.2.length ≤ cv ∧ ∀ a, av = some a → w.heap.size ≤ a.block ∧ a.block < ((w1.setCell ⟨w.heap.size, 0, none⟩ u1).setCell ⟨w.heap.size, 1, none⟩ u2).heap.size) := fun u1 u2 => by
      have hg := Lib.grownBy_trans (Lib.grownBy_setCell w1 w.heap.size 0 u1) (Lib.grownBy_setCell _ w.heap.size 1 u2)
      have hB : Below w.heap.size w w1 := HB0.out.trans (HB.out.mono HB0.out.size)
      have hs : (w.alloc (.cells #[.int .i64 0, .slice none 0 0] 24)).heap.size = w.heap.size + 1 := by simp
      have ho := HO.out
      rw [hs] at ho
      have hO := ho.kept hg (Or.inr (fun e => by have := (ho.lt _ e).1; omega))
      refine ⟨hB.grown hg hB.size (fun q hq => by obtain rfl := Option.some.inj hq; exact Nat.le_refl _), owns_slG hO, (owns_cap hO).2, (owns_cap hO).1, fun a ha => ?_⟩
      subst ha
      have := hO.lt a.block rfl
      exact ⟨by omega, this.2⟩
    clear HO HB HQ
    go_wp2_with fail
    refine bodyPost_ret (v := .tuple #[.agg #[.int .i64 p.1.1, .slice av p.1.2.length cv], .bool true]) (by simp [results, Tryd.results6, go_sem, d0, d1]) rfl ?_
    obtain ⟨x1, x2, x3, x4, x5⟩ := HFin.out (.int .i64 p.1.1) (.slice av p.1.2.length cv)
    exact ⟨x1, Or.inr ⟨p.1, HE.out, av, cv, rfl, x2, x3, x4, x5⟩⟩
end Go.Proofs.YtlkmabnjmklkpaaDoor
