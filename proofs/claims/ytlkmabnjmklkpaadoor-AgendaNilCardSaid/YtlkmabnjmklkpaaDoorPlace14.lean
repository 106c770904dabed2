/- The program's place: where a match waits, or would. -/
import Derived.Test.YtlkmabnjmklkpaaDoorSearch14
namespace Go.Proofs.YtlkmabnjmklkpaaDoor
open Go.RowKit

def posA (s : List Int) (ws : List MV) (m : TK) : Nat := ws.findIdx (fun p => !better14 s p.1 m)
def posB (s : List Int) (ws : List MV) (m : TK) : Bool := decide (∃ h : posA s ws m < ws.length, (ws[posA s ws m]).1 = m)
theorem at14_unique {s : List Int} {ws : List MV} {m : TK} {i j : Nat} {b c : Bool} (h : At14 s ws m i b) (g : At14 s ws m j c) : i = j ∧ b = c := by
  have e : i = j := by
    rcases Nat.lt_trichotomy i j with hlt | he | hgt
    · have h1 := h.hi i (by have := g.le; omega) (Nat.le_refl _)
      have h2 := g.lo i (by have := g.le; omega) hlt
      rw [h1] at h2
      cases h2
    · exact he
    · have h1 := g.hi j (by have := h.le; omega) (Nat.le_refl _)
      have h2 := h.lo j (by have := h.le; omega) hgt
      rw [h1] at h2
      cases h2
  subst e
  exact ⟨rfl, h.is.trans g.is.symm⟩
theorem at14_pos {s : List Int} {ws : List MV} {m : TK} (hr : Row14 s (ws.map Prod.fst)) : At14 s ws m (posA s ws m) (posB s ws m) where
  le := List.findIdx_le_length
  lo := fun k h hk => by
    have := List.not_of_lt_findIdx hk
    simpa using this
  hi := fun k h hk => by
    cases hc : better14 s (ws[k]).1 m with
    | false => rfl
    | true =>
      have hlt : posA s ws m < ws.length := by omega
      have h1 := row_lo hr hk h hc
      have h2 := List.findIdx_getElem (w := hlt)
      simp only [Bool.not_eq_true'] at h2
      exact absurd (h2.symm.trans h1) (by decide)
  is := rfl

set_option maxRecDepth 100000 in
set_option maxHeartbeats 4000000 in
theorem place_any (s : List Int) (lb mb : Nat) (so wo : Option Addr) (sc wc n : Nat) (ws : List MV) (m : MV) (w : World) (hlb : w.heap[lb]? = some (.cells #[.slice so s.length sc, .slice wo n wc, .map (some mb)] 57 (0, 0))) (hn : ws.length = n) (hn2 : n ≤ 1000000) (hs : SlG w.heap.size w so (icells s)) (hrow : SlG w.heap.size w wo (mcells ws)) (hok : ∀ p, p ∈ ws → Mt w.heap.size w p.1 p.2.1.1 p.2.2.1 ∧ p.1.2.length ≤ 1000000) (hsr : Row14 s (ws.map Prod.fst)) (hm : Mt w.heap.size w m.1 m.2.1.1 m.2.2.1) (hml : m.1.2.length ≤ 1000000) :
    Calls Tryd.prog 23 #[.pointer (some ⟨lb, 0, none⟩), mval m] w (fun e w' => e = .returned (.tuple #[.int .i64 (posA s ws m.1 : Nat), .bool (posB s ws m.1)]) ∧ Gr w w') := by
  have mixed : Tryd.prog.follows .mixedOrders = true := by kernel_rfl
  have HG0 := Lib.hid ((Gr.refl w).alloc (.cells #[.int .i64 m.1.1, .slice m.2.1.1 m.1.2.length m.2.1.2, .slice m.2.2.1 m.1.2.length m.2.2.2] 59))
  have HQ0 : Hid ((w.alloc (.cells #[.int .i64 m.1.1, .slice m.2.1.1 m.1.2.length m.2.1.2, .slice m.2.2.1 m.1.2.length m.2.2.2] 59)).heap[w.heap.size]? = some (.cells #[.int .i64 m.1.1, .slice m.2.1.1 m.1.2.length m.2.1.2, .slice m.2.2.1 m.1.2.length m.2.2.2] 59 (0, 0))) := heap_alloc_new w _
  have hf : ∀ nn os, _ := fun nn os => show (Sort.grow ((w.alloc (.cells #[.int .i64 m.1.1, .slice m.2.1.1 m.1.2.length m.2.1.2, .slice m.2.2.1 m.1.2.length m.2.2.2] 59)).drewN nn) os).heap[lb]? = some (.cells #[.slice so s.length sc, .slice wo n wc, .map (some mb)] 57 (0, 0)) ∧ (Sort.grow ((w.alloc (.cells #[.int .i64 m.1.1, .slice m.2.1.1 m.1.2.length m.2.1.2, .slice m.2.2.1 m.1.2.length m.2.2.2] 59)).drewN nn) os).heap[w.heap.size]? = some (.cells #[.int .i64 m.1.1, .slice m.2.1.1 m.1.2.length m.2.1.2, .slice m.2.2.1 m.1.2.length m.2.2.2] 59 (0, 0)) ∧ Calls Tryd.prog 34 #[.slice wo n wc, mval m, .func (.func 28) #[aggO so s.length sc] #[]] (Sort.grow ((w.alloc (.cells #[.int .i64 m.1.1, .slice m.2.1.1 m.1.2.length m.2.1.2, .slice m.2.2.1 m.1.2.length m.2.2.2] 59)).drewN nn) os) fun e w' => e = .returned (.tuple #[.int .i64 (posA s ws m.1 : Nat), .bool (posB s ws m.1)]) ∧ ∃ q os'', w' = Sort.grow ((Sort.grow ((w.alloc (.cells #[.int .i64 m.1.1, .slice m.2.1.1 m.1.2.length m.2.1.2, .slice m.2.2.1 m.1.2.length m.2.2.2] 59)).drewN nn) os).drewN q) os'' from by
    have hg : Gr (w.alloc (.cells #[.int .i64 m.1.1, .slice m.2.1.1 m.1.2.length m.2.1.2, .slice m.2.2.1 m.1.2.length m.2.2.2] 59)) (Sort.grow ((w.alloc (.cells #[.int .i64 m.1.1, .slice m.2.1.1 m.1.2.length m.2.1.2, .slice m.2.2.1 m.1.2.length m.2.2.2] 59)).drewN nn) os) := ⟨nn, os, rfl⟩
    have hb := (HG0.out.trans hg).below
    refine ⟨(hb.block _ (lt_of_heap hlb)).trans hlb, (hg.below.block _ (lt_of_heap HQ0.out)).trans HQ0.out, ?_⟩
    refine (search_any s so wo sc wc n ws m _ hn hn2 (hs.up hb hb.size) (hrow.up hb hb.size) (fun p hp => ⟨(hok p hp).1.up hb hb.size, (hok p hp).2⟩) hsr (hm.up hb hb.size) hml).mono ?_
    rintro e w' ⟨i, b, rfl, ha, hg2⟩
    obtain ⟨rfl, rfl⟩ := at14_unique ha (at14_pos hsr)
    exact ⟨rfl, hg2⟩
  generalize posA s ws m.1 = pa at hf ⊢
  generalize posB s ws m.1 = pb at hf ⊢
  clear hlb hn hs hrow hok hsr hm hml
  obtain ⟨⟨k, ids⟩, ⟨a1, c1⟩, ⟨a2, c2⟩⟩ := m
  simp only at hf HG0 HQ0 ⊢
  go_enter Tryd.func23, Tryd.ntmps23
  go_wp2_with fail
  generalize (w.alloc (.cells #[.int .i64 k, .slice a1 ids.length c1, .slice a2 ids.length c2] 59)) = W0 at hf HG0 HQ0 ⊢
  have l0 : ∀ nn os, (Sort.grow (W0.drewN nn) os).cell? ⟨lb, 0, none⟩ = _ := fun nn os => Lib.cell_of_heap (hf nn os).1 0
  have l1 : ∀ nn os, (Sort.grow (W0.drewN nn) os).cell? ⟨lb, 1, none⟩ = _ := fun nn os => Lib.cell_of_heap (hf nn os).1 1
  have b0 : ∀ nn os, (Sort.grow (W0.drewN nn) os).cell? ⟨w.heap.size, 0, none⟩ = _ := fun nn os => Lib.cell_of_heap (hf nn os).2.1 0
  have b1 : ∀ nn os, (Sort.grow (W0.drewN nn) os).cell? ⟨w.heap.size, 1, none⟩ = _ := fun nn os => Lib.cell_of_heap (hf nn os).2.1 1
  have b2 : ∀ nn os, (Sort.grow (W0.drewN nn) os).cell? ⟨w.heap.size, 2, none⟩ = _ := fun nn os => Lib.cell_of_heap (hf nn os).2.1 2
  have hcg := fun nn os => (hf nn os).2.2
  clear hf HQ0
  simp only [List.getElem?_toArray, List.getElem?_cons_zero, List.getElem?_cons_succ] at l0 l1 b0 b1 b2
  go_quiet_grown (first | (go_at_call 34; refine Calls.grown_of (hcg _ _)))
  have HG : Hid (Gr w (Sort.grow (W0.drewN nq) osq)) := HG0.out.trans ⟨nq, osq, rfl⟩
  clear l0 l1 b0 b1 b2 hcg HG0
  generalize Sort.grow (W0.drewN nq) osq = wz at HG ⊢
  go_wp2
  go_ret2
  exact ⟨rfl, HG.out⟩
end Go.Proofs.YtlkmabnjmklkpaaDoor
