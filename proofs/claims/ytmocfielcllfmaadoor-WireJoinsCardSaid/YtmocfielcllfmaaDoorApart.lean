/- append to a row of one's own: its block stays, or is new; rows of slices that were lent. -/
import Derived.Test.YtmocfielcllfmaaDoorLentB
import Derived.ArgAppend
import Derived.Laws.AppendOwnNone
namespace Go.Proofs.YtmocfielcllfmaaDoor
open Go.RowKit

/-- append to a row of one's own, wherever the source lies: the row's block stays, or is new. -/
theorem wpList_append_apart {P : Program} (w : World) {ops : Array Oper} {rest : List Oper} {o : Oper} {a : Act} {Q : Exit → Act → World → Prop}
    (hg : o.guard = none) (s x : Operand) (t : TypeId) (hop : o.op = Op.call { callee := Callee.builtin Builtin.append, args := #[s, x], argTypes := #[t, t] })
    (base : Nat) (e : TypeId) (i : TypeInfo) (z : Value) (size bytes : Nat) (ht : P.underlying t = some (.slice e)) (hi : P.info? e = some i) (hz : i.zero = some z) (hsize : i.size = size) (hby : i.bytes = bytes) (hzs : z.cells.size = size) (hsz : 0 < size)
    (v : Value) (n : Nat) (xs : List Value) (hs : a.eval s = v) (hown : w.ownsRow base e size v n xs) (ao : Option Addr) (m c : Nat) (news : List Value) (hx : a.eval x = .slice ao m c) (hl : news.length = m * size)
    (hnone : ao = none → m = 0 ∧ c = 0) (hnews : ∀ ad, ao = some ad → ∀ j u, news[j]? = some u → w.cell? (ad.add j) = some u) (h1 : ∀ u ∈ news, u.oneCell' = true)
    (h63 : n + m ≤ maxLen) (hbytes : (n + m) * bytes ≤ 140737488355328) (hbase : base ≤ w.heap.size)
    (hK : ∀ v' w', w'.ownsRow base e size v' (n + m) (xs ++ news) → w.grownBy w' v.ownBlock → (v'.ownBlock = v.ownBlock ∨ ∀ k, v'.ownBlock = some k → w.heap.size ≤ k) → wpList P ops Q rest (a.put o.dst v') w') :
    wpList P ops Q (o :: rest) a w := by
  cases ao with
  | none =>
    obtain ⟨rfl, rfl⟩ := hnone rfl
    have hn : news = [] := List.eq_nil_of_length_eq_zero (by simpa using hl)
    subst hn
    exact wpList_append_own_none hg s x t hop base e i size ht hi v n xs hs hown hx (hK v w (by simpa using hown) (World.grownBy.refl _ _) (Or.inl rfl))
  | some ad =>
    have hown' := hown
    rcases hown.2 with ⟨rfl, rfl⟩ | ⟨g, cap, cur, rfl, hb, hh, hnc, hm, hcs, htk⟩
    · by_cases hm0 : m = 0
      · refine wpList_append_own w hg s x t hop base e i z size bytes ht hi hz hsize hby hzs hsz (.slice none 0 0) 0 xs hs hown' ad m c news hx hl (hnews ad rfl) h1 h63 hbytes hbase fun v' w' h2 h3 h4 => hK v' w' h2 h3 (Or.inl ?_)
        rw [h4.2 ⟨rfl, hm0⟩]
      · obtain rfl : xs = [] := List.eq_nil_of_length_eq_zero (by have := hown'.1; omega)
        refine wpList_append_grows w hg s x t hop e i z size bytes ht hi hz hsize hby hzs hsz none 0 0 [] hs (fun _ => ⟨rfl, rfl⟩) (by simp) (fun b hb => by cases hb) ad m c news hx hl (hnews ad rfl) h1 (by omega) h63 hbytes fun v' w' h2 h3 => hK v' w' (owns_mono h2 hbase) h3 (Or.inr fun k hk => (h2.lt k hk).1)
    · by_cases hfit : n + m ≤ cap
      · exact wpList_append_fits w hg s x t hop base e i size ht hi hsize g n cap xs hs hown' ad m c news hx hl (hnews ad rfl) h1 hfit fun w' h2 h3 => hK _ w' h2 h3 (Or.inl rfl)
      · refine wpList_append_grows w hg s x t hop e i z size bytes ht hi hz hsize hby hzs hsz (some ⟨g, 0, none⟩) n cap xs hs (fun h => by cases h) hown'.1 (fun b hb => by obtain rfl := Option.some.inj hb; exact hown'.cells (g := g) rfl) ad m c news hx hl (hnews ad rfl) h1 (by omega) h63 hbytes fun v' w' h2 h3 => hK v' w' (owns_mono h2 hbase) ⟨h3.os, h3.tape, h3.output, h3.size, fun k hk _ => h3.block k hk (by simp)⟩ (Or.inr fun k hk => (h2.lt k hk).1)

/-- A row of parts, nil ones among them. -/
def SlP (B : Nat) (w : World) (ao : Option Addr) (ls : List (List UInt8)) : Prop :=
  0 < ls.length → ∃ sb off, ao = some ⟨sb, off, none⟩ ∧ sb < B ∧ ∀ j, (h : j < ls.length) → ∃ ao' c', w.cell? ⟨sb, off + j, none⟩ = some (.slice ao' (ls[j]).length c') ∧ SlG B w ao' (bcells ls[j]) ∧ (ao' = none → c' = 0)
theorem SlP.below {B : Nat} {w w' : World} {ao : Option Addr} {ls : List (List UInt8)} (h : SlP B w ao ls) (b : Below B w w') : SlP B w' ao ls := fun hl => by
  obtain ⟨sb, off, e, lt, hc⟩ := h hl
  refine ⟨sb, off, e, lt, fun j hj => ?_⟩
  obtain ⟨ao', c', h1, h2, h3⟩ := hc j hj
  exact ⟨ao', c', (b.cell (p := ⟨sb, off + j, none⟩) lt).trans h1, h2.below b, h3⟩

/-- The slices of what was lent. -/
def inC (ps : List (Nat × List UInt8)) : List Value := ps.map fun p => .slice (some ⟨p.1, 0, none⟩) p.2.length (p.2.length + 12)
theorem inC_one (ps : List (Nat × List UInt8)) : ∀ u ∈ inC ps, u.oneCell' = true := fun u hu => by
  simp only [inC, List.mem_map] at hu
  obtain ⟨p, _, rfl⟩ := hu
  rfl
theorem infoS : (Tryd.prog.info? 23).map (fun i => (i.zero, i.size, i.bytes)) = some (some (.slice none 0 0), 1, 24) := by kernel_rfl

/-- Lent rows, apart from each other and from the block of v. -/
structure Lents (w : World) (base : Nat) (v : Value) (ps : List (Nat × List UInt8)) : Prop where
  at_ : ∀ p, p ∈ ps → LentAt w p.1 p.2 ∧ base ≤ p.1 ∧ v.ownBlock ≠ some p.1
  apart : (ps.map Prod.fst).Nodup

theorem Lents.below {w w' : World} {base : Nat} {v : Value} {ps : List (Nat × List UInt8)} (h : Lents w base v ps) (b : Below w.heap.size w w') : Lents w' base v ps :=
  ⟨fun p hp => by
    obtain ⟨h1, h2, h3⟩ := h.at_ p hp
    exact ⟨h1.below b, h2, h3⟩, h.apart⟩
/-- Behind an append to another row of slices. -/
theorem Lents.far {w w' : World} {base : Nat} {v : Value} {ps : List (Nat × List UInt8)} {row : Option Nat} (h : Lents w base v ps) (g : w.grownBy w' row) (hr : ∀ k, row = some k → ∃ cs fz, w.heap[k]? = some (.cells cs 23 fz)) : Lents w' base v ps :=
  ⟨fun p hp => by
    obtain ⟨h1, h2, h3⟩ := h.at_ p hp
    refine ⟨h1.keep (g.block p.1 h1.size (fun e => ?_)), h2, h3⟩
    obtain ⟨cs, fz, hk⟩ := hr p.1 e.symm
    obtain ⟨cur, hc, _⟩ := h1
    rw [hk] at hc
    injection hc with hc
    injection hc with _ ht _
    exact absurd ht (by decide), h.apart⟩
/-- Behind an append to v's own row. -/
theorem Lents.own {w w' : World} {base : Nat} {v v' : Value} {ps : List (Nat × List UInt8)} (h : Lents w base v ps) (g : w.grownBy w' v.ownBlock) (hv : v'.ownBlock = v.ownBlock ∨ ∀ k, v'.ownBlock = some k → w.heap.size ≤ k) : Lents w' base v' ps :=
  ⟨fun p hp => by
    obtain ⟨h1, h2, h3⟩ := h.at_ p hp
    refine ⟨h1.keep (g.block p.1 h1.size (fun e => h3 e.symm)), h2, fun e => ?_⟩
    rcases hv with hv | hv
    · exact h3 (hv ▸ e)
    · have := hv _ e
      have := h1.size
      omega, h.apart⟩
theorem Lents.snoc {w w' : World} {base g : Nat} {v : Value} {ps : List (Nat × List UInt8)} {l : List UInt8} (h : Lents w base v ps) (hg : g = w.heap.size) (b : Below w.heap.size w w') (hl : LentAt w' g l) (hb : base ≤ g) (hv : ∀ k, v.ownBlock = some k → k < w.heap.size) : Lents w' base v (ps ++ [(g, l)]) := by
  subst hg
  refine ⟨fun p hp => ?_, ?_⟩
  · rcases List.mem_append.1 hp with hp | hp
    · exact (h.below b).at_ p hp
    · obtain rfl := List.mem_singleton.1 hp
      exact ⟨hl, hb, fun e => by have := hv _ e; simp at this⟩
  · rw [List.map_append, List.nodup_append]
    refine ⟨h.apart, by simp, fun a ha c hc e => ?_⟩
    obtain ⟨p, hp, rfl⟩ := List.mem_map.1 ha
    have := (h.at_ p hp).1.size
    simp at hc
    omega
end Go.Proofs.YtmocfielcllfmaaDoor
