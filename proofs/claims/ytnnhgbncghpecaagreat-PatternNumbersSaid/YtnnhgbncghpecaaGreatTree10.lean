/- Trees of nodes, as they stand in memory. -/
import Derived.Test.YtnnhgbncghpecaaGreatBase10
namespace Go.Proofs.YtnnhgbncghpecaaGreat
open Go.RowKit

/-- An expression. -/
inductive X where
  | mk (kind vk vn : Int) (vs : ByteArray) (var op : Int) (kids : List X)
def X.kind : X → Int | .mk k _ _ _ _ _ _ => k
def X.vk : X → Int | .mk _ k _ _ _ _ _ => k
def X.vn : X → Int | .mk _ _ n _ _ _ _ => n
def X.vs : X → ByteArray | .mk _ _ _ s _ _ _ => s
def X.var : X → Int | .mk _ _ _ _ i _ _ => i
def X.op : X → Int | .mk _ _ _ _ _ o _ => o
def X.kids : X → List X | .mk _ _ _ _ _ _ l => l
theorem X.eta (t : X) : X.mk t.kind t.vk t.vn t.vs t.var t.op t.kids = t := by cases t; rfl
theorem X.lt_kids {t k : X} (h : k ∈ t.kids) : SizeOf.sizeOf k < SizeOf.sizeOf t := by
  cases t with
  | mk a b c d e f l =>
    have := List.sizeOf_lt_of_mem (show k ∈ l from h)
    simp only [X.mk.sizeOf_spec]
    omega
theorem X.ind {P : X → Prop} (h : ∀ t : X, (∀ k, k ∈ t.kids → P k) → P t) (t : X) : P t := by
  have : ∀ n (t : X), SizeOf.sizeOf t ≤ n → P t := by
    intro n
    induction n with
    | zero => intro t ht; cases t; simp only [X.mk.sizeOf_spec] at ht; omega
    | succ n ih => exact fun t ht => h t fun k hk => ih k (by have := X.lt_kids hk; omega)
  exact this _ t (Nat.le_refl _)

/-- A node's five cells; its kids' slice is v. -/
abbrev hd (t : X) (v : Value) : List Value := [.int .u8 t.kind, .int .u8 t.vk, .int .i64 t.vn, .string t.vs, .int .i64 t.var, .int .u8 t.op, v]
abbrev agg (t : X) (v : Value) : Value := .agg #[.int .u8 t.kind, .int .u8 t.vk, .int .i64 t.vn, .string t.vs, .int .i64 t.var, .int .u8 t.op, v]
def cellsE : List (X × Value) → List Value
  | [] => []
  | p :: l => .int .u8 p.1.kind :: .int .u8 p.1.vk :: .int .i64 p.1.vn :: .string p.1.vs :: .int .i64 p.1.var :: .int .u8 p.1.op :: p.2 :: cellsE l
theorem cellsE_append (l m : List (X × Value)) : cellsE (l ++ m) = cellsE l ++ cellsE m := by
  induction l with
  | nil => rfl
  | cons x l ih => simp only [cellsE, List.cons_append, ih]
theorem cellsE_length (l : List (X × Value)) : (cellsE l).length = l.length * 7 := by
  induction l with
  | nil => rfl
  | cons x l ih => simp only [cellsE, List.length_cons, ih]; omega
theorem cellsE_at (l : List (X × Value)) : ∀ (i : Nat) (h : i < l.length), (cellsE l)[i * 7]? = some (.int .u8 (l[i]).1.kind) ∧ (cellsE l)[i * 7 + 1]? = some (.int .u8 (l[i]).1.vk) ∧ (cellsE l)[i * 7 + 2]? = some (.int .i64 (l[i]).1.vn) ∧ (cellsE l)[i * 7 + 3]? = some (.string (l[i]).1.vs) ∧ (cellsE l)[i * 7 + 4]? = some (.int .i64 (l[i]).1.var) ∧ (cellsE l)[i * 7 + 5]? = some (.int .u8 (l[i]).1.op) ∧ (cellsE l)[i * 7 + 6]? = some (l[i]).2 := by
  induction l with
  | nil => intro i h; cases h
  | cons x l ih =>
    intro i h
    cases i with
    | zero => exact ⟨rfl, rfl, rfl, rfl, rfl, rfl, rfl⟩
    | succ i =>
      obtain ⟨h1, h2, h3, h4, h5, h6, h7⟩ := ih i (by simpa using h)
      rw [show (i + 1) * 7 = i * 7 + 1 + 1 + 1 + 1 + 1 + 1 + 1 by omega]
      exact ⟨h1, h2, h3, h4, h5, h6, h7⟩

/-- v is the slice of a tree's kids, which lie below B, with all that is in them. -/
inductive Lies (B : Nat) (w : World) : X → Value → Prop
  | mk (t : X) (ao : Option Addr) (c : Nat) (ps : List (X × Value)) (hk : ps.map Prod.fst = t.kids) (hs : SlG B w ao (cellsE ps)) (hc : ao = none → c = 0) (hl : t.kids.length ≤ c) (hm : c ≤ maxLen) (hp : ∀ p, p ∈ ps → Lies B w p.1 p.2) : Lies B w t (.slice ao t.kids.length c)

theorem Lies.keep {B : Nat} {w w' : World} {t : X} {v : Value} (h : Lies B w t v) (b : Below B w w') : Lies B w' t v := by
  induction h with
  | mk t ao c ps hk hs hc hl hm _ ih => exact .mk t ao c ps hk (hs.below b) hc hl hm ih
theorem Lies.mono {B B' : Nat} {w : World} {t : X} {v : Value} (h : Lies B w t v) (b : B ≤ B') : Lies B' w t v := by
  induction h with
  | mk t ao c ps hk hs hc hl hm _ ih => exact .mk t ao c ps hk (hs.up (Below.refl _ _) b) hc hl hm ih
theorem Lies.up {B B' : Nat} {w w' : World} {t : X} {v : Value} (h : Lies B w t v) (b : Below B w w') (hB : B ≤ B') : Lies B' w' t v := (h.keep b).mono hB
/-- Where a tree's kids lie. -/
structure KidsAt (B : Nat) (w : World) (t : X) (ao : Option Addr) (c : Nat) (ps : List (X × Value)) : Prop where
  kids : ps.map Prod.fst = t.kids
  len : ps.length = t.kids.length
  sl : SlG B w ao (cellsE ps)
  nil : ao = none → c = 0
  cap : t.kids.length ≤ c
  top : c ≤ maxLen
  each : ∀ p, p ∈ ps → Lies B w p.1 p.2
theorem Lies.out {B : Nat} {w : World} {t : X} {v : Value} (h : Lies B w t v) : ∃ ao c ps, v = .slice ao t.kids.length c ∧ KidsAt B w t ao c ps := by
  cases h with
  | mk _ ao c ps hk hs hc hl hm hp => exact ⟨ao, c, ps, rfl, hk, by rw [← hk, List.length_map], hs, hc, hl, hm, hp⟩
theorem KidsAt.lies {B : Nat} {w : World} {t : X} {ao : Option Addr} {c : Nat} {ps : List (X × Value)} (h : KidsAt B w t ao c ps) : Lies B w t (.slice ao t.kids.length c) := .mk t ao c ps h.kids h.sl h.nil h.cap h.top h.each
theorem KidsAt.below {B : Nat} {w w' : World} {t : X} {ao : Option Addr} {c : Nat} {ps : List (X × Value)} (h : KidsAt B w t ao c ps) (b : Below B w w') : KidsAt B w' t ao c ps := ⟨h.kids, h.len, h.sl.below b, h.nil, h.cap, h.top, fun p hp => (h.each p hp).keep b⟩
theorem KidsAt.up {B B' : Nat} {w w' : World} {t : X} {ao : Option Addr} {c : Nat} {ps : List (X × Value)} (h : KidsAt B w t ao c ps) (b : Below B w w') (hB : B ≤ B') : KidsAt B' w' t ao c ps := ⟨h.kids, h.len, h.sl.up b hB, h.nil, h.cap, h.top, fun p hp => (h.each p hp).up b hB⟩
/-- A kid, where it stands. -/
theorem KidsAt.at {B : Nat} {w : World} {t : X} {ao : Option Addr} {c : Nat} {ps : List (X × Value)} (h : KidsAt B w t ao c ps) (hl : 0 < t.kids.length) :
    ∃ sb off, ao = some ⟨sb, off, none⟩ ∧ sb < B ∧ ∀ i, (hi : i < t.kids.length) → ∃ v, w.cell? ⟨sb, off + i * 7, none⟩ = some (.int .u8 (t.kids[i]).kind) ∧ w.cell? ⟨sb, off + i * 7 + 1, none⟩ = some (.int .u8 (t.kids[i]).vk) ∧ w.cell? ⟨sb, off + i * 7 + 2, none⟩ = some (.int .i64 (t.kids[i]).vn) ∧ w.cell? ⟨sb, off + i * 7 + 3, none⟩ = some (.string (t.kids[i]).vs) ∧ w.cell? ⟨sb, off + i * 7 + 4, none⟩ = some (.int .i64 (t.kids[i]).var) ∧ w.cell? ⟨sb, off + i * 7 + 5, none⟩ = some (.int .u8 (t.kids[i]).op) ∧ w.cell? ⟨sb, off + i * 7 + 6, none⟩ = some v ∧ Lies B w t.kids[i] v := by
  have hne : cellsE ps ≠ [] := fun e => by
    have := congrArg List.length e
    rw [cellsE_length, h.len, List.length_nil] at this
    omega
  obtain ⟨sb, off, rfl, lt, hc⟩ := h.sl hne
  refine ⟨sb, off, rfl, lt, fun i hi => ?_⟩
  have hip : i < ps.length := by rw [h.len]; exact hi
  have he : (ps[i]).1 = t.kids[i] := by
    have : (ps.map Prod.fst)[i]'(by rw [List.length_map]; exact hip) = t.kids[i] := by simp only [h.kids]
    rw [← this, List.getElem_map]
  obtain ⟨c0, c1, c2, c3, c4, c5, c6⟩ := cellsE_at ps i hip
  have hl' := h.each ps[i] (List.getElem_mem hip)
  rw [he] at c0 c1 c2 c3 c4 c5 hl'
  refine ⟨(ps[i]).2, hc _ _ c0, ?_, ?_, ?_, ?_, ?_, ?_, hl'⟩
  · have := hc _ _ c1
    rwa [← Nat.add_assoc] at this
  · have := hc _ _ c2
    rwa [← Nat.add_assoc] at this
  · have := hc _ _ c3
    rwa [← Nat.add_assoc] at this
  · have := hc _ _ c4
    rwa [← Nat.add_assoc] at this
  · have := hc _ _ c5
    rwa [← Nat.add_assoc] at this
  · have := hc _ _ c6
    rwa [← Nat.add_assoc] at this

/-- The call said yes, and only grew. -/
def YesG (w : World) (e : Ending) (w' : World) : Prop := e = .returned (.bool true) ∧ Gr w w'
theorem gr_two (w : World) (o1 o2 : Obj) : Gr w ((w.alloc o1).alloc o2) := ((Gr.refl w).alloc o1).alloc o2
theorem cellG {w : World} {b o : Nat} {v : Value} (hb : b < w.heap.size) (h : w.cell? ⟨b, o, none⟩ = some v) : ∀ q os, (Sort.grow (w.drewN q) os).cell? ⟨b, o, none⟩ = some v := fun q os =>
  ((bcell (Gr.below ⟨q, os, rfl⟩)).1 b o hb).trans h
theorem infoE : (Tryz.prog.info? 31).map (fun i => (i.zero, i.size, i.bytes)) = some (some (.agg #[.int .u8 0, .int .u8 0, .int .i64 0, .string ⟨#[]⟩, .int .i64 0, .int .u8 0, .slice none 0 0]), 7, 80) := by kernel_rfl
end Go.Proofs.YtnnhgbncghpecaaGreat
