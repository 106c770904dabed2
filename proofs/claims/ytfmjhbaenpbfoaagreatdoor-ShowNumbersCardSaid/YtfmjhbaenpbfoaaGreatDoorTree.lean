/- Trees of nodes, as they stand in memory. -/
import Derived.Test.YtfmjhbaenpbfoaaGreatDoorBase
namespace Go.Proofs.YtfmjhbaenpbfoaaGreatDoor
open Go.RowKit

/-- A tree. -/
inductive T where
  | mk (kind : Int) (text : ByteArray) (num pos : Int) (kids : List T)
def T.kind : T → Int | .mk k _ _ _ _ => k
def T.text : T → ByteArray | .mk _ s _ _ _ => s
def T.num : T → Int | .mk _ _ n _ _ => n
def T.pos : T → Int | .mk _ _ _ p _ => p
def T.kids : T → List T | .mk _ _ _ _ l => l
theorem T.eta (t : T) : T.mk t.kind t.text t.num t.pos t.kids = t := by cases t; rfl
theorem T.lt_kids {t k : T} (h : k ∈ t.kids) : SizeOf.sizeOf k < SizeOf.sizeOf t := by
  cases t with
  | mk a b c d l =>
    have := List.sizeOf_lt_of_mem (show k ∈ l from h)
    simp only [T.mk.sizeOf_spec]
    omega
theorem T.ind {P : T → Prop} (h : ∀ t : T, (∀ k, k ∈ t.kids → P k) → P t) (t : T) : P t := by
  have : ∀ n (t : T), SizeOf.sizeOf t ≤ n → P t := by
    intro n
    induction n with
    | zero => intro t ht; cases t; simp only [T.mk.sizeOf_spec] at ht; omega
    | succ n ih => exact fun t ht => h t fun k hk => ih k (by have := T.lt_kids hk; omega)
  exact this _ t (Nat.le_refl _)

/-- A node's five cells; its kids' slice is v. -/
abbrev hd (t : T) (v : Value) : List Value := [.int .u8 t.kind, .string t.text, .int .i64 t.num, .int .i64 t.pos, v]
abbrev agg (t : T) (v : Value) : Value := .agg #[.int .u8 t.kind, .string t.text, .int .i64 t.num, .int .i64 t.pos, v]
def cellsN : List (T × Value) → List Value
  | [] => []
  | p :: l => .int .u8 p.1.kind :: .string p.1.text :: .int .i64 p.1.num :: .int .i64 p.1.pos :: p.2 :: cellsN l
theorem cellsN_append (l m : List (T × Value)) : cellsN (l ++ m) = cellsN l ++ cellsN m := by
  induction l with
  | nil => rfl
  | cons x l ih => simp only [cellsN, List.cons_append, ih]
theorem cellsN_length (l : List (T × Value)) : (cellsN l).length = l.length * 5 := by
  induction l with
  | nil => rfl
  | cons x l ih => simp only [cellsN, List.length_cons, ih]; omega
theorem cellsN_at (l : List (T × Value)) : ∀ (i : Nat) (h : i < l.length), (cellsN l)[i * 5]? = some (.int .u8 (l[i]).1.kind) ∧ (cellsN l)[i * 5 + 1]? = some (.string (l[i]).1.text) ∧ (cellsN l)[i * 5 + 2]? = some (.int .i64 (l[i]).1.num) ∧ (cellsN l)[i * 5 + 3]? = some (.int .i64 (l[i]).1.pos) ∧ (cellsN l)[i * 5 + 4]? = some (l[i]).2 := by
  induction l with
  | nil => intro i h; cases h
  | cons x l ih =>
    intro i h
    cases i with
    | zero => exact ⟨rfl, rfl, rfl, rfl, rfl⟩
    | succ i =>
      obtain ⟨h1, h2, h3, h4, h5⟩ := ih i (by simpa using h)
      rw [show (i + 1) * 5 = i * 5 + 1 + 1 + 1 + 1 + 1 by omega]
      exact ⟨h1, h2, h3, h4, h5⟩

/-- v is the slice of a tree's kids, which lie below B, with all that is in them. -/
inductive Lies (B : Nat) (w : World) : T → Value → Prop
  | mk (t : T) (ao : Option Addr) (c : Nat) (ps : List (T × Value)) (hk : ps.map Prod.fst = t.kids) (hs : SlG B w ao (cellsN ps)) (hc : ao = none → c = 0) (hl : t.kids.length ≤ c) (hm : c ≤ maxLen) (hp : ∀ p, p ∈ ps → Lies B w p.1 p.2) : Lies B w t (.slice ao t.kids.length c)

theorem Lies.keep {B : Nat} {w w' : World} {t : T} {v : Value} (h : Lies B w t v) (b : Below B w w') : Lies B w' t v := by
  induction h with
  | mk t ao c ps hk hs hc hl hm _ ih => exact .mk t ao c ps hk (hs.below b) hc hl hm ih
theorem Lies.mono {B B' : Nat} {w : World} {t : T} {v : Value} (h : Lies B w t v) (b : B ≤ B') : Lies B' w t v := by
  induction h with
  | mk t ao c ps hk hs hc hl hm _ ih => exact .mk t ao c ps hk (hs.up (Below.refl _ _) b) hc hl hm ih
theorem Lies.up {B B' : Nat} {w w' : World} {t : T} {v : Value} (h : Lies B w t v) (b : Below B w w') (hB : B ≤ B') : Lies B' w' t v := (h.keep b).mono hB
/-- Where a tree's kids lie. -/
structure KidsAt (B : Nat) (w : World) (t : T) (ao : Option Addr) (c : Nat) (ps : List (T × Value)) : Prop where
  kids : ps.map Prod.fst = t.kids
  len : ps.length = t.kids.length
  sl : SlG B w ao (cellsN ps)
  nil : ao = none → c = 0
  cap : t.kids.length ≤ c
  top : c ≤ maxLen
  each : ∀ p, p ∈ ps → Lies B w p.1 p.2
theorem Lies.out {B : Nat} {w : World} {t : T} {v : Value} (h : Lies B w t v) : ∃ ao c ps, v = .slice ao t.kids.length c ∧ KidsAt B w t ao c ps := by
  cases h with
  | mk _ ao c ps hk hs hc hl hm hp => exact ⟨ao, c, ps, rfl, hk, by rw [← hk, List.length_map], hs, hc, hl, hm, hp⟩
theorem KidsAt.lies {B : Nat} {w : World} {t : T} {ao : Option Addr} {c : Nat} {ps : List (T × Value)} (h : KidsAt B w t ao c ps) : Lies B w t (.slice ao t.kids.length c) := .mk t ao c ps h.kids h.sl h.nil h.cap h.top h.each
theorem KidsAt.below {B : Nat} {w w' : World} {t : T} {ao : Option Addr} {c : Nat} {ps : List (T × Value)} (h : KidsAt B w t ao c ps) (b : Below B w w') : KidsAt B w' t ao c ps := ⟨h.kids, h.len, h.sl.below b, h.nil, h.cap, h.top, fun p hp => (h.each p hp).keep b⟩
theorem KidsAt.up {B B' : Nat} {w w' : World} {t : T} {ao : Option Addr} {c : Nat} {ps : List (T × Value)} (h : KidsAt B w t ao c ps) (b : Below B w w') (hB : B ≤ B') : KidsAt B' w' t ao c ps := ⟨h.kids, h.len, h.sl.up b hB, h.nil, h.cap, h.top, fun p hp => (h.each p hp).up b hB⟩
/-- A kid, where it stands. -/
theorem KidsAt.at {B : Nat} {w : World} {t : T} {ao : Option Addr} {c : Nat} {ps : List (T × Value)} (h : KidsAt B w t ao c ps) (hl : 0 < t.kids.length) :
    ∃ sb off, ao = some ⟨sb, off, none⟩ ∧ sb < B ∧ ∀ i, (hi : i < t.kids.length) → ∃ v, w.cell? ⟨sb, off + i * 5, none⟩ = some (.int .u8 (t.kids[i]).kind) ∧ w.cell? ⟨sb, off + i * 5 + 1, none⟩ = some (.string (t.kids[i]).text) ∧ w.cell? ⟨sb, off + i * 5 + 2, none⟩ = some (.int .i64 (t.kids[i]).num) ∧ w.cell? ⟨sb, off + i * 5 + 3, none⟩ = some (.int .i64 (t.kids[i]).pos) ∧ w.cell? ⟨sb, off + i * 5 + 4, none⟩ = some v ∧ Lies B w t.kids[i] v := by
  have hne : cellsN ps ≠ [] := fun e => by
    have := congrArg List.length e
    rw [cellsN_length, h.len, List.length_nil] at this
    omega
  obtain ⟨sb, off, rfl, lt, hc⟩ := h.sl hne
  refine ⟨sb, off, rfl, lt, fun i hi => ?_⟩
  have hip : i < ps.length := by rw [h.len]; exact hi
  have he : (ps[i]).1 = t.kids[i] := by
    have : (ps.map Prod.fst)[i]'(by rw [List.length_map]; exact hip) = t.kids[i] := by simp only [h.kids]
    rw [← this, List.getElem_map]
  obtain ⟨c0, c1, c2, c3, c4⟩ := cellsN_at ps i hip
  have hl' := h.each ps[i] (List.getElem_mem hip)
  rw [he] at c0 c1 c2 c3 hl'
  refine ⟨(ps[i]).2, hc _ _ c0, ?_, ?_, ?_, ?_, hl'⟩
  · have := hc _ _ c1
    rwa [← Nat.add_assoc] at this
  · have := hc _ _ c2
    rwa [← Nat.add_assoc] at this
  · have := hc _ _ c3
    rwa [← Nat.add_assoc] at this
  · have := hc _ _ c4
    rwa [← Nat.add_assoc] at this

/-- The call said yes, and only grew. -/
def YesG (w : World) (e : Ending) (w' : World) : Prop := e = .returned (.bool true) ∧ Gr w w'
theorem gr_two (w : World) (o1 o2 : Obj) : Gr w ((w.alloc o1).alloc o2) := ((Gr.refl w).alloc o1).alloc o2
theorem cellG {w : World} {b o : Nat} {v : Value} (hb : b < w.heap.size) (h : w.cell? ⟨b, o, none⟩ = some v) : ∀ q os, (Sort.grow (w.drewN q) os).cell? ⟨b, o, none⟩ = some v := fun q os =>
  ((bcell (Gr.below ⟨q, os, rfl⟩)).1 b o hb).trans h
theorem infoN : (Tryz.prog.info? 25).map (fun i => (i.zero, i.size, i.bytes)) = some (some (.agg #[.int .u8 0, .string ⟨#[]⟩, .int .i64 0, .int .i64 0, .slice none 0 0]), 5, 64) := by kernel_rfl
end Go.Proofs.YtfmjhbaenpbfoaaGreatDoor
