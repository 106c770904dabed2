/- How much a tree is, and the document's own depth and number. -/
import Derived.Test.YtfmjhbaenpbfoaaGreatDoorLentT
namespace Go.Proofs.YtfmjhbaenpbfoaaGreatDoor
open Go.RowKit

/-- At most m, and m + 1 where more. -/
def capN (m c : Int) : Int := if c ≤ m then c else m + 1
mutual
/-- NodesOf: its nodes, and an eighth of their texts; of more than m, m + 1. -/
def T.nodes : T → Int → Int
  | .mk _ s _ _ l, m => capN m (nodesL l m (1 + (s.size : Int) / 8))
/-- The loop over kids, from the count c. -/
def nodesL : List T → Int → Int → Int
  | [], _, c => c
  | k :: l, m, c => if c ≤ m then nodesL l m (c + k.nodes (m - c)) else c
end
mutual
def T.deep : T → Nat
  | .mk _ _ _ _ l => deepL l + 1
def deepL : List T → Nat
  | [] => 0
  | k :: l => max k.deep (deepL l)
end
mutual
def T.many : T → Nat
  | .mk _ _ _ _ l => 1 + manyL l
def manyL : List T → Nat
  | [] => 0
  | k :: l => k.many + manyL l
end
mutual
/-- The same, but for places. -/
def T.same : T → T → Bool
  | .mk k s n _ l, .mk k' s' n' _ l' => k == k' && s.toList == s'.toList && n == n' && sameL l l'
def sameL : List T → List T → Bool
  | [], [] => true
  | k :: l, k' :: l' => k.same k' && sameL l l'
  | _, _ => false
end
theorem T.nodes_eq (t : T) (m : Int) : t.nodes m = capN m (nodesL t.kids m (1 + (t.text.size : Int) / 8)) := by cases t; rw [T.nodes]; rfl
theorem T.deep_eq (t : T) : t.deep = deepL t.kids + 1 := by cases t; rw [T.deep]; rfl
theorem T.many_eq (t : T) : t.many = 1 + manyL t.kids := by cases t; rw [T.many]; rfl
theorem T.same_eq (t u : T) : t.same u = (t.kind == u.kind && t.text.toList == u.text.toList && t.num == u.num && sameL t.kids u.kids) := by cases t; cases u; rw [T.same]; rfl

/-- What NodesOf tells of a tree that is not too great. -/
theorem nodes_pos (t : T) (m : Int) (hm : 0 ≤ m) : 1 ≤ t.nodes m := by
  induction t using T.ind generalizing m with
  | h t ih =>
    rw [T.nodes_eq]
    have hgen : ∀ (l : List T), (∀ k, k ∈ l → k ∈ t.kids) → ∀ c : Int, 1 ≤ c → 1 ≤ nodesL l m c := by
      intro l
      induction l with
      | nil => intro _ c hc; rw [nodesL]; exact hc
      | cons k l ih2 =>
        intro hl c hc
        rw [nodesL]
        split
        · exact ih2 (fun q hq => hl q (List.mem_cons_of_mem _ hq)) _ (by have := ih k (hl k (List.mem_cons_self ..)) (m - c) (by omega); omega)
        · exact hc
    have h1 := hgen t.kids (fun _ h => h) (1 + (t.text.size : Int) / 8) (by omega)
    unfold capN
    split <;> omega
theorem nodes_le (t : T) (m : Int) : t.nodes m ≤ m + 1 := by
  rw [T.nodes_eq]
  unfold capN
  split <;> omega
/-- Within the limit each text is short, each row is, and so is all that is below. -/
inductive Small (M : Int) : T → Prop
  | mk (t : T) (ht : (t.text.size : Int) ≤ 8 * M + 8) (hl : (t.kids.length : Int) ≤ M) (hp : ∀ k, k ∈ t.kids → Small M k) : Small M t
theorem Small.fits {M : Int} {t : T} (h : Small M t) (hM : M ≤ 100000) : Fits t := by
  induction h with
  | mk t _ hl _ ih => exact .mk t (by omega) ih
theorem Small.mono {M M' : Int} {t : T} (h : Small M t) (hM : M ≤ M') : Small M' t := by
  induction h with
  | mk t ht hl _ ih => exact .mk t (by omega) (by omega) ih
theorem nodes_small (t : T) : ∀ m : Int, t.nodes m ≤ m → Small m t := by
  induction t using T.ind with
  | h t ih =>
    intro m h
    rw [T.nodes_eq] at h
    have hle : nodesL t.kids m (1 + (t.text.size : Int) / 8) ≤ m := by
      unfold capN at h
      split at h
      · assumption
      · omega
    have hgen : ∀ (l : List T), (∀ k, k ∈ l → k ∈ t.kids) → ∀ c : Int, 1 ≤ c → nodesL l m c ≤ m → c + l.length ≤ m ∧ ∀ k, k ∈ l → Small m k := by
      intro l
      induction l with
      | nil => intro _ c hc h; rw [nodesL] at h; exact ⟨by simpa using h, fun k hk => by cases hk⟩
      | cons k l ih2 =>
        intro hl c hc h
        rw [nodesL] at h
        split at h
        · rename_i hcm
          have hk := nodes_pos k (m - c) (by omega)
          obtain ⟨h1, h2⟩ := ih2 (fun q hq => hl q (List.mem_cons_of_mem _ hq)) _ (by omega) h
          refine ⟨by rw [List.length_cons]; omega, fun q hq => ?_⟩
          rcases List.mem_cons.1 hq with rfl | hq
          · exact (ih q (hl q (List.mem_cons_self ..)) (m - c) (by omega)).mono (by omega)
          · exact h2 q hq
        · omega
    obtain ⟨h1, h2⟩ := hgen t.kids (fun _ h => h) _ (by omega) hle
    exact .mk t (by omega) (by omega) h2
end Go.Proofs.YtfmjhbaenpbfoaaGreatDoor
