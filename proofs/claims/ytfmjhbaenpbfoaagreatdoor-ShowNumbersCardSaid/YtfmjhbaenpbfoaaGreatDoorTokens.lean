/- Tokens: all tokens of a source, or its first fault. -/
import Derived.Test.YtfmjhbaenpbfoaaGreatDoorIter
import Derived.Shelf.RegionOpen
namespace Go.Proofs.YtfmjhbaenpbfoaaGreatDoor
open Go.RowKit
attribute [local go_sem] Oper.semAt_some

/-- The cells of a row of tokens. -/
def lexCs : List Y → List Value
  | [] => []
  | x :: l => .int .u8 x.1.kind :: .string ⟨x.1.text.toArray⟩ :: .int .i64 (x.2 : Int) :: lexCs l
theorem lexCs_append (l m : List Y) : lexCs (l ++ m) = lexCs l ++ lexCs m := by
  induction l with
  | nil => rfl
  | cons x l ih => simp only [lexCs, List.cons_append, ih]
theorem lexCs_length (l : List Y) : (lexCs l).length = l.length * 3 := by
  induction l with
  | nil => rfl
  | cons x l ih => simp only [lexCs, List.length_cons, ih]; omega

theorem infoLex : (Tryz.prog.info? 99).map (fun i => (i.zero, i.size, i.bytes)) = some (some (.agg #[.int .u8 0, .string ⟨#[]⟩, .int .i64 0]), 3, 32) := by kernel_rfl

/-- What Tokens tells of bytes: the tokens, and the fault. -/
def toldOf (l : Bs) : List Y × Int × Int :=
  if 16384 < l.length then ([], 3, 0) else
  match (seqF l.length (l.length + 1) l).find? (fun y => decide (y.1.err ≠ 0)) with
  | some x => ([], x.1.err, (x.2 : Int))
  | none => (seqF l.length (l.length + 1) l, 0, 0)
def ToldP (r : List Y × Int × Int) (w : World) (e : Ending) (w' : World) : Prop :=
  ∃ ao c, e = .returned (.tuple #[.slice ao r.1.length c, .agg #[.int .i64 r.2.1, .int .i64 r.2.2]]) ∧ w'.ownsRow w.heap.size 99 3 (.slice ao r.1.length c) r.1.length (lexCs r.1) ∧ Below w.heap.size w w'

/-- Between two rounds. -/
structure TokI (w : World) (pre : List Y) (v : Value) (W : World) : Prop where
  r0 : W.heap[w.heap.size]? = some (.cells #[.slice none 0 0] 63 (0, 0))
  r1 : W.heap[w.heap.size + 1]? = some (.cells #[.int .i64 0, .int .i64 0] 39 (0, 0))
  r2 : W.heap[w.heap.size + 1 + 1]? = some (.cells #[v] 63 (0, 0))
  row : W.ownsRow (w.heap.size + 7) 99 3 v pre.length (lexCs pre)
  ok : ∀ x ∈ pre, x.1.err = 0
  bel : Below w.heap.size w W
/-- A round has left with a fault. -/
structure TokX (w : World) (pre : List Y) (W : World) : Prop where
  last : ∃ q x, pre = q ++ [x] ∧ x.1.err ≠ 0 ∧ (∀ y ∈ q, y.1.err = 0) ∧ W.heap[w.heap.size + 1]? = some (.cells #[.int .i64 x.1.err, .int .i64 (x.2 : Int)] 39 (0, 0))
  r0 : W.heap[w.heap.size]? = some (.cells #[.slice none 0 0] 63 (0, 0))
  bel : Below w.heap.size w W

theorem block_kept {W Z : World} {row : Option Nat} {k : Nat} {o : Obj} (h : W.heap[k]? = some o) (g : W.grownBy Z row) (hr : ∀ r, row = some r → k ≠ r) : Z.heap[k]? = some o :=
  (g.block k (Array.getElem?_eq_some_iff.1 h).1 (fun e => hr k e.symm rfl)).trans h
theorem below_grown {w W Z : World} {row : Option Nat} (h : Below w.heap.size w W) (g : W.grownBy Z row) (hr : ∀ r, row = some r → w.heap.size ≤ r) : Below w.heap.size w Z :=
  h.trans ⟨g.os, g.tape, g.output, g.size, fun k hk => g.block k (Nat.lt_of_lt_of_le hk h.size) (fun e => by have := hr k e.symm; omega)⟩
theorem TokI.grown {w W Z : World} {pre : List Y} {v : Value} {row : Option Nat} (h : TokI w pre v W) (g : W.grownBy Z row) (hr : ∀ r, row = some r → w.heap.size + 4 ≤ r ∧ r ≤ w.heap.size + 6) : TokI w pre v Z :=
  ⟨block_kept h.r0 g (fun r e => by have := hr r e; omega), block_kept h.r1 g (fun r e => by have := hr r e; omega), block_kept h.r2 g (fun r e => by have := hr r e; omega),
   h.row.kept g (by
     cases row with
     | none =>
       cases hv : v.ownBlock with
       | none => exact Or.inl rfl
       | some b => exact Or.inr (by simp)
     | some r =>
       refine Or.inr fun hk => ?_
       have h1 := (h.row.lt r hk).1
       have h2 := hr r rfl
       omega), h.ok, below_grown h.bel g (fun r e => by have := hr r e; omega)⟩
theorem TokX.grown {w W Z : World} {pre : List Y} {row : Option Nat} (h : TokX w pre W) (g : W.grownBy Z row) (hr : ∀ r, row = some r → w.heap.size + 4 ≤ r) : TokX w pre Z := by
  obtain ⟨⟨q, x, h1, h2, h3, h4⟩, h5, h6⟩ := h
  exact ⟨⟨q, x, h1, h2, h3, block_kept h4 g (fun r e => by have := hr r e; omega)⟩, block_kept h5 g (fun r e => by have := hr r e; omega), below_grown h6 g (fun r e => by have := hr r e; omega)⟩

theorem tokensOf_any (s : ByteArray) (w : World) :
    Calls Tryz.prog 57 #[.string s] w fun e w' => e = .returned (.func (.func 80) #[] #[.pointer (some ⟨w.heap.size, 0, none⟩)]) ∧ w.alloc (.cells #[.string s] 9) = w' := by
  go_enter Tryz.func57, Tryz.ntmps57
  go_wp2
  go_ret
  exact ⟨rfl, rfl⟩

set_option maxRecDepth 100000 in
set_option maxHeartbeats 1000000 in
theorem tokens_long (s : ByteArray) (w : World) (h : 16384 < s.size) :
    Calls Tryz.prog 30 #[.string s] w (ToldP (toldOf s.data.toList) w) := by
  have hT : toldOf s.data.toList = ([], 3, 0) := by
    unfold toldOf
    rw [if_pos (by simpa using h)]
  rw [hT]
  have h1 : (16384 : Int) < (s.size : Int) := by omega
  clear hT
  go_enter Tryz.func30, Tryz.ntmps30
  go_wp2
  exact bodyPost_ret (v := .tuple #[.slice none 0 0, .agg #[.int .i64 3, .int .i64 0]]) (by simp [results, Tryz.results30, go_sem]) rfl ⟨none, 0, rfl, World.ownsRow_nil _ _ _ _, (below_new (below_own _) _)⟩

theorem Errs.alloc {w : World} (h : Errs w) (o : Obj) : Errs (w.alloc o) := h.below (below_own o)

theorem keeps_drew {W W' : World} (h : KeepsOthers W W') : KeepsOthers W W'.drew := h.trans (KeepsOthers.drew _)
/-- The fault was stored. -/
theorem tokX_stored {w W2 : World} {pre : List Y} {v : Value} (x : Y) (h : TokI w pre v W2) (hx : x.1.err ≠ 0) :
    TokX w (pre ++ [x]) (((W2.setCell ⟨w.heap.size, 0, none⟩ (.slice none 0 0)).setCell ⟨w.heap.size + 1, 0, none⟩ (.int .i64 x.1.err)).setCell ⟨w.heap.size + 1, 1, none⟩ (.int .i64 (x.2 : Int))).drew := by
  have g0 := Lib.grownBy_setCell W2 w.heap.size 0 (.slice none 0 0)
  have g1 := Lib.grownBy_setCell (W2.setCell ⟨w.heap.size, 0, none⟩ (.slice none 0 0)) (w.heap.size + 1) 0 (.int .i64 x.1.err)
  have g2 := Lib.grownBy_setCell ((W2.setCell ⟨w.heap.size, 0, none⟩ (.slice none 0 0)).setCell ⟨w.heap.size + 1, 0, none⟩ (.int .i64 x.1.err)) (w.heap.size + 1) 1 (.int .i64 (x.2 : Int))
  refine ⟨⟨pre, x, rfl, hx, h.ok, ?_⟩, ?_, ?_⟩
  · exact Lib.heap_setCell_same (i := 1) (Lib.heap_setCell_same (i := 0) (block_kept h.r1 g0 (fun r e => by cases e; omega)) (.int .i64 x.1.err)) (.int .i64 (x.2 : Int))
  · have e0 := block_kept (Lib.heap_setCell_same (i := 0) h.r0 (.slice none 0 0)) g1 (fun r e => by cases e; omega)
    have e1 := block_kept e0 g2 (fun r e => by cases e; omega)
    exact e1
  · exact (below_grown (below_grown (below_grown h.bel g0 (fun r e => by cases e; omega)) g1 (fun r e => by cases e; omega)) g2 (fun r e => by cases e; omega)).drew

/-- A token was pushed. -/
theorem tokI_pushed {w W2 w1 : World} {pre : List Y} {v v' : Value} {o : Obj} {T : Nat} (x : Y) (h : TokI w pre v W2) (hx : x.1.err = 0) (h2 : 5 ≤ w.heap.size) (hT : w.heap.size + 6 < T)
    (hb : ∀ b, v.ownBlock = some b → w.heap.size + 7 ≤ b ∧ b < T)
    (hown : w1.ownsRow (w.heap.size + 7) 99 3 v' (pre.length + 1) (lexCs pre ++ lexCs [x])) (hgrow : (W2.alloc o).grownBy w1 v.ownBlock) :
    KeepsFrom (w.heap.size + 4) W2 (w1.setCell ⟨w.heap.size + 1 + 1, 0, none⟩ v') ∧ Lets (w.heap.size + 6) T W2 (w1.setCell ⟨w.heap.size + 1 + 1, 0, none⟩ v') ∧ TokI w (pre ++ [x]) v' (w1.setCell ⟨w.heap.size + 1 + 1, 0, none⟩ v') := by
  have g0 := World.grownBy_alloc W2 o none
  have g2 := Lib.grownBy_setCell w1 (w.heap.size + 1 + 1) 0 v'
  have hne : ∀ k, (∀ b, v.ownBlock = some b → k ≠ b) → k ≠ w.heap.size + 1 + 1 → ∀ ob, W2.heap[k]? = some ob → (w1.setCell ⟨w.heap.size + 1 + 1, 0, none⟩ v').heap[k]? = some ob := fun k hk hk2 ob hob =>
    block_kept (block_kept (block_kept hob g0 (fun r e => by cases e)) hgrow hk) g2 (fun r e => by cases e; exact hk2)
  refine ⟨⟨Nat.le_trans g0.size (Nat.le_trans hgrow.size g2.size), fun k ob hB hob hc => hne k (fun b hvb e => ?_) (by omega) ob hob⟩, ⟨Nat.le_trans g0.size (Nat.le_trans hgrow.size g2.size), fun k hk hlt => ?_⟩, ?_⟩
  · subst e
    obtain ⟨cs, fz, hcs⟩ := owns_tag h.row k hvb
    rw [hob] at hcs
    cases hcs
    cases hc
  · have hob : W2.heap[k]? = some (W2.heap[k]) := Array.getElem?_eq_getElem hlt
    rw [hob]
    exact hne k (fun b hvb e => by have := hb b hvb; omega) (by omega) _ hob
  · refine ⟨hne _ (fun b hvb e => by have := hb b hvb; omega) (by omega) _ h.r0, hne _ (fun b hvb e => by have := hb b hvb; omega) (by omega) _ h.r1, ?_, ?_, ?_, ?_⟩
    · exact Lib.heap_setCell_same (i := 0) (block_kept (block_kept h.r2 g0 (fun r e => by cases e)) hgrow (fun b hvb e => by have := hb b hvb; omega)) v'
    · rw [lexCs_append, List.length_append]
      refine hown.kept g2 (Or.inr fun e => ?_)
      have := (hown.lt _ e).1
      omega
    · intro y hy
      rcases List.mem_append.1 hy with hy | hy
      · exact h.ok y hy
      · obtain rfl := List.mem_singleton.1 hy
        exact hx
    · exact below_grown (below_grown (below_grown h.bel g0 (fun r e => by cases e)) hgrow (fun b hvb => by have := hb b hvb; omega)) g2 (fun r e => by cases e; omega)

/-- The results were stored: all is there. -/
theorem stored2 {w W : World} {ys : List Y} {v : Value} {D : Nat} {o : Obj} (h : TokI w ys v W) (hD : w.heap.size + 4 ≤ D) (hK : W.heap[D]? = some o) :
    (((W.setCell ⟨w.heap.size, 0, none⟩ v).setCell ⟨w.heap.size + 1, 0, none⟩ (.int .i64 0)).setCell ⟨w.heap.size + 1, 1, none⟩ (.int .i64 0)).heap[D]? = some o ∧
    (((W.setCell ⟨w.heap.size, 0, none⟩ v).setCell ⟨w.heap.size + 1, 0, none⟩ (.int .i64 0)).setCell ⟨w.heap.size + 1, 1, none⟩ (.int .i64 0)).heap[w.heap.size]? = some (.cells #[v] 63 (0, 0)) ∧
    (((W.setCell ⟨w.heap.size, 0, none⟩ v).setCell ⟨w.heap.size + 1, 0, none⟩ (.int .i64 0)).setCell ⟨w.heap.size + 1, 1, none⟩ (.int .i64 0)).heap[w.heap.size + 1]? = some (.cells #[.int .i64 0, .int .i64 0] 39 (0, 0)) ∧
    (((W.setCell ⟨w.heap.size, 0, none⟩ v).setCell ⟨w.heap.size + 1, 0, none⟩ (.int .i64 0)).setCell ⟨w.heap.size + 1, 1, none⟩ (.int .i64 0)).ownsRow (w.heap.size + 7) 99 3 v ys.length (lexCs ys) ∧
    Below w.heap.size w (((W.setCell ⟨w.heap.size, 0, none⟩ v).setCell ⟨w.heap.size + 1, 0, none⟩ (.int .i64 0)).setCell ⟨w.heap.size + 1, 1, none⟩ (.int .i64 0)) := by
  have g0 := Lib.grownBy_setCell W w.heap.size 0 v
  have g1 := Lib.grownBy_setCell (W.setCell ⟨w.heap.size, 0, none⟩ v) (w.heap.size + 1) 0 (.int .i64 0)
  have g2 := Lib.grownBy_setCell ((W.setCell ⟨w.heap.size, 0, none⟩ v).setCell ⟨w.heap.size + 1, 0, none⟩ (.int .i64 0)) (w.heap.size + 1) 1 (.int .i64 0)
  have hrow : ∀ k, k < w.heap.size + 2 → some k ≠ v.ownBlock := fun k hk e => by
    have := (h.row.lt k e.symm).1
    omega
  refine ⟨block_kept (block_kept (block_kept hK g0 (fun r e => by cases e; omega)) g1 (fun r e => by cases e; omega)) g2 (fun r e => by cases e; omega), ?_, ?_, ?_, ?_⟩
  · have e0 := block_kept (Lib.heap_setCell_same (i := 0) h.r0 v) g1 (fun r e => by cases e; omega)
    exact block_kept e0 g2 (fun r e => by cases e; omega)
  · exact Lib.heap_setCell_same (i := 1) (Lib.heap_setCell_same (i := 0) (block_kept h.r1 g0 (fun r e => by cases e; omega)) (.int .i64 0)) (.int .i64 0)
  · exact ((h.row.kept g0 (Or.inr (fun e => hrow _ (by omega) e.symm))).kept g1 (Or.inr (fun e => hrow _ (by omega) e.symm))).kept g2 (Or.inr (fun e => hrow _ (by omega) e.symm))
  · exact below_grown (below_grown (below_grown h.bel g0 (fun r e => by cases e; omega)) g1 (fun r e => by cases e; omega)) g2 (fun r e => by cases e; omega)

theorem find_last (q : List Y) (x : Y) (l : List Y) (h : ∀ y ∈ q, y.1.err = 0) (hx : x.1.err ≠ 0) (hp : q ++ [x] <+: l) : l.find? (fun y => decide (y.1.err ≠ 0)) = some x := by
  obtain ⟨m, rfl⟩ := hp
  rw [List.find?_append, List.find?_append, List.find?_eq_none.2 (fun y hy => by simp [h y hy])]
  simp [hx]

set_option maxRecDepth 100000 in
set_option maxHeartbeats 4000000 in
theorem tokens_short (s : ByteArray) (w : World) (h : s.size ≤ 16384) (he : Errs w) :
    Calls Tryz.prog 30 #[.string s] w (ToldP (toldOf s.data.toList) w) := by
  obtain ⟨i0, hi, hz0, hz1, hz2⟩ := info_parts infoLex
  have hT : toldOf s.data.toList = match (seqF s.size (s.size + 1) s.data.toList).find? (fun y => decide (y.1.err ≠ 0)) with
    | some x => ([], x.1.err, (x.2 : Int))
    | none => (seqF s.size (s.size + 1) s.data.toList, 0, 0) := by
    unfold toldOf
    rw [if_neg (by simpa using h), show s.data.toList.length = s.size by simp]
  obtain ⟨r, hr⟩ : ∃ r, toldOf s.data.toList = r := ⟨_, rfl⟩
  rw [hr] at hT ⊢
  have HT := Lib.hid hT
  have HS := Lib.hid h
  have HE := Lib.hid he
  have h1 : ¬ (16384 : Int) < (s.size : Int) := by omega
  clear hT h he hr
  refine (callsIn_wide (n := 3)).1 ?_
  refine callsIn_of_wp_marks Tryz.func30 rfl trivial ?_ rfl
  simp only [Tryz.ntmps30, List.size_toArray, List.length_cons, List.length_nil, Nat.reduceAdd, Nat.reduceSub, Array.replicate_succ, Array.replicate_zero, List.push_toArray, List.append_toArray, List.nil_append, List.cons_append]
  gi_wp2
  refine ⟨trivial, ?_⟩
  gi_at_call 57
  refine (callsIn_wide.2 (tokensOf_any _ _)).mono ?_
  rintro e w' ⟨rfl, rfl⟩
  gi_wp2
  obtain ⟨W4, hW4⟩ : ∃ W4, (((w.alloc (.cells #[.slice none 0 0] 63)).alloc (.cells #[.int .i64 0, .int .i64 0] 39)).alloc (.cells #[.slice none 0 0] 63)).alloc (.cells #[.string s] 9) = W4 := ⟨_, rfl⟩
  have hz4 : W4.heap.size = w.heap.size + 4 := by rw [← hW4]; simp
  have HI0 : TokI w [] (.slice none 0 0) W4 := by
    rw [← hW4]
    refine ⟨?_, ?_, ?_, World.ownsRow_nil _ _ _ _, (fun x hx => by cases hx), ((((Below.refl _ w).alloc (Nat.le_refl _) _).alloc (by simp) _).alloc (by simp only [World.size_alloc]; omega) _).alloc (by simp only [World.size_alloc]; omega) _⟩
    · exact (((Below.heap_alloc _ _ _ (by simp only [World.size_alloc]; omega)).trans (Below.heap_alloc _ _ _ (by simp only [World.size_alloc]; omega))).trans (Below.heap_alloc _ _ _ (by simp))).trans (World.alloc_heap_new w _)
    · refine ((Below.heap_alloc _ _ _ (by simp only [World.size_alloc]; omega)).trans (Below.heap_alloc _ _ _ (by simp))).trans ?_
      have := World.alloc_heap_new (w.alloc (.cells #[.slice none 0 0] 63)) (.cells #[.int .i64 0, .int .i64 0] 39)
      rwa [World.size_alloc] at this
    · refine (Below.heap_alloc _ _ _ (by simp)).trans ?_
      have := World.alloc_heap_new ((w.alloc (.cells #[.slice none 0 0] 63)).alloc (.cells #[.int .i64 0, .int .i64 0] 39)) (.cells #[.slice none 0 0] 63)
      rwa [World.size_alloc, World.size_alloc] at this
  have hsrc : W4.cell? ⟨w.heap.size + 1 + 1 + 1, 0, none⟩ = some (.string s) := by
    rw [← hW4]
    have := cells_made (((w.alloc (.cells #[.slice none 0 0] 63)).alloc (.cells #[.int .i64 0, .int .i64 0] 39)).alloc (.cells #[.slice none 0 0] 63)) #[.string s] 9 0 _ rfl
    rwa [World.size_alloc, World.size_alloc, World.size_alloc] at this
  have hE4 : Errs W4 := by rw [← hW4]; exact (((HE.out.alloc _).alloc _).alloc _).alloc _
  have H4 := Lib.hid HI0
  have HZ4 := Lib.hid hz4
  have HTW := Lib.hid HE.out.two
  rw [hW4]
  refine wpIn_rangeFunc_R (α := Y) rfl (by decide) hE4.two (gf := 80) (lb := #[.pointer (some ⟨w.heap.size + 1 + 1 + 1, 0, none⟩)]) rfl trivial (enters_of Tryz.func80 (by kernel_rfl) rfl)
    (encs := encY) (S := fun xs => xs = seqF s.size (s.size + 1) s.data.toList) (Sp := fun pre => pre <+: seqF s.size (s.size + 1) s.data.toList) (N := s.size + 1)
    (fun l J Jx W hb hsz hJ hJx hY h0 => iter_in (3 - 1) l (w.heap.size + 1 + 1 + 1) (by decide) s (by have := HS.out; omega) J Jx W hJ (fun pre x W0 W1 a b c d e => hY pre x W0 W1 a b c d e) ((hb.cell (p := ⟨w.heap.size + 1 + 1 + 1, 0, none⟩) (show w.heap.size + 1 + 1 + 1 < W4.heap.size by omega)).trans hsrc) (hE4.below hb) h0)
    (fun _ => rfl) (fun pre W => ∃ v, TokI w pre v W) (fun c pre W => c = .ret ∧ TokX w pre W)
    (fun pre X Z row ⟨v, hv⟩ g hr => ⟨v, hv.grown g (fun r e => by have := hr r e; omega)⟩)
    (fun c pre X Z row ⟨hc, hx⟩ g hr => ⟨hc, hx.grown g (fun r e => by have := hr r e; omega)⟩)
    ⟨_, HI0⟩ ?body ?done ?stop
  case body =>
    rintro l pre ⟨⟨er, kk, tx, rs⟩, a⟩ W0 W ⟨v, hI⟩ hR hgr hT hlen K hK
    clear hW4 HI0 hsrc hE4
    have HKK := Lib.hid hK
    have HII := Lib.hid hI
    have HGR := Lib.hid hgr
    have HTT := Lib.hid hT
    have HRR := Lib.hid hR
    have HLEN := Lib.hid hlen
    clear hK hI hgr hT hR hlen hz4
    gi_wp2
    refine HKK.out _ _ ((KeepsOthers.alloc _ _).from _) (Lets.of_grownBy (World.grownBy_alloc _ _ none) (fun r e => by cases e)) ?_
    intro W2 hg2
    clear HKK
    have hzw := HZ4.out
    have hI2 : TokI w pre v W2 := ((HII.out.grown HGR.out (fun r e => by cases e; omega)).grown (World.grownBy_alloc _ _ none) (fun r e => by cases e)).grown hg2 (fun r e => by cases e; omega)
    have hT2 : W2.heap[W.heap.size]? = some (.cells #[.int .u8 kk, .string ⟨tx.toArray⟩, .int .i64 (a : Int)] 99 (0, 0)) := block_kept (heap_alloc_new W _) hg2 (fun r e => by cases e; have := HTT.out; have := HRR.out; omega)
    have HI2 := Lib.hid hI2
    have HT2 := Lib.hid hT2
    have hlw : W0.heap.size < W2.heap.size := by have := HTT.out; have := lt_of_heap hT2; omega
    have HLW := Lib.hid hlw
    have HB0 : Hid (w.heap.size < W0.heap.size) := by have := HRR.out; unfold Hid; omega
    have HROW : Hid (∀ b, v.ownBlock = some b → w.heap.size + 7 ≤ b ∧ b < W0.heap.size) := fun b hb => ⟨(hI2.row.lt b hb).1, (HII.out.row.lt b hb).2⟩
    have a0 : W2.cell? ⟨w.heap.size, 0, none⟩ = some (.slice none 0 0) := Lib.cell_of_heap hI2.r0 0
    have a1 : W2.cell? ⟨w.heap.size + 1, 0, none⟩ = some (.int .i64 0) := Lib.cell_of_heap hI2.r1 0
    have a2 : W2.cell? ⟨w.heap.size + 1, 1, none⟩ = some (.int .i64 0) := Lib.cell_of_heap hI2.r1 1
    have a3 : W2.cell? ⟨w.heap.size + 1 + 1, 0, none⟩ = some v := Lib.cell_of_heap hI2.r2 0
    have t0 : W2.cell? ⟨W.heap.size, 0, none⟩ = some (.int .u8 kk) := Lib.cell_of_heap hT2 0
    have t1 : W2.cell? ⟨W.heap.size, 1, none⟩ = some (.string ⟨tx.toArray⟩) := Lib.cell_of_heap hT2 1
    have t2 : W2.cell? ⟨W.heap.size, 2, none⟩ = some (.int .i64 (a : Int)) := Lib.cell_of_heap hT2 2
    have f0 : ∀ j, W2.frozen? ⟨w.heap.size, j, none⟩ = false := fun j => Lib.frozen_of_heap hI2.r0 j
    have f1 : ∀ j, W2.frozen? ⟨w.heap.size + 1, j, none⟩ = false := fun j => Lib.frozen_of_heap hI2.r1 j
    have f2 : ∀ j, W2.frozen? ⟨w.heap.size + 1 + 1, j, none⟩ = false := fun j => Lib.frozen_of_heap hI2.r2 j
    clear hI2 hT2 hg2 hlw hzw HII HGR
    by_cases he : er = 0
    · subst he
      have HMX : Hid (pre.length + 1 ≤ 100000) := by have := HLEN.out; have := HS.out; unfold Hid; omega
      have hcm : ∀ (j : Nat) (u : Value), ([.int .u8 kk, .string ⟨tx.toArray⟩, .int .i64 (a : Int)] : List Value)[j]? = some u → (W2.alloc (.cells #[.int .u8 kk, .string ⟨tx.toArray⟩, .int .i64 (a : Int)] 99)).cell? ((⟨W2.heap.size, 0, none⟩ : Addr).add j) = some u := fun j u hu => by
        rw [Addr.add_lit, Nat.zero_add]
        exact cells_made _ _ _ _ _ (by simpa using hu)
      have HCM := Lib.hid hcm
      clear hcm
      gi_wp2_with (gi_at_builtin; refine wpListIn_append_own _ rfl _ _ 63 rfl (w.heap.size + 7) 99 i0 (.agg #[.int .u8 0, .string ⟨#[]⟩, .int .i64 0]) 3 32 Tryz.underlying63 hi hz0 hz1 hz2 rfl (by decide) v pre.length (lexCs pre) rfl (owns_below HI2.out.row (below_own _)) ⟨W2.heap.size, 0, none⟩ 1 1 [.int .u8 kk, .string ⟨tx.toArray⟩, .int .i64 (a : Int)] rfl rfl HCM.out (by simp [Value.oneCell']) (by have := HMX.out; unfold maxLen; omega) (by have := HMX.out; omega) (by have := HLW.out; have := HRR.out; have := HZ4.out; simp only [World.size_alloc]; omega) ?_; intro v' w1 hown' hgrow hnl; have HOWN := Lib.hid hown'; have HGROW := Lib.hid hgrow; obtain ⟨g', cap', rfl⟩ := ownsRow_succ hown'
                   have b3 : w1.cell? ⟨w.heap.size + 1 + 1, 0, none⟩ = some v := (World.cell?_of_block (hgrow.block (w.heap.size + 1 + 1) (show w.heap.size + 1 + 1 < (W2.alloc _).heap.size by have := HLW.out; have := HRR.out; have := HZ4.out; simp only [World.size_alloc]; omega) (fun e => by have := HROW.out _ e.symm; omega))).trans ((World.cell?_alloc_lt W2 _ ⟨w.heap.size + 1 + 1, 0, none⟩ (show w.heap.size + 1 + 1 < W2.heap.size by have := HLW.out; have := HRR.out; have := HZ4.out; omega)).trans a3)
                   have g3 : w1.frozen? ⟨w.heap.size + 1 + 1, 0, none⟩ = false := Lib.frozen_of_heap (block_kept (block_kept HI2.out.r2 (World.grownBy_alloc W2 _ none) (fun r e => by cases e)) hgrow (fun b hvb e => by have := HROW.out b hvb; omega)) 0
                   clear hown' hgrow hnl)
      have hzz := HZ4.out
      have hrr := HRR.out
      have hfin := tokI_pushed (T := W0.heap.size) (⟨0, kk, tx, rs⟩, a) HI2.out rfl HTW.out (by omega) HROW.out HOWN.out HGROW.out
      rw [show w.heap.size + 4 = W4.heap.size by omega, show w.heap.size + 6 = W4.heap.size + 2 by omega] at hfin
      exact ⟨hfin.1, hfin.2.1, _, hfin.2.2⟩
    · have q0 : (er != 0) = true := by simpa using he
      have HNE : Hid (er ≠ 0) := he
      clear he
      have hmx : Tryz.prog.follows .mixedOrders = true := by kernel_rfl
      gi_wp2
      gi_region_with_o (fail)
      all_goals gi_wp2
      all_goals (try go_bits)
      all_goals
        exact ⟨(keeps_drew (((KeepsOthers.setCell _ _ _).trans (KeepsOthers.setCell _ _ _)).trans (KeepsOthers.setCell _ _ _))).from _, rfl, tokX_stored (⟨er, kk, tx, rs⟩, a) HI2.out HNE.out⟩
  case done =>
    rintro D ys W hD rfl ⟨v, hI⟩ hK
    clear hW4 HI0 hsrc hE4
    have HII := Lib.hid hI
    have HK := Lib.hid hK
    have HD : Hid (w.heap.size + 4 ≤ D) := by unfold Hid; omega
    obtain ⟨ao, c, rfl⟩ := owns_slice hI.row
    have a0 : W.cell? ⟨w.heap.size, 0, none⟩ = some (.slice none 0 0) := Lib.cell_of_heap hI.r0 0
    have a1 : W.cell? ⟨w.heap.size + 1, 0, none⟩ = some (.int .i64 0) := Lib.cell_of_heap hI.r1 0
    have a2 : W.cell? ⟨w.heap.size + 1, 1, none⟩ = some (.int .i64 0) := Lib.cell_of_heap hI.r1 1
    have a3 : W.cell? ⟨w.heap.size + 1 + 1, 0, none⟩ = some (.slice ao (seqF s.size (s.size + 1) s.data.toList).length c) := Lib.cell_of_heap hI.r2 0
    have f0 : ∀ j, W.frozen? ⟨w.heap.size, j, none⟩ = false := fun j => Lib.frozen_of_heap hI.r0 j
    have f1 : ∀ j, W.frozen? ⟨w.heap.size + 1, j, none⟩ = false := fun j => Lib.frozen_of_heap hI.r1 j
    have hfind : (seqF s.size (s.size + 1) s.data.toList).find? (fun y => decide (y.1.err ≠ 0)) = none := List.find?_eq_none.2 fun x hx => by
      have := hI.ok x hx
      simp [this]
    have HRR : Hid (r = (seqF s.size (s.size + 1) s.data.toList, 0, 0)) := by
      have e := HT.out
      rw [hfind] at e
      exact e
    generalize seqF s.size (s.size + 1) s.data.toList = ys at HII a3 HRR
    clear hI hK hD hz4 hfind HT
    obtain ⟨k1, k2, k3, k4, k5⟩ := stored2 HII.out HD.out HK.out
    have HK1 := Lib.hid k1
    have HK2 := Lib.hid k2
    have HK3 := Lib.hid k3
    have HK4 := Lib.hid k4
    have HK5 := Lib.hid k5
    clear k1 k2 k3 k4 k5
    gi_wp2
    refine ⟨by simp, .inl ⟨_, _, rfl, run_takeDeferred HK1.out, ?_⟩⟩
    generalize (((W.setCell ⟨w.heap.size, 0, none⟩ (.slice ao ys.length c)).setCell ⟨w.heap.size + 1, 0, none⟩ (.int .i64 0)).setCell ⟨w.heap.size + 1, 1, none⟩ (.int .i64 0)) = Wf at HK1 HK2 HK3 HK4 HK5 ⊢
    have hd0 : w.heap.size ≠ D := by have := HD.out; omega
    have hd1 : w.heap.size + 1 ≠ D := by have := HD.out; omega
    have e0 : (Wf.putObj D (.deferred none)).cell? ⟨w.heap.size, 0, none⟩ = some (.slice ao ys.length c) := (World.cell?_of_block (World.putObj_heap_other hd0)).trans (Lib.cell_of_heap HK2.out 0)
    have e1 : (Wf.putObj D (.deferred none)).cell? ⟨w.heap.size + 1, 0, none⟩ = some (.int .i64 0) := (World.cell?_of_block (World.putObj_heap_other hd1)).trans (Lib.cell_of_heap HK3.out 0)
    have e2 : (Wf.putObj D (.deferred none)).cell? ⟨w.heap.size + 1, 1, none⟩ = some (.int .i64 0) := (World.cell?_of_block (World.putObj_heap_other hd1)).trans (Lib.cell_of_heap HK3.out 1)
    refine ⟨.tuple #[.slice ao ys.length c, .agg #[.int .i64 0, .int .i64 0]], by simp [results, Tryz.results30, go_sem, e0, e1, e2], ?_⟩
    rw [HRR.out]
    refine ⟨ao, c, rfl, owns_mono (ownsRow_putObj HK4.out _ HK1.out rfl) (by omega), below_grown HK5.out (grownBy_putObj' Wf D _) (fun r e => by cases e; have := HD.out; omega)⟩
  case stop =>
    rintro D c pre W hD hpre ⟨rfl, ⟨⟨q, x, rfl, hx, hq, hk1⟩, hk0, hb⟩⟩ hK
    clear hW4 HI0 hsrc hE4
    have hd : w.heap.size + 4 ≤ D := by omega
    have hfind := find_last q x _ hq hx hpre
    have HRR : Hid (r = ([], x.1.err, (x.2 : Int))) := by
      have e := HT.out
      rw [hfind] at e
      exact e
    clear hz4 hfind HT hpre hx hq hD
    have HK := Lib.hid hK
    clear hK
    gi_wp2
    refine ⟨by simp, .inl ⟨_, _, rfl, run_takeDeferred HK.out, ?_⟩⟩
    have hd0 : w.heap.size ≠ D := by omega
    have hd1 : w.heap.size + 1 ≠ D := by omega
    have e0 : (W.putObj D (.deferred none)).cell? ⟨w.heap.size, 0, none⟩ = some (.slice none 0 0) := (World.cell?_of_block (World.putObj_heap_other hd0)).trans (Lib.cell_of_heap hk0 0)
    have e1 : (W.putObj D (.deferred none)).cell? ⟨w.heap.size + 1, 0, none⟩ = some (.int .i64 x.1.err) := (World.cell?_of_block (World.putObj_heap_other hd1)).trans (Lib.cell_of_heap hk1 0)
    have e2 : (W.putObj D (.deferred none)).cell? ⟨w.heap.size + 1, 1, none⟩ = some (.int .i64 (x.2 : Int)) := (World.cell?_of_block (World.putObj_heap_other hd1)).trans (Lib.cell_of_heap hk1 1)
    refine ⟨.tuple #[.slice none 0 0, .agg #[.int .i64 x.1.err, .int .i64 (x.2 : Int)]], by simp [results, Tryz.results30, go_sem, e0, e1, e2], ?_⟩
    rw [HRR.out]
    exact ⟨none, 0, rfl, World.ownsRow_nil _ _ _ _, below_grown hb (grownBy_putObj' W D _) (fun r e => by cases e; omega)⟩

theorem tokens_any (s : ByteArray) (w : World) (he : Errs w) :
    Calls Tryz.prog 30 #[.string s] w (ToldP (toldOf s.data.toList) w) := by
  by_cases h : 16384 < s.size
  · exact tokens_long s w h
  · exact tokens_short s w (by omega) he
end Go.Proofs.YtfmjhbaenpbfoaaGreatDoor
