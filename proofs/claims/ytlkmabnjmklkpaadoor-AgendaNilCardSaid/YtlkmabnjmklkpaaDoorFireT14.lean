/- The program's Fire. -/
import Derived.Test.YtlkmabnjmklkpaaDoorFireL14
import Derived.Test.YtlkmabnjmklkpaaDoorSet14
namespace Go.Proofs.YtlkmabnjmklkpaaDoor
open Go.RowKit
set_option maxRecDepth 100000

/-- A match of the program's, wherever its rows lie. -/
def MvA14 (t : TK) (w : World) (v : Value) : Prop := ∃ a c d e, v = aggM t.1 a t.2.length c d e ∧ Mt w.heap.size w t a d
theorem MvA14.old {w w' : World} {t : TK} {v : Value} (h : MvA14 t w v) (b : Below w.heap.size w w') : MvA14 t w' v := by
  obtain ⟨a, c, d, e, h1, h2⟩ := h
  exact ⟨a, c, d, e, h1, h2.up b b.size⟩
theorem better_irrefl (s : List Int) (x : TK) : better14 s x x = false := by
  cases h : better14 s x x with
  | false => rfl
  | true =>
    have h1 := (cmp14_neg s x x).2 h
    have h2 := (cmp14_zero s x x).2 rfl
    omega
theorem posB_mem {s : List Int} {ws : List MV} {x : TK} (hr : Row14 s (ws.map Prod.fst)) : posB s ws x = true ↔ x ∈ ws.map Prod.fst := by
  unfold posB
  rw [decide_eq_true_iff]
  constructor
  · rintro ⟨h, e⟩
    exact List.mem_map.2 ⟨_, List.getElem_mem h, e⟩
  · intro hm
    obtain ⟨p, hp, rfl⟩ := List.mem_map.1 hm
    obtain ⟨k, hk, rfl⟩ := List.getElem_of_mem hp
    have ha := at14_pos (m := (ws[k]).1) hr
    have h1 : posA s ws (ws[k]).1 ≤ k := by
      rcases Nat.lt_or_ge k (posA s ws (ws[k]).1) with h | h
      · have := ha.lo k hk h
        rw [better_irrefl] at this
        cases this
      · exact h
    have h2 : k ≤ posA s ws (ws[k]).1 := by
      rcases Nat.lt_or_ge (posA s ws (ws[k]).1) k with h | h
      · have h3 := ha.hi _ (by omega) (Nat.le_refl _)
        have h4 := List.pairwise_iff_getElem.1 hr (posA s ws (ws[k]).1) k (by simp; omega) (by simpa using hk) h
        simp only [List.getElem_map] at h4
        rw [h4] at h3
        cases h3
      · exact h
    have h3 : posA s ws (ws[k]).1 = k := by omega
    exact ⟨by omega, by simp only [h3]⟩
theorem mem_unspent' {x : TK} {l : List TK} {sp : List Bool} {m : Nat} (hm : m < l.length) (e : l[m] = x) (hs : sp[m]? = some false) : x ∈ unspent l sp := by
  obtain ⟨h2, h3⟩ := List.getElem?_eq_some_iff.1 hs
  unfold unspent
  refine List.mem_map.2 ⟨(x, false), List.mem_filter.2 ⟨List.mem_iff_getElem.2 ⟨m, by simp; omega, ?_⟩, rfl⟩, rfl⟩
  rw [List.getElem_zip, e, h3]
theorem spent_iff {l : List TK} {sp : List Bool} {x : TK} (hn : l.Nodup) (hl : sp.length = l.length) : spentB l sp x = false ↔ x ∈ unspent l sp := by
  constructor
  · intro h
    unfold spentB at h
    split at h
    · cases h
    · rename_i hp
      have hm : x ∈ l := by
        apply Classical.byContradiction
        intro hm
        unfold placeI at hp
        rw [if_neg hm] at hp
        exact hp (by decide)
      obtain ⟨m, hm2, rfl⟩ := List.getElem_of_mem hm
      rw [placeI_nodup hn hm2, Int.toNat_natCast] at h
      refine mem_unspent' hm2 rfl ?_
      rw [List.getD_eq_getElem?_getD, List.getElem?_eq_getElem (by omega)] at h
      rw [List.getElem?_eq_getElem (by omega)]
      simpa using h
  · intro h
    obtain ⟨m, hm, rfl, hf⟩ := mem_unspent x l sp h
    unfold spentB
    rw [placeI_nodup hn hm, if_neg (by omega), Int.toNat_natCast, List.getD_eq_getElem?_getD, hf]
    rfl
theorem unspent_le (l : List TK) (sp : List Bool) : (unspent l sp).length ≤ l.length := by
  unfold unspent
  rw [List.length_map]
  refine Nat.le_trans (List.length_filter_le _ _) ?_
  rw [List.length_zip]
  exact Nat.min_le_left _ _
theorem fired_le (l : List TK) (sp : List Bool) : (firedOf l sp).length ≤ l.length := by
  unfold firedOf
  rw [List.length_map]
  refine Nat.le_trans (List.length_filter_le _ _) ?_
  rw [List.length_zip]
  exact Nat.min_le_left _ _
theorem unspent_not_fired {l : List TK} {sp : List Bool} {x : TK} (hn : l.Nodup) (h : x ∈ unspent l sp) : x ∉ firedOf l sp := fun hf => by
  obtain ⟨m, hm, rfl, h1⟩ := mem_unspent x l sp h
  obtain ⟨k, hk, e, h2⟩ := (mem_firedOf _ l sp).1 hf
  have := (List.getElem_inj hn).1 e
  subst this
  rw [h1] at h2
  cases h2
theorem WRow.slG {S : Nat → Prop} {w : World} {wo : Option Addr} {wc : Nat} {ws : List MV} (h : WRow w S wo wc ws) : SlG w.heap.size w wo (mcells ws) := fun hne => by
  obtain ⟨g, o, cur, e, hs, hg, hc⟩ := h.2.2 (fun e => hne (by rw [e]; rfl))
  exact ⟨g, o, e, lt_of_heap hg, fun j u hu => (Lib.cell_of_heap hg (o + j)).trans (hc j u hu)⟩
/-- Fired: what waits, what was fired, and the rest of the agenda. -/
theorem PAt.fired {w w' : World} {db lb : Nat} {s : List Int} {so : Option Addr} {sc : Nat} {wo : Option Addr} {wc mb : Nat} {ws F : List MV} {l : List TK} {sp : List Bool} {bs : Nat → Prop} (h : PAt w db lb s so sc wo wc mb ws F l sp bs) {k g o : Nat} {cur : Array Value} (hk : k < ws.length) (hwo : wo = some ⟨g, o, none⟩) (hbg : bs g) (hg : w.heap[g]? = some (.cells cur 59 (0, 0)))
    (hcell : ∀ (j : Nat) (u : Value), (mcells ws)[j]? = some u → cur[o + j]? = some u)
    (ht : Touch (fun b => b = lb ∨ b = g ∨ b = mb) w w') {vA : Option Addr} (hA : wc = 1 ∨ vA = some ⟨g, o + 3, none⟩) (hA0 : vA ≠ none) (hL : w'.heap[lb]? = some (.cells #[.slice so s.length sc, .slice vA (ws.length - 1) (wc - 1), .map (some mb)] 57 (0, 0))) (hG : w'.heap[g]? = some (.cells (moved14 cur o (mcells (ws.take k))) 59 (0, 0))) (hM : PMap w' mb (F ++ [ws[k]])) :
    PAt w' db lb s so sc vA (wc - 1) mb (ws.eraseIdx k) (F ++ [ws[k]]) l (fireS l sp (ws[k]).1) bs := by
  have hne : ∀ b, SI bs w b → ¬ (b = lb ∨ b = g ∨ b = mb) := fun b hb he => by
    obtain ⟨_, cur', fz, hq⟩ := hb
    rcases he with rfl | rfl | rfl
    · rw [h.hlb] at hq
      injection hq with hq
      injection hq with _ h5 _
      exact absurd h5 (by decide)
    · rw [hg] at hq
      injection hq with hq
      injection hq with _ h5 _
      exact absurd h5 (by decide)
    · obtain ⟨_, D, ⟨es, clock, h1, _⟩, _⟩ := h.map
      rw [h1] at hq
      cases hq
  have hSI : ∀ b, SI bs w b → SI bs w' b := fun b hb => by
    have hd := hne b hb
    obtain ⟨h1, cur', fz, hq⟩ := hb
    exact ⟨h1, cur', fz, (ht.block b (lt_of_heap hq) hd).trans hq⟩
  have hdb : ¬ (db = lb ∨ db = g ∨ db = mb) := fun he => by
    have hq := h.hdb
    rcases he with rfl | rfl | rfl
    · rw [h.hlb] at hq
      injection hq with hq
      injection hq with _ h5 _
      exact absurd h5 (by decide)
    · rw [hg] at hq
      injection hq with hq
      injection hq with _ h5 _
      exact absurd h5 (by decide)
    · obtain ⟨_, D, ⟨es, clock, h1, _⟩, _⟩ := h.map
      rw [h1] at hq
      cases hq
  have hmv : ∀ p, MvS (SI bs w) w p → MvS (SI bs w') w' p := fun p hp => (hp.touch ht hne).mono hSI
  have hmem : (ws[k]).1 ∈ unspent l sp := h.opn.mem_iff.1 (List.mem_map_of_mem (List.getElem_mem hk))
  obtain ⟨h1, h2, h3, h4, _, _⟩ := fire_open h.nod hmem
  have hel : (ws.eraseIdx k).length = ws.length - 1 := by rw [List.length_eraseIdx, if_pos hk]
  exact {
    hdb := (ht.block _ (lt_of_heap h.hdb) hdb).trans h.hdb
    hlb := by rw [hel]; exact hL
    bdb := h.bdb
    blb := h.blb
    bmb := h.bmb
    sal := (h.sal.touch ht hne).mono hSI
    row := by
      refine ⟨by rw [hel]; have := h.row.1; omega, fun e => absurd e hA0, fun hn => ?_⟩
      have hn0 : ws.length - 1 ≠ 0 := fun e => hn (List.eq_nil_of_length_eq_zero (by omega))
      have hw := h.row.1
      rcases hA with hA | hA
      · omega
      · exact ⟨g, o + 3, _, hA, hbg, hG, moved_at hk hcell⟩
    map := hM
    wok := fun p hp => by
      have := h.wok p (List.mem_of_mem_eraseIdx hp)
      exact ⟨hmv p this.1, this.2⟩
    fok := fun p hp => by
      rcases List.mem_append.1 hp with hp | hp
      · exact ⟨hmv p (h.fok p hp).1, (h.fok p hp).2⟩
      · obtain rfl := List.mem_singleton.1 hp
        have := h.wok _ (List.getElem_mem hk)
        exact ⟨hmv _ this.1, this.2⟩
    srt := List.Pairwise.sublist ((List.eraseIdx_sublist ws k).map _) h.srt
    opn := by
      have hp : (ws.map Prod.fst).Perm ((ws[k]).1 :: (ws.eraseIdx k).map Prod.fst) := by
        have h0 : (ws[k] :: ws.eraseIdx k).Perm ws := by
          have e : ws.take k ++ ws[k] :: ws.drop (k + 1) = ws := by rw [← List.drop_eq_getElem_cons hk, List.take_append_drop]
          rw [List.eraseIdx_eq_take_drop_succ]
          exact List.perm_middle.symm.trans (by rw [e])
        have := h0.map Prod.fst
        rw [List.map_cons] at this
        exact this.symm
      exact (List.perm_cons _).1 (hp.symm.trans (h.opn.trans h4))
    don := by
      rw [List.map_append]
      refine (List.perm_append_comm).trans ?_
      exact (List.Perm.cons _ h.don).trans h3.symm
    nod := h.nod
    len := h2.trans h.len
    lts := fun b hb => Nat.lt_of_lt_of_le (h.lts b hb) ht.size }
def frD (i : Nat) : Option Nat := ([some 11, some 12, some 13, some 14, some 15, some 16, some 17, some 10, some 18, some 19, some 5, some 6] : List (Option Nat)).getD i none
set_option linter.unusedVariables false in
def frF (w9 : World) (db lb b3 : Nat) (x : TK) (ao : Option Addr) (c pa : Nat) (pb : Bool) (l : Nat → Bool) (i : Nat) (w : World) (v : Value) : Prop :=
  match i with
  | 0 => v = .pointer (some ⟨db, 0, none⟩)
  | 1 => v = .pointer (some ⟨db, 0, none⟩)
  | 2 => v = .pointer (some ⟨db, 0, none⟩)
  | 3 => v = .pointer (some ⟨lb, 0, none⟩)
  | 4 => v = .agg #[.int .i64 x.1, .slice ao x.2.length c]
  | 5 => MvA14 x w v
  | 6 => v = .tuple #[.int .i64 (pa : Nat), .bool pb]
  | 7 => v = .tuple #[.int .i64 (pa : Nat), .bool pb]
  | 8 => v = .int .i64 (pa : Nat)
  | 9 => v = .bool pb
  | 10 => v = .int .i64 (pa : Nat)
  | 11 => v = .bool pb
  | _ => True
set_option linter.unusedVariables false in
def frJ (w9 : World) (db lb b3 : Nat) (x : TK) (ao : Option Addr) (c pa : Nat) (pb : Bool) (l : Nat → Bool) (w : World) : Prop := Below w9.heap.size w9 w
set_option linter.unusedVariables false in
theorem fr_mild (w9 : World) (db lb b3 : Nat) (x : TK) (ao : Option Addr) (c pa : Nat) (pb : Bool) : Mild (frF w9 db lb b3 x ao c pa pb) (frJ w9 db lb b3 x ao c pa pb) := by
  refine ⟨fun l i j w w' v hb h => ?_, fun l i w w' hb h => ?_⟩
  · match j with
    | 0 => exact h
    | 1 => exact h
    | 2 => exact h
    | 3 => exact h
    | 4 => exact h
    | 5 => exact h.old hb
    | 6 => exact h
    | 7 => exact h
    | 8 => exact h
    | 9 => exact h
    | 10 => exact h
    | 11 => exact h
    | k + 12 => trivial
  · exact h.trans (hb.mono h.size)
set_option linter.unusedVariables false in
theorem fr_s0 (w9 : World) (db lb b3 : Nat) (x : TK) (ao : Option Addr) (c pa : Nat) (pb : Bool) {ops : Array Oper} {Q : Exit → Act → World → Prop} {a0 a : Act} {w : World} {l : Nat → Bool} {ty : TypeId} {pos : String} {after : Array Edge} (e_0 : a0.eval (.tmp 0) = .pointer (some ⟨db, 0, none⟩)) (e_3 : a0.eval (.tmp 3) = .pointer (some ⟨b3, 0, none⟩)) (hm : ∀ W, Below w9.heap.size w9 W → W.cell? ⟨db, 0, none⟩ = some (.pointer (some ⟨lb, 0, none⟩)) ∧ W.cell? ⟨b3, 0, none⟩ = some (.int .i64 x.1) ∧ W.cell? ⟨b3, 1, none⟩ = some (.slice ao x.2.length c)) (hX : ∀ W, Below w9.heap.size w9 W → Calls Tryd.prog 24 #[.agg #[.int .i64 x.1, .slice ao x.2.length c]] W (MatP x W)) (hPl : ∀ W, Below w9.heap.size w9 W → ∀ m : MV, m.1 = x → Mt W.heap.size W m.1 m.2.1.1 m.2.2.1 → Calls Tryd.prog 23 #[.pointer (some ⟨lb, 0, none⟩), mval m] W fun e w' => e = .returned (.tuple #[.int .i64 (pa : Nat), .bool pb]) ∧ Gr W w') (hs : St ops frD (frF w9 db lb b3 x ao c pa pb) (frJ w9 db lb b3 x ao c pa pb) 12 a0 l a w) (hi : ops[0]? = some { dst := some 11, op := Op.move (Operand.tmp 0), type := ty, pos := pos, after := after, guard := none }) (nl : l 0 = false)  : wpOp Tryd.prog ops Q 0 (Did frD (frF w9 db lb b3 x ao c pa pb) (frJ w9 db lb b3 x ao c pa pb) 12 l 0 a) a w := by
  have e0 : a.eval (.tmp 0) = .pointer (some ⟨db, 0, none⟩) := (hs.kept 0 (by decide)).trans (e_0)
  have hK := did (fr_mild w9 db lb b3 x ao c pa pb) hs (v := .pointer (some ⟨db, 0, none⟩)) (d := 11) (i := 0) rfl (Below.refl _ w) rfl
  refine wpOp_move hi ?_
  rw [e0]
  exact hK
set_option linter.unusedVariables false in
theorem fr_s1 (w9 : World) (db lb b3 : Nat) (x : TK) (ao : Option Addr) (c pa : Nat) (pb : Bool) {ops : Array Oper} {Q : Exit → Act → World → Prop} {a0 a : Act} {w : World} {l : Nat → Bool} {ty : TypeId} {pos : String} {after : Array Edge} (e_0 : a0.eval (.tmp 0) = .pointer (some ⟨db, 0, none⟩)) (e_3 : a0.eval (.tmp 3) = .pointer (some ⟨b3, 0, none⟩)) (hm : ∀ W, Below w9.heap.size w9 W → W.cell? ⟨db, 0, none⟩ = some (.pointer (some ⟨lb, 0, none⟩)) ∧ W.cell? ⟨b3, 0, none⟩ = some (.int .i64 x.1) ∧ W.cell? ⟨b3, 1, none⟩ = some (.slice ao x.2.length c)) (hX : ∀ W, Below w9.heap.size w9 W → Calls Tryd.prog 24 #[.agg #[.int .i64 x.1, .slice ao x.2.length c]] W (MatP x W)) (hPl : ∀ W, Below w9.heap.size w9 W → ∀ m : MV, m.1 = x → Mt W.heap.size W m.1 m.2.1.1 m.2.2.1 → Calls Tryd.prog 23 #[.pointer (some ⟨lb, 0, none⟩), mval m] W fun e w' => e = .returned (.tuple #[.int .i64 (pa : Nat), .bool pb]) ∧ Gr W w') (hs : St ops frD (frF w9 db lb b3 x ao c pa pb) (frJ w9 db lb b3 x ao c pa pb) 12 a0 l a w) (hi : ops[1]? = some { dst := some 12, op := Op.nilCheck (Operand.tmp 11), type := ty, pos := pos, after := after, guard := none }) (nl : l 1 = false) (q0 : l 0 = true) : wpOp Tryd.prog ops Q 1 (Did frD (frF w9 db lb b3 x ao c pa pb) (frJ w9 db lb b3 x ao c pa pb) 12 l 1 a) a w := by
  have e11 : frF w9 db lb b3 x ao c pa pb l 0 w (a.eval (.tmp 11)) := hs.get (by decide) q0 rfl
  have e11 : a.eval (.tmp 11) = .pointer (some ⟨db, 0, none⟩) := e11
  have hK := did (fr_mild w9 db lb b3 x ao c pa pb) hs (v := .pointer (some ⟨db, 0, none⟩)) (d := 12) (i := 1) rfl (Below.refl _ w) rfl
  exact wpOp_nilCheck hi e11 hK
set_option linter.unusedVariables false in
theorem fr_s2 (w9 : World) (db lb b3 : Nat) (x : TK) (ao : Option Addr) (c pa : Nat) (pb : Bool) {ops : Array Oper} {Q : Exit → Act → World → Prop} {a0 a : Act} {w : World} {l : Nat → Bool} {ty : TypeId} {pos : String} {after : Array Edge} (e_0 : a0.eval (.tmp 0) = .pointer (some ⟨db, 0, none⟩)) (e_3 : a0.eval (.tmp 3) = .pointer (some ⟨b3, 0, none⟩)) (hm : ∀ W, Below w9.heap.size w9 W → W.cell? ⟨db, 0, none⟩ = some (.pointer (some ⟨lb, 0, none⟩)) ∧ W.cell? ⟨b3, 0, none⟩ = some (.int .i64 x.1) ∧ W.cell? ⟨b3, 1, none⟩ = some (.slice ao x.2.length c)) (hX : ∀ W, Below w9.heap.size w9 W → Calls Tryd.prog 24 #[.agg #[.int .i64 x.1, .slice ao x.2.length c]] W (MatP x W)) (hPl : ∀ W, Below w9.heap.size w9 W → ∀ m : MV, m.1 = x → Mt W.heap.size W m.1 m.2.1.1 m.2.2.1 → Calls Tryd.prog 23 #[.pointer (some ⟨lb, 0, none⟩), mval m] W fun e w' => e = .returned (.tuple #[.int .i64 (pa : Nat), .bool pb]) ∧ Gr W w') (hs : St ops frD (frF w9 db lb b3 x ao c pa pb) (frJ w9 db lb b3 x ao c pa pb) 12 a0 l a w) (hi : ops[2]? = some { dst := some 13, op := Op.fieldAddr 29 (Operand.tmp 12) 0, type := ty, pos := pos, after := after, guard := none }) (nl : l 2 = false) (q1 : l 1 = true) : wpOp Tryd.prog ops Q 2 (Did frD (frF w9 db lb b3 x ao c pa pb) (frJ w9 db lb b3 x ao c pa pb) 12 l 2 a) a w := by
  have e12 : frF w9 db lb b3 x ao c pa pb l 1 w (a.eval (.tmp 12)) := hs.get (by decide) q1 rfl
  have e12 : a.eval (.tmp 12) = .pointer (some ⟨db, 0, none⟩) := e12
  have hK := did (fr_mild w9 db lb b3 x ao c pa pb) hs (v := .pointer (some ⟨db, 0, none⟩)) (d := 13) (i := 2) rfl (Below.refl _ w) rfl
  refine wpOp_go hi rfl ?_
  unfold Oper.wp
  have KK := Lib.hid hK
  clear hK hi
  generalize a.eval = ρ at *
  go_simp
  exact KK.out
set_option linter.unusedVariables false in
theorem fr_s3 (w9 : World) (db lb b3 : Nat) (x : TK) (ao : Option Addr) (c pa : Nat) (pb : Bool) {ops : Array Oper} {Q : Exit → Act → World → Prop} {a0 a : Act} {w : World} {l : Nat → Bool} {ty : TypeId} {pos : String} {after : Array Edge} (e_0 : a0.eval (.tmp 0) = .pointer (some ⟨db, 0, none⟩)) (e_3 : a0.eval (.tmp 3) = .pointer (some ⟨b3, 0, none⟩)) (hm : ∀ W, Below w9.heap.size w9 W → W.cell? ⟨db, 0, none⟩ = some (.pointer (some ⟨lb, 0, none⟩)) ∧ W.cell? ⟨b3, 0, none⟩ = some (.int .i64 x.1) ∧ W.cell? ⟨b3, 1, none⟩ = some (.slice ao x.2.length c)) (hX : ∀ W, Below w9.heap.size w9 W → Calls Tryd.prog 24 #[.agg #[.int .i64 x.1, .slice ao x.2.length c]] W (MatP x W)) (hPl : ∀ W, Below w9.heap.size w9 W → ∀ m : MV, m.1 = x → Mt W.heap.size W m.1 m.2.1.1 m.2.2.1 → Calls Tryd.prog 23 #[.pointer (some ⟨lb, 0, none⟩), mval m] W fun e w' => e = .returned (.tuple #[.int .i64 (pa : Nat), .bool pb]) ∧ Gr W w') (hs : St ops frD (frF w9 db lb b3 x ao c pa pb) (frJ w9 db lb b3 x ao c pa pb) 12 a0 l a w) (hi : ops[3]? = some { dst := some 14, op := Op.load 27 (Operand.tmp 13), type := ty, pos := pos, after := after, guard := none }) (nl : l 3 = false) (q2 : l 2 = true) : wpOp Tryd.prog ops Q 3 (Did frD (frF w9 db lb b3 x ao c pa pb) (frJ w9 db lb b3 x ao c pa pb) 12 l 3 a) a w := by
  have e13 : frF w9 db lb b3 x ao c pa pb l 2 w (a.eval (.tmp 13)) := hs.get (by decide) q2 rfl
  have f13 : a.eval (.tmp 13) = .pointer (some ⟨db, 0, none⟩) := e13
  obtain ⟨h1, h2, h3⟩ := hm w hs.j
  have hK := did (fr_mild w9 db lb b3 x ao c pa pb) hs (v := .pointer (some ⟨lb, 0, none⟩)) (d := 14) (i := 3) rfl (Below.refl _ w) rfl
  refine wpOp_go hi rfl ?_
  unfold Oper.wp
  have KK := Lib.hid hK
  clear hK hi e13 hs
  generalize a.eval = ρ at *
  go_simp
  exact KK.out
set_option linter.unusedVariables false in
theorem fr_s4 (w9 : World) (db lb b3 : Nat) (x : TK) (ao : Option Addr) (c pa : Nat) (pb : Bool) {ops : Array Oper} {Q : Exit → Act → World → Prop} {a0 a : Act} {w : World} {l : Nat → Bool} {ty : TypeId} {pos : String} {after : Array Edge} (e_0 : a0.eval (.tmp 0) = .pointer (some ⟨db, 0, none⟩)) (e_3 : a0.eval (.tmp 3) = .pointer (some ⟨b3, 0, none⟩)) (hm : ∀ W, Below w9.heap.size w9 W → W.cell? ⟨db, 0, none⟩ = some (.pointer (some ⟨lb, 0, none⟩)) ∧ W.cell? ⟨b3, 0, none⟩ = some (.int .i64 x.1) ∧ W.cell? ⟨b3, 1, none⟩ = some (.slice ao x.2.length c)) (hX : ∀ W, Below w9.heap.size w9 W → Calls Tryd.prog 24 #[.agg #[.int .i64 x.1, .slice ao x.2.length c]] W (MatP x W)) (hPl : ∀ W, Below w9.heap.size w9 W → ∀ m : MV, m.1 = x → Mt W.heap.size W m.1 m.2.1.1 m.2.2.1 → Calls Tryd.prog 23 #[.pointer (some ⟨lb, 0, none⟩), mval m] W fun e w' => e = .returned (.tuple #[.int .i64 (pa : Nat), .bool pb]) ∧ Gr W w') (hs : St ops frD (frF w9 db lb b3 x ao c pa pb) (frJ w9 db lb b3 x ao c pa pb) 12 a0 l a w) (hi : ops[4]? = some { dst := some 15, op := Op.load 24 (Operand.tmp 3), type := ty, pos := pos, after := after, guard := none }) (nl : l 4 = false)  : wpOp Tryd.prog ops Q 4 (Did frD (frF w9 db lb b3 x ao c pa pb) (frJ w9 db lb b3 x ao c pa pb) 12 l 4 a) a w := by
  have e3 : a.eval (.tmp 3) = .pointer (some ⟨b3, 0, none⟩) := (hs.kept 3 (by decide)).trans (e_3)
  have f3 : a.eval (.tmp 3) = .pointer (some ⟨b3, 0, none⟩) := e3
  obtain ⟨h1, h2, h3⟩ := hm w hs.j
  have hK := did (fr_mild w9 db lb b3 x ao c pa pb) hs (v := .agg #[.int .i64 x.1, .slice ao x.2.length c]) (d := 15) (i := 4) rfl (Below.refl _ w) rfl
  refine wpOp_go hi rfl ?_
  unfold Oper.wp
  have KK := Lib.hid hK
  clear hK hi e3 hs
  generalize a.eval = ρ at *
  go_simp
  exact KK.out
set_option linter.unusedVariables false in
theorem fr_s5 (w9 : World) (db lb b3 : Nat) (x : TK) (ao : Option Addr) (c pa : Nat) (pb : Bool) {ops : Array Oper} {Q : Exit → Act → World → Prop} {a0 a : Act} {w : World} {l : Nat → Bool} {ty : TypeId} {pos : String} {after : Array Edge} (e_0 : a0.eval (.tmp 0) = .pointer (some ⟨db, 0, none⟩)) (e_3 : a0.eval (.tmp 3) = .pointer (some ⟨b3, 0, none⟩)) (hm : ∀ W, Below w9.heap.size w9 W → W.cell? ⟨db, 0, none⟩ = some (.pointer (some ⟨lb, 0, none⟩)) ∧ W.cell? ⟨b3, 0, none⟩ = some (.int .i64 x.1) ∧ W.cell? ⟨b3, 1, none⟩ = some (.slice ao x.2.length c)) (hX : ∀ W, Below w9.heap.size w9 W → Calls Tryd.prog 24 #[.agg #[.int .i64 x.1, .slice ao x.2.length c]] W (MatP x W)) (hPl : ∀ W, Below w9.heap.size w9 W → ∀ m : MV, m.1 = x → Mt W.heap.size W m.1 m.2.1.1 m.2.2.1 → Calls Tryd.prog 23 #[.pointer (some ⟨lb, 0, none⟩), mval m] W fun e w' => e = .returned (.tuple #[.int .i64 (pa : Nat), .bool pb]) ∧ Gr W w') (hs : St ops frD (frF w9 db lb b3 x ao c pa pb) (frJ w9 db lb b3 x ao c pa pb) 12 a0 l a w) (hi : ops[5]? = some { dst := some 16, op := Op.call { callee := Callee.value (Operand.func 24), args := #[Operand.tmp 15], argTypes := #[24] }, type := ty, pos := pos, after := after, guard := none }) (nl : l 5 = false) (q4 : l 4 = true) : wpOp Tryd.prog ops Q 5 (Did frD (frF w9 db lb b3 x ao c pa pb) (frJ w9 db lb b3 x ao c pa pb) 12 l 5 a) a w := by
  have e15 : frF w9 db lb b3 x ao c pa pb l 4 w (a.eval (.tmp 15)) := hs.get (by decide) q4 rfl
  have f15 : a.eval (.tmp 15) = .agg #[.int .i64 x.1, .slice ao x.2.length c] := e15
  refine wpOp_callW (vs := #[.agg #[.int .i64 x.1, .slice ao x.2.length c]]) hi rfl (enters_of Tryd.func24 (by kernel_rfl) rfl) (by simp [f15]) ?_
  refine (hX w hs.j).mono ?_
  rintro e w' ⟨v, u, rfl, ho, ho2, hb⟩
  obtain ⟨bo, oc, rfl⟩ := owns_slice ho
  obtain ⟨ao2, oc2, rfl⟩ := owns_slice ho2
  exact ⟨_, rfl, did (fr_mild w9 db lb b3 x ao c pa pb) hs (d := 16) (i := 5) rfl hb ⟨bo, oc, ao2, oc2, rfl, ⟨owns_slG ho, owns_slG ho2⟩⟩⟩
set_option linter.unusedVariables false in
theorem fr_s6 (w9 : World) (db lb b3 : Nat) (x : TK) (ao : Option Addr) (c pa : Nat) (pb : Bool) {ops : Array Oper} {Q : Exit → Act → World → Prop} {a0 a : Act} {w : World} {l : Nat → Bool} {ty : TypeId} {pos : String} {after : Array Edge} (e_0 : a0.eval (.tmp 0) = .pointer (some ⟨db, 0, none⟩)) (e_3 : a0.eval (.tmp 3) = .pointer (some ⟨b3, 0, none⟩)) (hm : ∀ W, Below w9.heap.size w9 W → W.cell? ⟨db, 0, none⟩ = some (.pointer (some ⟨lb, 0, none⟩)) ∧ W.cell? ⟨b3, 0, none⟩ = some (.int .i64 x.1) ∧ W.cell? ⟨b3, 1, none⟩ = some (.slice ao x.2.length c)) (hX : ∀ W, Below w9.heap.size w9 W → Calls Tryd.prog 24 #[.agg #[.int .i64 x.1, .slice ao x.2.length c]] W (MatP x W)) (hPl : ∀ W, Below w9.heap.size w9 W → ∀ m : MV, m.1 = x → Mt W.heap.size W m.1 m.2.1.1 m.2.2.1 → Calls Tryd.prog 23 #[.pointer (some ⟨lb, 0, none⟩), mval m] W fun e w' => e = .returned (.tuple #[.int .i64 (pa : Nat), .bool pb]) ∧ Gr W w') (hs : St ops frD (frF w9 db lb b3 x ao c pa pb) (frJ w9 db lb b3 x ao c pa pb) 12 a0 l a w) (hi : ops[6]? = some { dst := some 17, op := Op.call { callee := Callee.value (Operand.func 23), args := #[Operand.tmp 14, Operand.tmp 16], argTypes := #[27, 59] }, type := ty, pos := pos, after := after, guard := none }) (nl : l 6 = false) (q3 : l 3 = true) (q5 : l 5 = true) : wpOp Tryd.prog ops Q 6 (Did frD (frF w9 db lb b3 x ao c pa pb) (frJ w9 db lb b3 x ao c pa pb) 12 l 6 a) a w := by
  have e14 : frF w9 db lb b3 x ao c pa pb l 3 w (a.eval (.tmp 14)) := hs.get (by decide) q3 rfl
  have e16 : frF w9 db lb b3 x ao c pa pb l 5 w (a.eval (.tmp 16)) := hs.get (by decide) q5 rfl
  have f14 : a.eval (.tmp 14) = .pointer (some ⟨lb, 0, none⟩) := e14
  obtain ⟨xa, xc, xd, xe, f16, hx⟩ := e16
  refine wpOp_callW (vs := #[.pointer (some ⟨lb, 0, none⟩), mval (x, (xa, xc), (xd, xe))]) hi rfl (enters_of Tryd.func23 (by kernel_rfl) rfl) (by simp [f14, f16, mval]) ?_
  refine (hPl w hs.j (x, (xa, xc), (xd, xe)) rfl hx).mono ?_
  rintro e w' ⟨rfl, hb⟩
  exact ⟨_, rfl, did (fr_mild w9 db lb b3 x ao c pa pb) hs (d := 17) (i := 6) rfl hb.below rfl⟩
set_option linter.unusedVariables false in
theorem fr_s7 (w9 : World) (db lb b3 : Nat) (x : TK) (ao : Option Addr) (c pa : Nat) (pb : Bool) {ops : Array Oper} {Q : Exit → Act → World → Prop} {a0 a : Act} {w : World} {l : Nat → Bool} {ty : TypeId} {pos : String} {after : Array Edge} (e_0 : a0.eval (.tmp 0) = .pointer (some ⟨db, 0, none⟩)) (e_3 : a0.eval (.tmp 3) = .pointer (some ⟨b3, 0, none⟩)) (hm : ∀ W, Below w9.heap.size w9 W → W.cell? ⟨db, 0, none⟩ = some (.pointer (some ⟨lb, 0, none⟩)) ∧ W.cell? ⟨b3, 0, none⟩ = some (.int .i64 x.1) ∧ W.cell? ⟨b3, 1, none⟩ = some (.slice ao x.2.length c)) (hX : ∀ W, Below w9.heap.size w9 W → Calls Tryd.prog 24 #[.agg #[.int .i64 x.1, .slice ao x.2.length c]] W (MatP x W)) (hPl : ∀ W, Below w9.heap.size w9 W → ∀ m : MV, m.1 = x → Mt W.heap.size W m.1 m.2.1.1 m.2.2.1 → Calls Tryd.prog 23 #[.pointer (some ⟨lb, 0, none⟩), mval m] W fun e w' => e = .returned (.tuple #[.int .i64 (pa : Nat), .bool pb]) ∧ Gr W w') (hs : St ops frD (frF w9 db lb b3 x ao c pa pb) (frJ w9 db lb b3 x ao c pa pb) 12 a0 l a w) (hi : ops[7]? = some { dst := some 10, op := Op.move (Operand.tmp 17), type := ty, pos := pos, after := after, guard := none }) (nl : l 7 = false) (q6 : l 6 = true) : wpOp Tryd.prog ops Q 7 (Did frD (frF w9 db lb b3 x ao c pa pb) (frJ w9 db lb b3 x ao c pa pb) 12 l 7 a) a w := by
  have e17 : frF w9 db lb b3 x ao c pa pb l 6 w (a.eval (.tmp 17)) := hs.get (by decide) q6 rfl
  have e17 : a.eval (.tmp 17) = .tuple #[.int .i64 (pa : Nat), .bool pb] := e17
  have hK := did (fr_mild w9 db lb b3 x ao c pa pb) hs (v := .tuple #[.int .i64 (pa : Nat), .bool pb]) (d := 10) (i := 7) rfl (Below.refl _ w) rfl
  refine wpOp_move hi ?_
  rw [e17]
  exact hK
set_option linter.unusedVariables false in
theorem fr_s8 (w9 : World) (db lb b3 : Nat) (x : TK) (ao : Option Addr) (c pa : Nat) (pb : Bool) {ops : Array Oper} {Q : Exit → Act → World → Prop} {a0 a : Act} {w : World} {l : Nat → Bool} {ty : TypeId} {pos : String} {after : Array Edge} (e_0 : a0.eval (.tmp 0) = .pointer (some ⟨db, 0, none⟩)) (e_3 : a0.eval (.tmp 3) = .pointer (some ⟨b3, 0, none⟩)) (hm : ∀ W, Below w9.heap.size w9 W → W.cell? ⟨db, 0, none⟩ = some (.pointer (some ⟨lb, 0, none⟩)) ∧ W.cell? ⟨b3, 0, none⟩ = some (.int .i64 x.1) ∧ W.cell? ⟨b3, 1, none⟩ = some (.slice ao x.2.length c)) (hX : ∀ W, Below w9.heap.size w9 W → Calls Tryd.prog 24 #[.agg #[.int .i64 x.1, .slice ao x.2.length c]] W (MatP x W)) (hPl : ∀ W, Below w9.heap.size w9 W → ∀ m : MV, m.1 = x → Mt W.heap.size W m.1 m.2.1.1 m.2.2.1 → Calls Tryd.prog 23 #[.pointer (some ⟨lb, 0, none⟩), mval m] W fun e w' => e = .returned (.tuple #[.int .i64 (pa : Nat), .bool pb]) ∧ Gr W w') (hs : St ops frD (frF w9 db lb b3 x ao c pa pb) (frJ w9 db lb b3 x ao c pa pb) 12 a0 l a w) (hi : ops[8]? = some { dst := some 18, op := Op.extract (Operand.tmp 10) 0, type := ty, pos := pos, after := after, guard := none }) (nl : l 8 = false) (q7 : l 7 = true) : wpOp Tryd.prog ops Q 8 (Did frD (frF w9 db lb b3 x ao c pa pb) (frJ w9 db lb b3 x ao c pa pb) 12 l 8 a) a w := by
  have e10 : frF w9 db lb b3 x ao c pa pb l 7 w (a.eval (.tmp 10)) := hs.get (by decide) q7 rfl
  have f10 : a.eval (.tmp 10) = .tuple #[.int .i64 (pa : Nat), .bool pb] := e10
  exact wpOp_extract hi f10 rfl (did (fr_mild w9 db lb b3 x ao c pa pb) hs (v := .int .i64 (pa : Nat)) (d := 18) (i := 8) rfl (Below.refl _ w) rfl)
set_option linter.unusedVariables false in
theorem fr_s9 (w9 : World) (db lb b3 : Nat) (x : TK) (ao : Option Addr) (c pa : Nat) (pb : Bool) {ops : Array Oper} {Q : Exit → Act → World → Prop} {a0 a : Act} {w : World} {l : Nat → Bool} {ty : TypeId} {pos : String} {after : Array Edge} (e_0 : a0.eval (.tmp 0) = .pointer (some ⟨db, 0, none⟩)) (e_3 : a0.eval (.tmp 3) = .pointer (some ⟨b3, 0, none⟩)) (hm : ∀ W, Below w9.heap.size w9 W → W.cell? ⟨db, 0, none⟩ = some (.pointer (some ⟨lb, 0, none⟩)) ∧ W.cell? ⟨b3, 0, none⟩ = some (.int .i64 x.1) ∧ W.cell? ⟨b3, 1, none⟩ = some (.slice ao x.2.length c)) (hX : ∀ W, Below w9.heap.size w9 W → Calls Tryd.prog 24 #[.agg #[.int .i64 x.1, .slice ao x.2.length c]] W (MatP x W)) (hPl : ∀ W, Below w9.heap.size w9 W → ∀ m : MV, m.1 = x → Mt W.heap.size W m.1 m.2.1.1 m.2.2.1 → Calls Tryd.prog 23 #[.pointer (some ⟨lb, 0, none⟩), mval m] W fun e w' => e = .returned (.tuple #[.int .i64 (pa : Nat), .bool pb]) ∧ Gr W w') (hs : St ops frD (frF w9 db lb b3 x ao c pa pb) (frJ w9 db lb b3 x ao c pa pb) 12 a0 l a w) (hi : ops[9]? = some { dst := some 19, op := Op.extract (Operand.tmp 10) 1, type := ty, pos := pos, after := after, guard := none }) (nl : l 9 = false) (q7 : l 7 = true) : wpOp Tryd.prog ops Q 9 (Did frD (frF w9 db lb b3 x ao c pa pb) (frJ w9 db lb b3 x ao c pa pb) 12 l 9 a) a w := by
  have e10 : frF w9 db lb b3 x ao c pa pb l 7 w (a.eval (.tmp 10)) := hs.get (by decide) q7 rfl
  have f10 : a.eval (.tmp 10) = .tuple #[.int .i64 (pa : Nat), .bool pb] := e10
  exact wpOp_extract hi f10 rfl (did (fr_mild w9 db lb b3 x ao c pa pb) hs (v := .bool pb) (d := 19) (i := 9) rfl (Below.refl _ w) rfl)
set_option linter.unusedVariables false in
theorem fr_s10 (w9 : World) (db lb b3 : Nat) (x : TK) (ao : Option Addr) (c pa : Nat) (pb : Bool) {ops : Array Oper} {Q : Exit → Act → World → Prop} {a0 a : Act} {w : World} {l : Nat → Bool} {ty : TypeId} {pos : String} {after : Array Edge} (e_0 : a0.eval (.tmp 0) = .pointer (some ⟨db, 0, none⟩)) (e_3 : a0.eval (.tmp 3) = .pointer (some ⟨b3, 0, none⟩)) (hm : ∀ W, Below w9.heap.size w9 W → W.cell? ⟨db, 0, none⟩ = some (.pointer (some ⟨lb, 0, none⟩)) ∧ W.cell? ⟨b3, 0, none⟩ = some (.int .i64 x.1) ∧ W.cell? ⟨b3, 1, none⟩ = some (.slice ao x.2.length c)) (hX : ∀ W, Below w9.heap.size w9 W → Calls Tryd.prog 24 #[.agg #[.int .i64 x.1, .slice ao x.2.length c]] W (MatP x W)) (hPl : ∀ W, Below w9.heap.size w9 W → ∀ m : MV, m.1 = x → Mt W.heap.size W m.1 m.2.1.1 m.2.2.1 → Calls Tryd.prog 23 #[.pointer (some ⟨lb, 0, none⟩), mval m] W fun e w' => e = .returned (.tuple #[.int .i64 (pa : Nat), .bool pb]) ∧ Gr W w') (hs : St ops frD (frF w9 db lb b3 x ao c pa pb) (frJ w9 db lb b3 x ao c pa pb) 12 a0 l a w) (hi : ops[10]? = some { dst := some 5, op := Op.assign (Operand.tmp 18), type := ty, pos := pos, after := after, guard := none }) (nl : l 10 = false) (q0 : l 0 = true) (q1 : l 1 = true) (q2 : l 2 = true) (q3 : l 3 = true) (q4 : l 4 = true) (q5 : l 5 = true) (q6 : l 6 = true) (q7 : l 7 = true) (q8 : l 8 = true) : wpOp Tryd.prog ops Q 10 (Did frD (frF w9 db lb b3 x ao c pa pb) (frJ w9 db lb b3 x ao c pa pb) 12 l 10 a) a w := by
  have e18 : frF w9 db lb b3 x ao c pa pb l 8 w (a.eval (.tmp 18)) := hs.get (by decide) q8 rfl
  have e18 : a.eval (.tmp 18) = .int .i64 (pa : Nat) := e18
  have hK := did (fr_mild w9 db lb b3 x ao c pa pb) hs (v := .int .i64 (pa : Nat)) (d := 5) (i := 10) rfl (Below.refl _ w) rfl
  refine wpOp_assign hi ?_
  rw [e18]
  exact hK
set_option linter.unusedVariables false in
theorem fr_s11 (w9 : World) (db lb b3 : Nat) (x : TK) (ao : Option Addr) (c pa : Nat) (pb : Bool) {ops : Array Oper} {Q : Exit → Act → World → Prop} {a0 a : Act} {w : World} {l : Nat → Bool} {ty : TypeId} {pos : String} {after : Array Edge} (e_0 : a0.eval (.tmp 0) = .pointer (some ⟨db, 0, none⟩)) (e_3 : a0.eval (.tmp 3) = .pointer (some ⟨b3, 0, none⟩)) (hm : ∀ W, Below w9.heap.size w9 W → W.cell? ⟨db, 0, none⟩ = some (.pointer (some ⟨lb, 0, none⟩)) ∧ W.cell? ⟨b3, 0, none⟩ = some (.int .i64 x.1) ∧ W.cell? ⟨b3, 1, none⟩ = some (.slice ao x.2.length c)) (hX : ∀ W, Below w9.heap.size w9 W → Calls Tryd.prog 24 #[.agg #[.int .i64 x.1, .slice ao x.2.length c]] W (MatP x W)) (hPl : ∀ W, Below w9.heap.size w9 W → ∀ m : MV, m.1 = x → Mt W.heap.size W m.1 m.2.1.1 m.2.2.1 → Calls Tryd.prog 23 #[.pointer (some ⟨lb, 0, none⟩), mval m] W fun e w' => e = .returned (.tuple #[.int .i64 (pa : Nat), .bool pb]) ∧ Gr W w') (hs : St ops frD (frF w9 db lb b3 x ao c pa pb) (frJ w9 db lb b3 x ao c pa pb) 12 a0 l a w) (hi : ops[11]? = some { dst := some 6, op := Op.assign (Operand.tmp 19), type := ty, pos := pos, after := after, guard := none }) (nl : l 11 = false) (q0 : l 0 = true) (q1 : l 1 = true) (q2 : l 2 = true) (q3 : l 3 = true) (q4 : l 4 = true) (q5 : l 5 = true) (q6 : l 6 = true) (q7 : l 7 = true) (q8 : l 8 = true) (q9 : l 9 = true) (q10 : l 10 = true) : wpOp Tryd.prog ops Q 11 (Did frD (frF w9 db lb b3 x ao c pa pb) (frJ w9 db lb b3 x ao c pa pb) 12 l 11 a) a w := by
  have e19 : frF w9 db lb b3 x ao c pa pb l 9 w (a.eval (.tmp 19)) := hs.get (by decide) q9 rfl
  have e19 : a.eval (.tmp 19) = .bool pb := e19
  have hK := did (fr_mild w9 db lb b3 x ao c pa pb) hs (v := .bool pb) (d := 6) (i := 11) rfl (Below.refl _ w) rfl
  refine wpOp_assign hi ?_
  rw [e19]
  exact hK
set_option maxHeartbeats 4000000 in
theorem fire_tells : FireTells PAg := by
  intro s l sp x db bs ao c w hs64 hl hxl hP hx hnil hcap htab
  have mixed : Tryd.prog.follows .mixedOrders = true := by kernel_rfl
  obtain ⟨lb, so, sc, wo, wc, mb, ws, FF, h⟩ := hP
  have HP := Lib.hid h
  have HT := Lib.hid htab
  have hws : ws.length ≤ 1000000 := by
    have h1 := h.opn.length_eq
    have h2 := unspent_le l sp
    rw [List.length_map] at h1
    omega
  have HFl : Hid (FF.length ≤ 1000000) := by
    have h1 := h.don.length_eq
    have h2 := fired_le l sp
    rw [List.length_map] at h1
    show _ ≤ _
    omega
  have c0 : w.cell? ⟨db, 0, none⟩ = some (.pointer (some ⟨lb, 0, none⟩)) := Lib.cell_of_heap h.hdb 0
  have HB0 : Hid (Below w.heap.size w (w.alloc (.cells #[.int .i64 x.1, .slice ao x.2.length c] 24))) := below_own _
  have HQ0 : Hid ((w.alloc (.cells #[.int .i64 x.1, .slice ao x.2.length c] 24)).heap[w.heap.size]? = some (.cells #[.int .i64 x.1, .slice ao x.2.length c] 24 (0, 0))) := heap_alloc_new w _
  have KM := Lib.hid (made_any db lb _ ((HB0.out.cell (p := ⟨db, 0, none⟩) (lt_of_heap h.hdb)).trans c0))
  have HX := Lib.hid hx
  clear h htab hx c0
  go_enter Tryd.func9, Tryd.ntmps9
  go_wp2_with (go_at_call 18; refine KM.out.mono ?_; rintro e w1 ⟨rfl, hw⟩; rw [hw]; clear hw)
  generalize hW : (w.alloc (.cells #[.int .i64 x.1, .slice ao x.2.length c] 24)) = W0 at HB0 HQ0 ⊢
  clear hW KM
  generalize ha0 : ({ tmps := _, defers := _ } : Act) = a0
  have e_0 : a0.eval (.tmp 0) = .pointer (some ⟨db, 0, none⟩) := by rw [← ha0]; rfl
  have e_3 : a0.eval (.tmp 3) = .pointer (some ⟨w.heap.size, 0, none⟩) := by rw [← ha0]; rfl
  have hsz : a0.tmps.size = 28 := by rw [← ha0]; rfl
  have hbw : ∀ W, Below W0.heap.size W0 W → Below w.heap.size w W := fun W hW => HB0.out.trans (hW.mono HB0.out.size)
  have hm : ∀ W, Below W0.heap.size W0 W → W.cell? ⟨db, 0, none⟩ = some (.pointer (some ⟨lb, 0, none⟩)) ∧ W.cell? ⟨w.heap.size, 0, none⟩ = some (.int .i64 x.1) ∧ W.cell? ⟨w.heap.size, 1, none⟩ = some (.slice ao x.2.length c) := fun W hW => by
    have h1 := ((hbw W hW).block db (lt_of_heap HP.out.hdb)).trans HP.out.hdb
    have h2 := (hW.block w.heap.size (lt_of_heap HQ0.out)).trans HQ0.out
    exact ⟨Lib.cell_of_heap h1 0, Lib.cell_of_heap h2 0, Lib.cell_of_heap h2 1⟩
  have hX : ∀ W, Below W0.heap.size W0 W → Calls Tryd.prog 24 #[aggK x.1 ao x.2.length c] W (MatP x W) := fun W hW => matchOf_any x ao c W (HX.out.up (hbw W hW) (hbw W hW).size) hnil hcap hxl
  have hPl : ∀ W, Below W0.heap.size W0 W → ∀ m : MV, m.1 = x → Mt W.heap.size W m.1 m.2.1.1 m.2.2.1 → Calls Tryd.prog 23 #[.pointer (some ⟨lb, 0, none⟩), mval m] W fun e w' => e = .returned (.tuple #[.int .i64 (posA s ws x : Nat), .bool (posB s ws x)]) ∧ Gr W w' := fun W hW m hmx hmm => by
    have hp := HP.out.touch (T := fun _ => False) (Touch.of_below (hbw W hW) _) (fun _ _ h => h)
    have := place_any s lb mb so wo sc wc ws.length ws m W hp.hlb rfl hws hp.sal.slG hp.row.slG (fun p hq => ⟨(hp.wok p hq).1.mt, (hp.wok p hq).2.len⟩) hp.srt hmm (by rw [hmx]; exact hxl)
    rwa [hmx] at this
  have HPosB := Lib.hid (posB_mem (x := x) HP.out.srt)
  have HPosIs : Hid (posB s ws x = true → ∃ h : posA s ws x < ws.length, (ws[posA s ws x]).1 = x) := fun h => by
    unfold posB at h
    exact of_decide_eq_true h
  generalize posA s ws x = pa at hPl HPosIs
  generalize posB s ws x = pb at hPl HPosIs HPosB
  refine wp_region_st frD (frF W0 db lb w.heap.size x ao c pa pb) (frJ W0 db lb w.heap.size x ao c pa pb) 12 mixed (by kernel_rfl) rfl (by kernel_rfl) (by rw [hsz]; kernel_rfl) (below_drew (Below.refl _ _))
      (fun ll aa ww i hi hs nl hw => by
        have h : i = 0 ∨ i = 1 ∨ i = 2 ∨ i = 3 ∨ i = 4 ∨ i = 5 ∨ i = 6 ∨ i = 7 ∨ i = 8 ∨ i = 9 ∨ i = 10 ∨ i = 11 := by omega
        rcases h with rfl | rfl | rfl | rfl | rfl | rfl | rfl | rfl | rfl | rfl | rfl | rfl
        · exact fr_s0 _ db lb w.heap.size x ao c pa pb e_0 e_3 hm hX hPl hs rfl nl 
        · exact fr_s1 _ db lb w.heap.size x ao c pa pb e_0 e_3 hm hX hPl hs rfl nl (hw 0 (by kernel_rfl))
        · exact fr_s2 _ db lb w.heap.size x ao c pa pb e_0 e_3 hm hX hPl hs rfl nl (hw 1 (by kernel_rfl))
        · exact fr_s3 _ db lb w.heap.size x ao c pa pb e_0 e_3 hm hX hPl hs rfl nl (hw 2 (by kernel_rfl))
        · exact fr_s4 _ db lb w.heap.size x ao c pa pb e_0 e_3 hm hX hPl hs rfl nl 
        · exact fr_s5 _ db lb w.heap.size x ao c pa pb e_0 e_3 hm hX hPl hs rfl nl (hw 4 (by kernel_rfl))
        · exact fr_s6 _ db lb w.heap.size x ao c pa pb e_0 e_3 hm hX hPl hs rfl nl (hw 3 (by kernel_rfl)) (hw 5 (by kernel_rfl))
        · exact fr_s7 _ db lb w.heap.size x ao c pa pb e_0 e_3 hm hX hPl hs rfl nl (hw 6 (by kernel_rfl))
        · exact fr_s8 _ db lb w.heap.size x ao c pa pb e_0 e_3 hm hX hPl hs rfl nl (hw 7 (by kernel_rfl))
        · exact fr_s9 _ db lb w.heap.size x ao c pa pb e_0 e_3 hm hX hPl hs rfl nl (hw 7 (by kernel_rfl))
        · exact fr_s10 _ db lb w.heap.size x ao c pa pb e_0 e_3 hm hX hPl hs rfl nl (hw 0 (by kernel_rfl)) (hw 1 (by kernel_rfl)) (hw 2 (by kernel_rfl)) (hw 3 (by kernel_rfl)) (hw 4 (by kernel_rfl)) (hw 5 (by kernel_rfl)) (hw 6 (by kernel_rfl)) (hw 7 (by kernel_rfl)) (hw 8 (by kernel_rfl))
        · exact fr_s11 _ db lb w.heap.size x ao c pa pb e_0 e_3 hm hX hPl hs rfl nl (hw 0 (by kernel_rfl)) (hw 1 (by kernel_rfl)) (hw 2 (by kernel_rfl)) (hw 3 (by kernel_rfl)) (hw 4 (by kernel_rfl)) (hw 5 (by kernel_rfl)) (hw 6 (by kernel_rfl)) (hw 7 (by kernel_rfl)) (hw 8 (by kernel_rfl)) (hw 9 (by kernel_rfl)) (hw 10 (by kernel_rfl)))
    ?_
  intro ll aa W1 hall hst
  have HB1 := Lib.hid (hbw W1 hst.j)
  obtain ⟨u16, hu⟩ : ∃ v, v = aa.eval (.tmp 16) := ⟨_, rfl⟩
  have hfr := frame_end [(11, .pointer (some ⟨db, 0, none⟩)), (12, .pointer (some ⟨db, 0, none⟩)), (13, .pointer (some ⟨db, 0, none⟩)), (14, .pointer (some ⟨lb, 0, none⟩)), (15, .agg #[.int .i64 x.1, .slice ao x.2.length c]), (16, u16), (17, .tuple #[.int .i64 (pa : Nat), .bool pb]), (10, .tuple #[.int .i64 (pa : Nat), .bool pb]), (18, .int .i64 (pa : Nat)), (19, .bool pb), (5, .int .i64 (pa : Nat)), (6, .bool pb)] aa a0 hst.size hst.defs (by
    intro p hp
    simp only [List.mem_cons, List.not_mem_nil, or_false] at hp
    rcases hp with rfl | rfl | rfl | rfl | rfl | rfl | rfl | rfl | rfl | rfl | rfl | rfl
    · exact hst.get (i := 0) (by decide) (hall 0 (by decide)) rfl
    · exact hst.get (i := 1) (by decide) (hall 1 (by decide)) rfl
    · exact hst.get (i := 2) (by decide) (hall 2 (by decide)) rfl
    · exact hst.get (i := 3) (by decide) (hall 3 (by decide)) rfl
    · exact hst.get (i := 4) (by decide) (hall 4 (by decide)) rfl
    · exact hu.symm
    · exact hst.get (i := 6) (by decide) (hall 6 (by decide)) rfl
    · exact hst.get (i := 7) (by decide) (hall 7 (by decide)) rfl
    · exact hst.get (i := 8) (by decide) (hall 8 (by decide)) rfl
    · exact hst.get (i := 9) (by decide) (hall 9 (by decide)) rfl
    · exact hst.get (i := 10) (by decide) (hall 10 (by decide)) rfl
    · exact hst.get (i := 11) (by decide) (hall 11 (by decide)) rfl
    ) (fun t ht => hst.kept t (fun i hi => by
      have h : i = 0 ∨ i = 1 ∨ i = 2 ∨ i = 3 ∨ i = 4 ∨ i = 5 ∨ i = 6 ∨ i = 7 ∨ i = 8 ∨ i = 9 ∨ i = 10 ∨ i = 11 := by omega
      rcases h with rfl | rfl | rfl | rfl | rfl | rfl | rfl | rfl | rfl | rfl | rfl | rfl
      · exact fun e => ht (by have e1 := Option.some.inj e; subst e1; simp)
      · exact fun e => ht (by have e1 := Option.some.inj e; subst e1; simp)
      · exact fun e => ht (by have e1 := Option.some.inj e; subst e1; simp)
      · exact fun e => ht (by have e1 := Option.some.inj e; subst e1; simp)
      · exact fun e => ht (by have e1 := Option.some.inj e; subst e1; simp)
      · exact fun e => ht (by have e1 := Option.some.inj e; subst e1; simp)
      · exact fun e => ht (by have e1 := Option.some.inj e; subst e1; simp)
      · exact fun e => ht (by have e1 := Option.some.inj e; subst e1; simp)
      · exact fun e => ht (by have e1 := Option.some.inj e; subst e1; simp)
      · exact fun e => ht (by have e1 := Option.some.inj e; subst e1; simp)
      · exact fun e => ht (by have e1 := Option.some.inj e; subst e1; simp)
      · exact fun e => ht (by have e1 := Option.some.inj e; subst e1; simp)))
  rw [hfr, ← ha0]
  clear hfr
  simp only [List.foldl_cons, List.foldl_nil]
  go_simp

  clear hst hall hm hX hPl e_0 e_3 hsz ha0 hu hbw HX HB0 HQ0
  have HP1 : Hid (PAt W1 db lb s so sc wo wc mb ws FF l sp bs) := HP.out.touch (T := fun _ => False) (Touch.of_below HB1.out _) (fun _ _ h => h)
  cases pb with
  | false =>
    have HNo : Hid (spentB l sp x = true) := by
      cases hb : spentB l sp x with
      | true => rfl
      | false =>
        have h1 := (spent_iff HP.out.nod HP.out.len).1 hb
        have h2 := HPosB.out.2 (HP.out.opn.mem_iff.2 h1)
        cases h2
    have HE : Hid (fireE l sp x = 6 ∧ fireS l sp x = sp) := by
      unfold fireE fireS
      rw [HNo.out]
      exact ⟨rfl, rfl⟩
    clear HPosB HPosIs
    go_wp2_with fail
    go_ret
    rw [HE.out.1, HE.out.2]
    exact ⟨rfl, Touch.of_below HB1.out _, bs, ⟨lb, so, sc, wo, wc, mb, ws, FF, HP1.out⟩, fun b hb => Or.inl hb⟩
  | true =>
    obtain ⟨hlt, hwx⟩ := HPosIs.out rfl
    have hmem : x ∈ unspent l sp := HP.out.opn.mem_iff.1 (HPosB.out.1 rfl)
    have HE := Lib.hid (fire_open HP.out.nod hmem).1
    obtain ⟨g, o, cur, rfl, hbg, hg, hc⟩ := HP1.out.row.2.2 (fun e => by rw [e] at hlt; cases hlt)
    have hnf : (ws[pa]).1 ∉ FF.map Prod.fst := fun hf => unspent_not_fired HP.out.nod hmem (HP.out.don.mem_iff.1 (by rw [← hwx]; exact hf))
    have hne : ∀ b, SI bs W1 b → b ≠ g ∧ b ≠ lb ∧ b ≠ mb := fun b hb => by
      obtain ⟨_, cur', fz, hq⟩ := hb
      refine ⟨fun e => ?_, fun e => ?_, fun e => ?_⟩
      · rw [e, hg] at hq
        injection hq with hq
        injection hq with _ h5 _
        exact absurd h5 (by decide)
      · rw [e, HP1.out.hlb] at hq
        injection hq with hq
        injection hq with _ h5 _
        exact absurd h5 (by decide)
      · obtain ⟨_, D, ⟨es, clock, h1, _⟩, _⟩ := HP1.out.map
        rw [e, h1] at hq
        cases hq
    have hok := HP1.out.wok _ (List.getElem_mem hlt)
    have KF := Lib.hid (fire_any lb mb g o ws.length wc pa s.length sc so ws FF ws[pa] cur W1 HP1.out.hlb hg HP1.out.map rfl hlt HP1.out.row.1 hc (List.getElem?_eq_getElem hlt) (hok.1.ids.mono hne) hok.2 hnf HFl.out (HT.out.on HB1.out))
    have HFin : Hid (∀ w2, Touch (fun b => b = lb ∨ b = g ∨ b = mb) W1 w2 → (∃ vA : Option Addr, (wc = 1 ∨ vA = some ⟨g, o + 3, none⟩) ∧ vA ≠ none ∧ w2.heap[lb]? = some (.cells #[.slice so s.length sc, .slice vA (ws.length - 1) (wc - 1), .map (some mb)] 57 (0, 0)) ∧ w2.heap[g]? = some (.cells (moved14 cur o (mcells (ws.take pa))) 59 (0, 0)) ∧ PMap w2 mb (FF ++ [ws[pa]])) → Touch bs w w2 ∧ ∃ bs' : Nat → Prop, PAg w2 db s l (fireS l sp x) bs' ∧ ∀ b, bs' b → bs b ∨ w.heap.size ≤ b) := fun w2 ht he => by
      obtain ⟨vA, a1, a2, a3, a4, a5⟩ := he
      have hp := HP1.out.fired hlt rfl hbg hg hc ht a1 a2 a3 a4 a5
      rw [hwx] at hp
      refine ⟨⟨ht.os.trans HB1.out.os, ht.tape.trans HB1.out.tape, ht.output.trans HB1.out.output, Nat.le_trans HB1.out.size ht.size, fun j hj hs => (ht.block j (Nat.lt_of_lt_of_le hj HB1.out.size) (fun e => hs ?_)).trans (HB1.out.block j hj)⟩, bs, ⟨lb, so, sc, vA, wc - 1, mb, _, _, hp⟩, fun b hb => Or.inl hb⟩
      rcases e with e | e | e
      · rw [e]; exact HP.out.blb
      · rw [e]; exact hbg
      · rw [e]; exact HP.out.bmb
    have c0 : W1.cell? ⟨db, 0, none⟩ = some (.pointer (some ⟨lb, 0, none⟩)) := Lib.cell_of_heap HP1.out.hdb 0
    clear hok hne hnf hg hc hmem HP HP1 HPosB HPosIs
    go_wp2_with (go_at_call 25; refine KF.out.mono ?_; rintro e w2 ⟨rfl, ht, he⟩; have HRes := Lib.hid (HFin.out w2 ht he); clear ht he)
    go_ret
    rw [HE.out]
    exact ⟨rfl, HRes.out.1, HRes.out.2⟩
end Go.Proofs.YtlkmabnjmklkpaaDoor
