/- The program's comparison of rows. -/
import Derived.Test.YtmjblkcbkekcbaaGreatDoorStood
import Derived.Test.YtmjblkcbkekcbaaGreatDoorRefT
import Derived.Deep.DeepCutAuto
namespace Go.Proofs.YtmjblkcbkekcbaaGreatDoor
open Go.RowKit

/-- Two rows that stand at the same places: the trees whose kids they are, and their slices. -/
abbrev PairV := (T × Value) × (T × Value)
def cellsP : List PairV → List Value
  | [] => []
  | p :: l => p.1.2 :: p.2.2 :: cellsP l
theorem cellsP_append (l m : List PairV) : cellsP (l ++ m) = cellsP l ++ cellsP m := by
  induction l with
  | nil => rfl
  | cons x l ih => simp only [cellsP, List.cons_append, ih]
theorem cellsP_length (l : List PairV) : (cellsP l).length = l.length * 2 := by
  induction l with
  | nil => rfl
  | cons x l ih => simp only [cellsP, List.length_cons, ih]; omega
theorem cellsP_at (l : List PairV) : ∀ (i : Nat) (h : i < l.length), (cellsP l)[i * 2]? = some (l[i]).1.2 ∧ (cellsP l)[i * 2 + 1]? = some (l[i]).2.2 := by
  induction l with
  | nil => intro i h; cases h
  | cons x l ih =>
    intro i h
    cases i with
    | zero => exact ⟨rfl, rfl⟩
    | succ i =>
      obtain ⟨h1, h2⟩ := ih i (by simpa using h)
      rw [show (i + 1) * 2 = i * 2 + 1 + 1 by omega]
      exact ⟨h1, h2⟩

/-- The blocks where trees lie: below base, but for two. -/
def Old (cb mb base : Nat) (k : Nat) : Prop := k < base ∧ k ≠ cb ∧ k ≠ mb
/-- Nothing that is old was turned. -/
structure Ch (cb mb base : Nat) (w w' : World) : Prop where
  os : w'.os = w.os
  tape : w'.tape = w.tape
  output : w'.output = w.output
  size : w.heap.size ≤ w'.heap.size
  block : ∀ k, Old cb mb base k → w'.heap[k]? = w.heap[k]?
theorem Ch.refl (cb mb base : Nat) (w : World) : Ch cb mb base w w := ⟨rfl, rfl, rfl, Nat.le_refl _, fun _ _ => rfl⟩
theorem Ch.trans {cb mb base : Nat} {a b c : World} (h : Ch cb mb base a b) (k : Ch cb mb base b c) : Ch cb mb base a c := ⟨k.os.trans h.os, k.tape.trans h.tape, k.output.trans h.output, Nat.le_trans h.size k.size, fun j hj => (k.block j hj).trans (h.block j hj)⟩
theorem Ch.of_below {cb mb base : Nat} {w w' : World} (h : Below w.heap.size w w') (hb : base ≤ w.heap.size) : Ch cb mb base w w' := ⟨h.os, h.tape, h.output, h.size, fun k hk => h.block k (by have := hk.1; omega)⟩
theorem Ch.of_grown {cb mb base : Nat} {w w' : World} {r : Option Nat} (h : w.grownBy w' r) (hb : base ≤ w.heap.size) (hr : ∀ k, r = some k → k = cb ∨ k = mb ∨ base ≤ k) : Ch cb mb base w w' :=
  ⟨h.os, h.tape, h.output, h.size, fun k hk => h.block k (by have := hk.1; omega) (fun e => by
    have := hr k e.symm
    obtain ⟨h1, h2, h3⟩ := hk
    omega)⟩

/-- From one state of a comparison, whose row lv is left, to another one. -/
structure Mv (cb mb : Nat) (w : World) (lv : Value) (w' : World) (lv' : Value) : Prop where
  os : w'.os = w.os
  tape : w'.tape = w.tape
  output : w'.output = w.output
  size : w.heap.size ≤ w'.heap.size
  block : ∀ k, k < w.heap.size → k ≠ cb → k ≠ mb → lv.ownBlock ≠ some k → w'.heap[k]? = w.heap[k]?
  own : lv'.ownBlock = lv.ownBlock ∨ ∀ k, lv'.ownBlock = some k → w.heap.size ≤ k
theorem Mv.refl (cb mb : Nat) (w : World) (lv : Value) : Mv cb mb w lv w lv := ⟨rfl, rfl, rfl, Nat.le_refl _, fun _ _ _ _ _ => rfl, Or.inl rfl⟩
theorem Mv.trans {cb mb : Nat} {a b c : World} {x y z : Value} (h : Mv cb mb a x b y) (k : Mv cb mb b y c z) : Mv cb mb a x c z := by
  refine ⟨k.os.trans h.os, k.tape.trans h.tape, k.output.trans h.output, Nat.le_trans h.size k.size, fun j hj h1 h2 h3 => (k.block j (Nat.lt_of_lt_of_le hj h.size) h1 h2 (fun e => ?_)).trans (h.block j hj h1 h2 h3), ?_⟩
  · rcases h.own with o | o
    · exact h3 (o ▸ e)
    · have := o j e
      omega
  · rcases k.own with o | o
    · rcases h.own with o' | o'
      · exact Or.inl (o.trans o')
      · exact Or.inr fun j hj => o' j (by rw [← o]; exact hj)
    · exact Or.inr fun j hj => Nat.le_trans h.size (o j hj)
theorem Mv.of_below {cb mb : Nat} {w w' : World} (lv : Value) (h : Below w.heap.size w w') : Mv cb mb w lv w' lv := ⟨h.os, h.tape, h.output, h.size, fun k hk _ _ _ => h.block k hk, Or.inl rfl⟩
theorem Mv.ch {base cb mb : Nat} {w w' : World} {lv lv' : Value} (h : Mv cb mb w lv w' lv') (hb : base ≤ w.heap.size) (ho : ∀ k, lv.ownBlock = some k → base ≤ k) : Ch cb mb base w w' :=
  ⟨h.os, h.tape, h.output, h.size, fun k hk => h.block k (by have := hk.1; omega) hk.2.1 hk.2.2 (fun e => by have := ho k e; have := hk.1; omega)⟩

abbrev encR (x : Key × Key) : Value := rowsV x.1 x.2
/-- The comparison, in memory: L is left, M was met. -/
structure CmpAt (s : Prop) (base cb mb : Nat) (w : World) (lv : Value) (L : List PairV) (M : List (T × T)) : Prop where
  b0 : w.cell? ⟨cb, 0, none⟩ = some lv
  b1 : w.cell? ⟨cb, 1, none⟩ = some (.map (some mb))
  fz : ∀ j, w.frozen? ⟨cb, j, none⟩ = false
  own : w.ownsRow base 89 2 lv L.length (cellsP L)
  left : ∀ p, p ∈ L → Stood s (Old cb mb base) w p.1.1 p.1.2 ∧ Stood s (Old cb mb base) w p.2.1 p.2.2
  met : ∃ l, MapIs encR w mb l ∧ (∀ p, p ∈ l → p.2 = .agg #[]) ∧ (∀ p, p ∈ l → Good s w p.1.1.1 ∧ Good s w p.1.2.1) ∧ (∀ p, p ∈ l → (∀ ad, p.1.1.1 = some ad → Old cb mb base ad.block) ∧ (∀ ad, p.1.2.1 = some ad → Old cb mb base ad.block)) ∧
    (s → ∀ p, p ∈ l → ∃ q, q ∈ M ∧ ∃ ao c ps a' c' ps', RowAt s (Old cb mb base) w q.1 ao c ps ∧ RowAt s (Old cb mb base) w q.2 a' c' ps' ∧ p.1 = (keyA ao q.1.kids.length, keyA a' q.2.kids.length))
  cbl : cb < base
  mbl : mb < base
  ne : cb ≠ mb
  bl : base ≤ w.heap.size
theorem CmpAt.later {s : Prop} {base cb mb : Nat} {w w' : World} {lv : Value} {L : List PairV} {M : List (T × T)} (h : CmpAt s base cb mb w lv L M) (b : Below w.heap.size w w') : CmpAt s base cb mb w' lv L M := by
  have hb : ∀ k, Old cb mb base k → w'.heap[k]? = w.heap[k]? := fun k hk => b.block k (by have := hk.1; have := h.bl; omega)
  have hcb : cb < w.heap.size := by have := h.cbl; have := h.bl; omega
  refine ⟨((bone b hcb).1 0).trans h.b0, ((bone b hcb).1 1).trans h.b1, fun j => ((bone b hcb).2 j).trans (h.fz j), owns_below h.own b, fun p hp => ⟨(h.left p hp).1.keep hb fun _ h => h, (h.left p hp).2.keep hb fun _ h => h⟩, ?_, h.cbl, h.mbl, h.ne, Nat.le_trans h.bl b.size⟩
  obtain ⟨l, h1, h0, h2, h3, h4⟩ := h.met
  refine ⟨l, h1.keep (b.block _ h1.lt), h0, fun p hp => ⟨(h2 p hp).1.of_heap fun ad e => hb _ ((h3 p hp).1 ad e), (h2 p hp).2.of_heap fun ad e => hb _ ((h3 p hp).2 ad e)⟩, h3, fun hs p hp => ?_⟩
  obtain ⟨q, hq, ao, c, ps, a', c', ps', r1, r2, e⟩ := h4 hs p hp
  exact ⟨q, hq, ao, c, ps, a', c', ps', r1.keep hb fun _ h => h, r2.keep hb fun _ h => h, e⟩

theorem frozen_block {w w' : World} {sb o : Nat} (e : w'.heap[sb]? = w.heap[sb]?) : w'.frozen? ⟨sb, o, none⟩ = w.frozen? ⟨sb, o, none⟩ := by
  unfold World.frozen?
  simp only [e]

theorem infoP : (Tryz.prog.info? 89).map (fun i => (i.zero, i.size, i.bytes)) = some (some (.agg #[.slice none 0 0, .slice none 0 0]), 2, 48) := by kernel_rfl
theorem zeroS (w : World) : (zeroValue 86).run Tryz.prog w = .ok (.agg #[]) w := by
  have h : (Tryz.prog.info? 86).map (fun i => i.zero) = some (some (.agg #[])) := by kernel_rfl
  cases hi : Tryz.prog.info? 86 with
  | none => rw [hi] at h; cases h
  | some j =>
    rw [hi] at h
    have hz : j.zero = some (.agg #[]) := Option.some.inj h
    simp [zeroValue, typeInfo, hi, hz, Result.andThen]

set_option maxRecDepth 100000 in
set_option maxHeartbeats 2000000 in
theorem add_any (s : Prop) (base cb mb : Nat) (t u : T) (a1 a2 : Option Addr) (c1 c2 : Nat) (ps1 ps2 : List (T × Value)) (lv : Value) (L : List PairV) (M : List (T × T)) (w : World) (hC : CmpAt s base cb mb w lv L M) (hL : L.length ≤ 1000000) (h1 : RowAt s (Old cb mb base) w t a1 c1 ps1) (h2 : RowAt s (Old cb mb base) w u a2 c2 ps2) :
    Calls Tryz.prog 35 #[.pointer (some ⟨cb, 0, none⟩), .slice a1 t.kids.length c1, .slice a2 u.kids.length c2] w fun e w' => e = .returned (.tuple #[]) ∧ ∃ lv', Mv cb mb w lv w' lv' ∧
      (CmpAt s base cb mb w' lv' (L ++ [((t, .slice a1 t.kids.length c1), (u, .slice a2 u.kids.length c2))]) ((t, u) :: M) ∨ (CmpAt s base cb mb w' lv' L M ∧ (s → ∃ q, q ∈ M ∧ q.1.kids = t.kids ∧ q.2.kids = u.kids))) := by
  have ha1 : 0 < t.kids.length → ∃ sb off, a1 = some ⟨sb, off, none⟩ := fun h => by obtain ⟨sb, off, e, -⟩ := h1.ad h; exact ⟨sb, off, e⟩
  have ha2 : 0 < u.kids.length → ∃ sb off, a2 = some ⟨sb, off, none⟩ := fun h => by obtain ⟨sb, off, e, -⟩ := h2.ad h; exact ⟨sb, off, e⟩
  have HC := Lib.hid hC
  have HR1 := Lib.hid h1
  have HR2 := Lib.hid h2
  clear hC h1 h2
  go_enter Tryz.func35, Tryz.ntmps35
  go_wp2_with (go_at_call 32; refine (rowOf_any _ _ _ _ (by assumption)).mono ?_; rintro e w1 ⟨rfl, hg1⟩; refine Hid.out ?_)
  refine Lib.hid ?_
  go_wp2_with (go_at_call 32; refine (rowOf_any _ _ _ _ (by assumption)).mono ?_; rintro e w2 ⟨rfl, hg2⟩; refine Hid.out ?_)
  have hB2 : Below w.heap.size w w2 := (hg1.trans hg2).below
  have HC2 := Lib.hid (HC.out.later hB2)
  obtain ⟨X, hX⟩ : ∃ X, X = Obj.cells #[.pointer (keyA a1 t.kids.length).1, .int .i64 (keyA a1 t.kids.length).2, .pointer (keyA a2 u.kids.length).1, .int .i64 (keyA a2 u.kids.length).2] 85 := ⟨_, rfl⟩
  have hbl := HC.out.bl
  have hold : ∀ W, Below w.heap.size w W → ∀ k, Old cb mb base k → W.heap[k]? = w.heap[k]? := fun W b k hk => b.block k (by have := hk.1; omega)
  have ask : ∀ W, Below w.heap.size w W → ∃ (ok : Bool) (k : Nat), (Instr.lookup 60 (.map (some mb)) (.agg #[.pointer (keyA a1 t.kids.length).1, .int .i64 (keyA a1 t.kids.length).2, .pointer (keyA a2 u.kids.length).1, .int .i64 (keyA a2 u.kids.length).2]) true).run Tryz.prog W = .ok (.tuple #[.agg #[], .bool ok]) (W.drewN k) ∧ (ok = true → s → ∃ q, q ∈ M ∧ q.1.kids = t.kids ∧ q.2.kids = u.kids) := by
    intro W hW
    obtain ⟨l, hm, hval, hgd, hol, hkeys⟩ := (HC.out.later hW).met
    have r1 := HR1.out.keep (hold _ hW) fun _ h => h
    have r2 := HR2.out.keep (hold _ hW) fun _ h => h
    obtain ⟨ok, v, k, hrun, hno, hyes⟩ := lookup_any (kRows s) (keyA a1 t.kids.length, keyA a2 u.kids.length) 60 86 (.agg #[]) Tryz.underlying60 zeroS W mb l hm ⟨r1.goodKey, r2.goodKey⟩ hgd
    have hv : v = .agg #[] := by
      cases ok with
      | false => exact (hno rfl).1
      | true =>
        obtain ⟨y, hy, -⟩ := hyes rfl
        exact hval _ hy
    subst hv
    refine ⟨ok, k, hrun, fun ho hs => ?_⟩
    obtain ⟨y, hy, hys⟩ := hyes ho
    obtain ⟨q, hq, ao, c, ps, a', c', ps', q1, q2, e⟩ := hkeys hs _ hy
    have e2 := (hys hs).symm.trans e
    exact ⟨q, hq, (key_same _ _ _ _ _ _ _ _ q1 r1 (congrArg Prod.fst e2).symm), (key_same _ _ _ _ _ _ _ _ q2 r2 (congrArg Prod.snd e2).symm)⟩
  have hBX : Below w.heap.size w (w2.alloc X).drew := RowKit_drewN (below_new hB2 _) 1
  obtain ⟨okA, kA, hrA, hyA⟩ := ask _ hBX
  obtain ⟨okB, kB, hrB, hyB⟩ := ask ((w2.alloc X).alloc (.cells #[] 86)).drew (RowKit_drewN (below_new (below_new hB2 _) _) 1)
  have HYA := Lib.hid hyA
  have HYB := Lib.hid hyB
  have c1' := HC2.out.b1
  have hcb : cb < w2.heap.size := by have := HC2.out.cbl; have := HC2.out.bl; omega
  rw [hX] at hrA hrB
  have HX := Lib.hid hX
  have HG := Lib.hid (hg1.trans hg2)
  clear hyA hyB hX hB2 hBX hg1 hg2 hbl hold ask
  refine Lib.hid ?_
  go_upto_region 1 with fail
  go_cut [8] (fun s8 wx => ∃ ok : Bool, s8 = .bool ok ∧ Hid (Gr (w2.alloc X) wx) ∧ Hid (ok = true → s → ∃ q, q ∈ M ∧ q.1.kids = t.kids ∧ q.2.kids = u.kids))
  case first =>
    go_region
    all_goals (go_wp2_with fail; go_meet)
    all_goals first
      | exact ⟨okA, rfl, by rw [HX.out]; exact ((Gr.refl _).drewN _).alloc _, HYA⟩
      | exact ⟨okB, rfl, by rw [HX.out]; exact ((Gr.refl _).alloc _).drewN _, HYB⟩
  case rest =>
    clear hrA hrB HYA HYB
    obtain ⟨ok, rfl, HG3, HY⟩ := hcut
    have HGw := Lib.hid ((HG.out.alloc X).trans HG3.out)
    have HC3 := Lib.hid (HC.out.later HGw.out.below)
    have hbl := HC.out.bl
    cases ok with
    | true =>
      have HY1 := Lib.hid (HY.out rfl)
      clear HY
      go_wp2_with fail
      go_end0
      exact ⟨rfl, lv, Mv.of_below lv HGw.out.below, Or.inr ⟨HC3.out.later (Below.refl _ _), HY1.out⟩⟩
    | false =>
      obtain ⟨l, hm, hval, hgd, hol, hkeys⟩ := HC3.out.met
      have hold : ∀ W, Below w.heap.size w W → ∀ k, Old cb mb base k → W.heap[k]? = w.heap[k]? := fun W b k hk => b.block k (by have := hk.1; omega)
      have r1 := HR1.out.keep (hold _ HGw.out.below) fun _ h => h
      have r2 := HR2.out.keep (hold _ HGw.out.below) fun _ h => h
      obtain ⟨w6, l', hrun, hsz, hgr, hm', hof, hadd, hset⟩ := update_any (kRows s) (keyA a1 t.kids.length, keyA a2 u.kids.length) (.agg #[]) 60 86 Tryz.underlying60 wc.drew mb l hm ⟨r1.goodKey, r2.goodKey⟩ hgd
      replace hsz : w6.heap.size = wc.heap.size := hsz
      replace hgr : wc.grownBy w6 (some mb) := ⟨hgr.os, hgr.tape, hgr.output, hgr.size, hgr.block⟩
      have hrun' : (Instr.mapUpdate 60 (.map (some mb)) (.agg #[.pointer (keyA a1 t.kids.length).1, .int .i64 (keyA a1 t.kids.length).2, .pointer (keyA a2 u.kids.length).1, .int .i64 (keyA a2 u.kids.length).2]) (.agg #[])).run Tryz.prog wc.drew = .ok () w6 := hrun
      clear hrun
      have x0 : wc.cell? ⟨w2.heap.size, 0, none⟩ = some (.pointer (keyA a1 t.kids.length).1) := by rw [HX.out] at HG3; exact box_cell HG3.out 0
      have x1 : wc.cell? ⟨w2.heap.size, 1, none⟩ = some (.int .i64 (keyA a1 t.kids.length).2) := by rw [HX.out] at HG3; exact box_cell HG3.out 1
      have x2 : wc.cell? ⟨w2.heap.size, 2, none⟩ = some (.pointer (keyA a2 u.kids.length).1) := by rw [HX.out] at HG3; exact box_cell HG3.out 2
      have x3 : wc.cell? ⟨w2.heap.size, 3, none⟩ = some (.int .i64 (keyA a2 u.kids.length).2) := by rw [HX.out] at HG3; exact box_cell HG3.out 3
      have y1 := HC3.out.b1
      have hcb3 : cb < wc.heap.size := by have := HC3.out.cbl; have := HC3.out.bl; omega
      have hne : (cb : Nat) ≠ mb := HC3.out.ne
      have hblk : w6.heap[cb]? = wc.heap[cb]? := hgr.block cb hcb3 (fun e => hne (Option.some.inj e))
      have z0 : w6.cell? ⟨cb, 0, none⟩ = some lv := (cell_block hblk).trans HC3.out.b0
      have z1 : w6.cell? ⟨cb, 1, none⟩ = some (.map (some mb)) := (cell_block hblk).trans HC3.out.b1
      have zf : ∀ j, w6.frozen? ⟨cb, j, none⟩ = false := fun j => (frozen_block hblk).trans (HC3.out.fz j)
      have hmb3 : mb < base := HC3.out.mbl
      have hcb0 : cb < base := HC3.out.cbl
      have hbl3 := HC3.out.bl
      have ownLt : ∀ (W : World) (v : Value) (n : Nat) (xs : List Value), W.ownsRow base 89 2 v n xs → ∀ k, v.ownBlock = some k → base ≤ k := fun W v n xs h k hk => (h.lt k hk).1
      have HO6 : w6.ownsRow base 89 2 lv L.length (cellsP L) := owns_apart HC3.out.own hgr (fun e => by have := ownLt _ _ _ _ HC3.out.own _ e; omega)
      have HO7 := Lib.hid (HO6.alloc (.cells #[.slice a1 t.kids.length c1, .slice a2 u.kids.length c2] 89))
      have HU := Lib.hid (And.intro hm' (And.intro hof (And.intro hsz hgr)))
      have HM := Lib.hid (And.intro hval (And.intro hgd (And.intro hol hkeys)))
      have HL := Lib.hid ownLt
      have hb7 : base ≤ (w6.alloc (.cells #[.slice a1 t.kids.length c1, .slice a2 u.kids.length c2] 89)).heap.size := by
        rw [World.size_alloc]
        omega
      have hcb7 : cb < (w6.alloc (.cells #[.slice a1 t.kids.length c1, .slice a2 u.kids.length c2] 89)).heap.size := by omega
      have e7 : (w6.alloc (.cells #[.slice a1 t.kids.length c1, .slice a2 u.kids.length c2] 89)).heap[cb]? = w6.heap[cb]? := (below_own (w := w6) _).block cb (by omega)
      have HZ := Lib.hid (And.intro hb7 (And.intro hcb7 e7))
      obtain ⟨ip, hip, hp0, hp1, hp2⟩ := info_parts infoP
      clear hm' hof hadd hset hsz hgr hval hgd hol hkeys hblk hold ownLt HO6 hb7 hcb7 e7
      go_wp2_with fail
      go_region
      go_wp2_with (at_builtin; go_must (refine wpList_append_apart _ rfl _ _ 61 rfl base 89 ip (.agg #[.slice none 0 0, .slice none 0 0]) 2 48 Tryz.underlying61 hip hp0 hp1 hp2 rfl (by decide) lv L.length (cellsP L) rfl HO7.out (some ⟨w6.heap.size, 0, none⟩) 1 1 [.slice a1 t.kids.length c1, .slice a2 u.kids.length c2] rfl rfl (fun h => by cases h) (fun ad had j u hu => by obtain rfl := Option.some.inj had; rw [Addr.add_lit, Nat.zero_add]; exact cells_made w6 _ _ j u (by simpa using hu)) (fun u hu => by simp at hu; rcases hu with rfl | rfl <;> rfl) (by unfold maxLen; omega) (by omega) HZ.out.1 ?_; intro lv8 w8 hown8 hgrow8 hnew8; have HN8 := Lib.hid hnew8; clear hnew8; obtain ⟨ao8, c8, rfl⟩ := owns_slice hown8; have e8 := hgrow8.block cb HZ.out.2.1 (fun e => by have := HL.out _ _ _ _ HO7.out _ e.symm; omega); have e86 := e8.trans HZ.out.2.2; have u0 := (cell_block (o := 0) e86).trans z0; have u1 := (cell_block (o := 1) e86).trans z1; have uf := fun j => (frozen_block (o := j) e86).trans (zf j); have HO8 := Lib.hid hown8; have HG8 := Lib.hid hgrow8; clear hown8 hgrow8 e8 e86))
      go_end0
      obtain ⟨hm', hof, hsz, hgr⟩ := HU.out
      obtain ⟨hval, hgd, hol, hkeys⟩ := HM.out
      have hcb0' := hcb0
      have k6 : ∀ k, k < base → k ≠ mb → w6.heap[k]? = wc.heap[k]? := fun k hk hn => hgr.block k (by omega) (fun e => hn (Option.some.inj e))
      have k7 : ∀ k, k < w6.heap.size → (w6.alloc (.cells #[.slice a1 t.kids.length c1, .slice a2 u.kids.length c2] 89)).heap[k]? = w6.heap[k]? := fun k hk => (below_own (w := w6) _).block k hk
      have k8 : ∀ k, k < base → w8.heap[k]? = (w6.alloc (.cells #[.slice a1 t.kids.length c1, .slice a2 u.kids.length c2] 89)).heap[k]? := fun k hk => HG8.out.block k (by have := HZ.out.1; omega) (fun e => by have := HL.out _ _ _ _ HO7.out _ e.symm; omega)
      have k9 : ∀ k, k ≠ cb → (w8.setCell ⟨cb, 0, none⟩ (.slice ao8 (L.length + 1) c8)).heap[k]? = w8.heap[k]? := fun k hk => by
        by_cases hlt : k < w8.heap.size
        · exact (Lib.grownBy_setCell w8 cb 0 (.slice ao8 (L.length + 1) c8)).block k hlt (fun e => hk (Option.some.inj e))
        · have hs := (Lib.grownBy_setCell w8 cb 0 (.slice ao8 (L.length + 1) c8)).size
          have n1 : w8.heap[k]? = none := Array.getElem?_eq_none (by omega)
          have n2 : (w8.setCell ⟨cb, 0, none⟩ (.slice ao8 (L.length + 1) c8)).heap[k]? = none := Array.getElem?_eq_none (by rw [World.size_setCell]; omega)
          rw [n1, n2]
      have kk : ∀ k, Old cb mb base k → (w8.setCell ⟨cb, 0, none⟩ (.slice ao8 (L.length + 1) c8)).heap[k]? = wc.heap[k]? := fun k hk => (((k9 k hk.2.1).trans (k8 k hk.1)).trans (k7 k (by have := hk.1; omega))).trans (k6 k hk.1 hk.2.2)
      have hMv : Mv cb mb w lv (w8.setCell ⟨cb, 0, none⟩ (.slice ao8 (L.length + 1) c8)) (.slice ao8 (L.length + 1) c8) := by
        have hw := HGw.out.below
        have hs8 := HG8.out.size
        have h7s : w6.heap.size ≤ (w6.alloc (.cells #[.slice a1 t.kids.length c1, .slice a2 u.kids.length c2] 89)).heap.size := (below_own (w := w6) _).size
        refine ⟨(Lib.grownBy_setCell w8 cb 0 _).os.trans (HG8.out.os.trans ((below_own (w := w6) _).os.trans (hgr.os.trans hw.os))), (Lib.grownBy_setCell w8 cb 0 _).tape.trans (HG8.out.tape.trans ((below_own (w := w6) _).tape.trans (hgr.tape.trans hw.tape))), (Lib.grownBy_setCell w8 cb 0 _).output.trans (HG8.out.output.trans ((below_own (w := w6) _).output.trans (hgr.output.trans hw.output))), ?_, ?_, ?_⟩
        · rw [World.size_setCell]
          have := hw.size
          omega
        · intro k hk h1 h2 h3
          have hkc : k < wc.heap.size := Nat.lt_of_lt_of_le hk hw.size
          have e6 : w6.heap[k]? = wc.heap[k]? := hgr.block k hkc (fun e => h2 (Option.some.inj e))
          have e8 : w8.heap[k]? = (w6.alloc (.cells #[.slice a1 t.kids.length c1, .slice a2 u.kids.length c2] 89)).heap[k]? := HG8.out.block k (by omega) (fun e => h3 e.symm)
          exact (k9 k h1).trans (e8.trans ((k7 k (by omega)).trans (e6.trans (hw.block k hk))))
        · rcases HN8.out with h | h
          · exact Or.inl h
          · exact Or.inr fun k hk => by have := h k hk; have := hw.size; omega
      refine ⟨rfl, .slice ao8 (L.length + 1) c8, hMv, Or.inl ?_⟩
      refine ⟨World.cell?_setCell_same _ _ _ u0, ?_, fun j => by rw [World.frozen?_setCell]; exact uf j, ?_, ?_, ⟨l', ?_, ?_, ?_, ?_, ?_⟩, hcb0, hmb3, hne, ?_⟩
      · rw [World.cell?_setCell_other _ _ _ _ (by simp)]
        exact u1
      · rw [List.length_append, cellsP_append]
        exact owns_apart HO8.out (Lib.grownBy_setCell w8 cb 0 _) (fun e => by have := HL.out _ _ _ _ HO8.out _ e; omega)
      · intro p hp
        rcases List.mem_append.1 hp with hp | hp
        · exact ⟨(HC3.out.left p hp).1.keep kk fun _ h => h, (HC3.out.left p hp).2.keep kk fun _ h => h⟩
        · obtain rfl := List.mem_singleton.1 hp
          exact ⟨r1.stood.keep kk fun _ h => h, r2.stood.keep kk fun _ h => h⟩
      · exact MapIs.keep hm' (((k9 mb hne.symm).trans (k8 mb hmb3)).trans (k7 mb (by omega)))
      · intro p hp
        rcases hof p hp with h | h
        · exact hval p h
        · exact h.1
      · intro p hp
        have gx : Good s (w8.setCell ⟨cb, 0, none⟩ (.slice ao8 (L.length + 1) c8)) (keyA a1 t.kids.length).1 ∧ Good s (w8.setCell ⟨cb, 0, none⟩ (.slice ao8 (L.length + 1) c8)) (keyA a2 u.kids.length).1 := ⟨r1.goodKey.of_heap fun ad e => kk _ (r1.inKey ad e), r2.goodKey.of_heap fun ad e => kk _ (r2.inKey ad e)⟩
        have go : ∀ q, q ∈ l → Good s (w8.setCell ⟨cb, 0, none⟩ (.slice ao8 (L.length + 1) c8)) q.1.1.1 ∧ Good s (w8.setCell ⟨cb, 0, none⟩ (.slice ao8 (L.length + 1) c8)) q.1.2.1 := fun q hq => ⟨(hgd q hq).1.of_heap fun ad e => kk _ ((hol q hq).1 ad e), (hgd q hq).2.of_heap fun ad e => kk _ ((hol q hq).2 ad e)⟩
        rcases hof p hp with h | ⟨-, h | ⟨q, hq, h⟩⟩
        · exact go p h
        · rw [h]
          exact gx
        · rw [← h]
          exact go q hq
      · intro p hp
        rcases hof p hp with h | ⟨-, h | ⟨q, hq, h⟩⟩
        · exact hol p h
        · rw [h]
          exact ⟨r1.inKey, r2.inKey⟩
        · rw [← h]
          exact hol q hq
      · intro hs p hp
        have go : ∀ q, q ∈ l → ∃ r, r ∈ (t, u) :: M ∧ ∃ ao c ps a' c' ps', RowAt s (Old cb mb base) (w8.setCell ⟨cb, 0, none⟩ (.slice ao8 (L.length + 1) c8)) r.1 ao c ps ∧ RowAt s (Old cb mb base) (w8.setCell ⟨cb, 0, none⟩ (.slice ao8 (L.length + 1) c8)) r.2 a' c' ps' ∧ q.1 = (keyA ao r.1.kids.length, keyA a' r.2.kids.length) := fun q hq => by
          obtain ⟨r, hr, ao, c, ps, a', c', ps', q1, q2, e⟩ := hkeys hs q hq
          exact ⟨r, List.mem_cons_of_mem _ hr, ao, c, ps, a', c', ps', q1.keep kk fun _ h => h, q2.keep kk fun _ h => h, e⟩
        rcases hof p hp with h | ⟨-, h | ⟨q, hq, h⟩⟩
        · exact go p h
        · exact ⟨(t, u), List.mem_cons_self .., a1, c1, ps1, a2, c2, ps2, r1.keep kk fun _ h => h, r2.keep kk fun _ h => h, h⟩
        · rw [← h]
          exact go q hq
      · have h8 := HG8.out.size
        have h9 := (Lib.grownBy_setCell w8 cb 0 (.slice ao8 (L.length + 1) c8)).size
        have := HZ.out.1
        omega
end Go.Proofs.YtmjblkcbkekcbaaGreatDoor
