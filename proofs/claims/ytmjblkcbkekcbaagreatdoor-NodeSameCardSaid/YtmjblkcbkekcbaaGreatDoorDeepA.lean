/- The program's descent: how it lies, and how a row is entered. -/
import Derived.Test.YtmjblkcbkekcbaaGreatDoorStep
namespace Go.Proofs.YtmjblkcbkekcbaaGreatDoor
open Go.RowKit

/-- A level of the path: the tree whose kids it is, their slice; the next one; how deep those ahead of it are. -/
abbrev LevV := (T × Value) × (Nat × Nat)
def cellsV : List LevV → List Value
  | [] => []
  | p :: l => p.1.2 :: .int .i64 p.2.1 :: .int .i64 p.2.2 :: cellsV l
theorem cellsV_append (l m : List LevV) : cellsV (l ++ m) = cellsV l ++ cellsV m := by
  induction l with
  | nil => rfl
  | cons x l ih => simp only [cellsV, List.cons_append, ih]
theorem cellsV_length (l : List LevV) : (cellsV l).length = l.length * 3 := by
  induction l with
  | nil => rfl
  | cons x l ih => simp only [cellsV, List.length_cons, ih]; omega

/-- The descent, in memory: its path L, and what is known, l. -/
structure DpAt (base db mb : Nat) (w : World) (lv : Value) (L : List LevV) (l : List (Key × Value)) : Prop where
  b0 : w.cell? ⟨db, 0, none⟩ = some lv
  b1 : w.cell? ⟨db, 1, none⟩ = some (.map (some mb))
  fz : ∀ j, w.frozen? ⟨db, j, none⟩ = false
  own : w.ownsRow base 81 3 lv L.length (cellsV L)
  left : ∀ p, p ∈ L → Stood True (Old db mb base) w p.1.1 p.1.2
  map : MapIs rowV w mb l
  nodup : (l.map Prod.fst).Nodup
  good : ∀ p, p ∈ l → Good True w p.1.1
  inOld : ∀ p, p ∈ l → ∀ ad, p.1.1 = some ad → Old db mb base ad.block
  mean : ∀ p, p ∈ l → (p.1 = (none, 0) ∧ p.2 = .int .i64 0) ∨ (∃ q, q ∈ L ∧ ∃ ao n c, q.1.2 = .slice ao n c ∧ p.1 = keyA ao n ∧ p.2 = .int .i64 (-1)) ∨ (∃ (q : T) (ao : Option Addr) (c : Nat) (ps : List (T × Value)), RowAt True (Old db mb base) w q ao c ps ∧ p.1 = keyA ao q.kids.length ∧ p.2 = .int .i64 (deepL q.kids : Nat))
  cbl : db < base
  mbl : mb < base
  ne : db ≠ mb
  bl : base ≤ w.heap.size

/-- Where the box, the map and what is old are as they were, and the path's row is one's own. -/
theorem DpAt.turn {base db mb : Nat} {w w' : World} {lv lv' : Value} {L L' : List LevV} {l l' : List (Key × Value)} (h : DpAt base db mb w lv L l) (hk : ∀ k, Old db mb base k → w'.heap[k]? = w.heap[k]?) (b0 : w'.cell? ⟨db, 0, none⟩ = some lv') (b1 : w'.cell? ⟨db, 1, none⟩ = some (.map (some mb))) (fz : ∀ j, w'.frozen? ⟨db, j, none⟩ = false) (own : w'.ownsRow base 81 3 lv' L'.length (cellsV L'))
    (left : ∀ p, p ∈ L' → Stood True (Old db mb base) w' p.1.1 p.1.2) (map : MapIs rowV w' mb l') (nodup : (l'.map Prod.fst).Nodup) (hl : ∀ p, p ∈ l' → (∃ p', p' ∈ l ∧ p'.1 = p.1) ∨ (Good True w' p.1.1 ∧ ∀ ad, p.1.1 = some ad → Old db mb base ad.block))
    (mean : ∀ p, p ∈ l' → (p.1 = (none, 0) ∧ p.2 = .int .i64 0) ∨ (∃ q, q ∈ L' ∧ ∃ ao n c, q.1.2 = .slice ao n c ∧ p.1 = keyA ao n ∧ p.2 = .int .i64 (-1)) ∨ (∃ (q : T) (ao : Option Addr) (c : Nat) (ps : List (T × Value)), RowAt True (Old db mb base) w' q ao c ps ∧ p.1 = keyA ao q.kids.length ∧ p.2 = .int .i64 (deepL q.kids : Nat))) (bl : base ≤ w'.heap.size) : DpAt base db mb w' lv' L' l' where
  b0 := b0
  b1 := b1
  fz := fz
  own := own
  left := left
  map := map
  nodup := nodup
  good := fun p hp => by
    rcases hl p hp with ⟨p', hp', e⟩ | ⟨h1, _⟩
    · rw [← e]
      exact (h.good p' hp').of_heap fun ad e => hk _ (h.inOld p' hp' ad e)
    · exact h1
  inOld := fun p hp => by
    rcases hl p hp with ⟨p', hp', e⟩ | ⟨_, h1⟩
    · rw [← e]
      exact h.inOld p' hp'
    · exact h1
  mean := mean
  cbl := h.cbl
  mbl := h.mbl
  ne := h.ne
  bl := bl
/-- What is known means the same, as long as all that is old is there. -/
theorem mean_keep {base db mb : Nat} {w w' : World} {L L' : List LevV} {p : Key × Value} (hk : ∀ k, Old db mb base k → w'.heap[k]? = w.heap[k]?) (hL : ∀ q, q ∈ L → ∃ q', q' ∈ L' ∧ q'.1 = q.1)
    (h : (p.1 = (none, 0) ∧ p.2 = .int .i64 0) ∨ (∃ q, q ∈ L ∧ ∃ ao n c, q.1.2 = .slice ao n c ∧ p.1 = keyA ao n ∧ p.2 = .int .i64 (-1)) ∨ (∃ (q : T) (ao : Option Addr) (c : Nat) (ps : List (T × Value)), RowAt True (Old db mb base) w q ao c ps ∧ p.1 = keyA ao q.kids.length ∧ p.2 = .int .i64 (deepL q.kids : Nat))) :
    (p.1 = (none, 0) ∧ p.2 = .int .i64 0) ∨ (∃ q, q ∈ L' ∧ ∃ ao n c, q.1.2 = .slice ao n c ∧ p.1 = keyA ao n ∧ p.2 = .int .i64 (-1)) ∨ (∃ (q : T) (ao : Option Addr) (c : Nat) (ps : List (T × Value)), RowAt True (Old db mb base) w' q ao c ps ∧ p.1 = keyA ao q.kids.length ∧ p.2 = .int .i64 (deepL q.kids : Nat)) := by
  rcases h with h | ⟨q, hq, ao, n, c, h0, h1, h2⟩ | ⟨q, ao, c, ps, r, h1, h2⟩
  · exact Or.inl h
  · obtain ⟨q', hq', e⟩ := hL q hq
    exact Or.inr (Or.inl ⟨q', hq', ao, n, c, by rw [e]; exact h0, h1, h2⟩)
  · exact Or.inr (Or.inr ⟨q, ao, c, ps, r.keep hk fun _ h => h, h1, h2⟩)
theorem DpAt.later {base db mb : Nat} {w w' : World} {lv : Value} {L : List LevV} {l : List (Key × Value)} (h : DpAt base db mb w lv L l) (b : Below w.heap.size w w') : DpAt base db mb w' lv L l := by
  have hb : ∀ k, Old db mb base k → w'.heap[k]? = w.heap[k]? := fun k hk => b.block k (by have := hk.1; have := h.bl; omega)
  have hcb : db < w.heap.size := by have := h.cbl; have := h.bl; omega
  exact h.turn hb (((bone b hcb).1 0).trans h.b0) (((bone b hcb).1 1).trans h.b1) (fun j => ((bone b hcb).2 j).trans (h.fz j)) (owns_below h.own b) (fun p hp => (h.left p hp).keep hb fun _ h => h) (h.map.keep (b.block _ h.map.lt)) h.nodup (fun p hp => Or.inl ⟨p, hp, rfl⟩) (fun p hp => mean_keep hb (fun q hq => ⟨q, hq, rfl⟩) (h.mean p hp)) (Nat.le_trans h.bl b.size)

theorem infoV : (Tryz.prog.info? 81).map (fun i => (i.zero, i.size, i.bytes)) = some (some (.agg #[.slice none 0 0, .int .i64 0, .int .i64 0]), 3, 40) := by kernel_rfl
theorem zeroI (w : World) : (zeroValue 3).run Tryz.prog w = .ok (.int .i64 0) w := by
  have h : (Tryz.prog.info? 3).map (fun i => i.zero) = some (some (.int .i64 0)) := by kernel_rfl
  cases hi : Tryz.prog.info? 3 with
  | none => rw [hi] at h; cases h
  | some j =>
    rw [hi] at h
    have hz : j.zero = some (.int .i64 0) := Option.some.inj h
    simp [zeroValue, typeInfo, hi, hz, Result.andThen]

set_option maxRecDepth 100000 in
set_option maxHeartbeats 2000000 in
theorem enter_any (base db mb : Nat) (t : T) (a1 : Option Addr) (c1 : Nat) (ps1 : List (T × Value)) (lv : Value) (L : List LevV) (l : List (Key × Value)) (w : World) (hC : DpAt base db mb w lv L l) (hL : L.length ≤ 1000000) (h1 : RowAt True (Old db mb base) w t a1 c1 ps1) (hnot : ∀ p, p ∈ l → p.1 ≠ keyA a1 t.kids.length) :
    Calls Tryz.prog 30 #[.pointer (some ⟨db, 0, none⟩), .slice a1 t.kids.length c1] w fun e w' => e = .returned (.tuple #[]) ∧ ∃ lv', Mv db mb w lv w' lv' ∧ DpAt base db mb w' lv' (L ++ [((t, .slice a1 t.kids.length c1), (0, 0))]) (l ++ [(keyA a1 t.kids.length, .int .i64 (-1))]) := by
  have ha1 : 0 < t.kids.length → ∃ sb off, a1 = some ⟨sb, off, none⟩ := fun h => by obtain ⟨sb, off, e, -⟩ := h1.ad h; exact ⟨sb, off, e⟩
  have HC := Lib.hid hC
  have HR1 := Lib.hid h1
  have HN := Lib.hid hnot
  have y1 := hC.b1
  have hcb : db < w.heap.size := by have := hC.cbl; have := hC.bl; omega
  have hbl := hC.bl
  have ask : Hid (∀ W, Gr w W → ∃ w6, (Instr.mapUpdate 53 (.map (some mb)) (.agg #[.pointer (keyA a1 t.kids.length).1, .int .i64 (keyA a1 t.kids.length).2]) (.int .i64 (-1))).run Tryz.prog W = .ok () w6 ∧ w6.heap.size = W.heap.size ∧ W.grownBy w6 (some mb) ∧ MapIs rowV w6 mb (l ++ [(keyA a1 t.kids.length, .int .i64 (-1))])) := by
    intro W hW
    have hC' := hC.later hW.below
    have r1 := h1.keep (fun k hk => hW.below.block k (by have := hk.1; omega)) fun _ h => h
    obtain ⟨w6, l', hrun, hsz, hgr, hm', -, hadd, -⟩ := update_any (kRow True) (keyA a1 t.kids.length) (.int .i64 (-1)) 53 3 Tryz.underlying53 W mb l hC'.map r1.goodKey hC'.good
    exact ⟨w6, hrun, hsz, hgr, by rw [← hadd trivial hnot]; exact hm'⟩
  clear hC h1 hnot
  go_enter Tryz.func30, Tryz.ntmps30
  go_upto_region 0 with fail
  go_cut [] (fun wx => Hid (∃ W, Gr w W ∧ wx.heap.size = W.heap.size ∧ W.grownBy wx (some mb) ∧ MapIs rowV wx mb (l ++ [(keyA a1 t.kids.length, .int .i64 (-1))])))
  case first =>
    go_region_with (go_at_call 32; refine (rowOf_any _ _ _ _ (by assumption)).mono ?_; rintro e w1 ⟨rfl, hg1⟩; obtain ⟨w6, hrun, hrest⟩ := ask.out w1 (((Gr.refl w).drew).trans hg1); have y2 : w1.cell? ⟨db, 1, none⟩ = some (.map (some mb)) := ((bone hg1.below hcb).1 1).trans y1; have HG := Lib.hid (And.intro (((Gr.refl w).drew).trans hg1) hrest); clear hrest hg1)
    all_goals (go_wp2_with fail; go_meet)
    all_goals exact ⟨_, HG.out⟩
  case rest =>
    obtain ⟨W, hW, hsz, hgr, hm'⟩ := hcut.out
    clear hcut ask
    have HGw := Lib.hid hW
    have HC3 := Lib.hid (HC.out.later hW.below)
    have hold : ∀ k, Old db mb base k → W.heap[k]? = w.heap[k]? := fun k hk => hW.below.block k (by have := hk.1; omega)
    have r1 := HR1.out.keep hold fun _ h => h
    have hcb3 : db < W.heap.size := by have := HC3.out.cbl; have := HC3.out.bl; omega
    have hne : (db : Nat) ≠ mb := HC3.out.ne
    have hblk : wc.heap[db]? = W.heap[db]? := hgr.block db hcb3 (fun e => hne (Option.some.inj e))
    have z0 : wc.cell? ⟨db, 0, none⟩ = some lv := (cell_block hblk).trans HC3.out.b0
    have z1 : wc.cell? ⟨db, 1, none⟩ = some (.map (some mb)) := (cell_block hblk).trans HC3.out.b1
    have zf : ∀ j, wc.frozen? ⟨db, j, none⟩ = false := fun j => (frozen_block hblk).trans (HC3.out.fz j)
    have hmb3 : mb < base := HC3.out.mbl
    have hcb0 : db < base := HC3.out.cbl
    have hbl3 := HC3.out.bl
    have ownLt : ∀ (W : World) (v : Value) (n : Nat) (xs : List Value), W.ownsRow base 81 3 v n xs → ∀ k, v.ownBlock = some k → base ≤ k := fun W v n xs h k hk => (h.lt k hk).1
    have HO6 : wc.ownsRow base 81 3 lv L.length (cellsV L) := owns_apart HC3.out.own hgr (fun e => by have := ownLt _ _ _ _ HC3.out.own _ e; omega)
    have HO7 := Lib.hid (HO6.alloc (.cells #[.slice a1 t.kids.length c1, .int .i64 0, .int .i64 0] 81))
    have HU := Lib.hid (And.intro hm' (And.intro hsz hgr))
    have HL := Lib.hid ownLt
    have hb7 : base ≤ (wc.alloc (.cells #[.slice a1 t.kids.length c1, .int .i64 0, .int .i64 0] 81)).heap.size := by
      rw [World.size_alloc]
      omega
    have hcb7 : db < (wc.alloc (.cells #[.slice a1 t.kids.length c1, .int .i64 0, .int .i64 0] 81)).heap.size := by omega
    have e7 : (wc.alloc (.cells #[.slice a1 t.kids.length c1, .int .i64 0, .int .i64 0] 81)).heap[db]? = wc.heap[db]? := (below_own (w := wc) _).block db (by omega)
    have HZ := Lib.hid (And.intro hb7 (And.intro hcb7 e7))
    obtain ⟨ip, hip, hp0, hp1, hp2⟩ := info_parts infoV
    clear hm' hsz hgr hblk hold ownLt HO6 hb7 hcb7 e7 hW
    go_wp2_with (at_builtin; go_must (refine wpList_append_apart _ rfl _ _ 54 rfl base 81 ip (.agg #[.slice none 0 0, .int .i64 0, .int .i64 0]) 3 40 Tryz.underlying54 hip hp0 hp1 hp2 rfl (by decide) lv L.length (cellsV L) rfl HO7.out (some ⟨wc.heap.size, 0, none⟩) 1 1 [.slice a1 t.kids.length c1, .int .i64 0, .int .i64 0] rfl rfl (fun h => by cases h) (fun ad had j u hu => by obtain rfl := Option.some.inj had; rw [Addr.add_lit, Nat.zero_add]; exact cells_made wc _ _ j u (by simpa using hu)) (fun u hu => by simp at hu; rcases hu with rfl | rfl | rfl <;> rfl) (by unfold maxLen; omega) (by omega) HZ.out.1 ?_; intro lv8 w8 hown8 hgrow8 hnew8; have HN8 := Lib.hid hnew8; clear hnew8; obtain ⟨ao8, c8, rfl⟩ := owns_slice hown8; have e8 := hgrow8.block db HZ.out.2.1 (fun e => by have := HL.out _ _ _ _ HO7.out _ e.symm; omega); have e86 := e8.trans HZ.out.2.2; have u0 := (cell_block (o := 0) e86).trans z0; have u1 := (cell_block (o := 1) e86).trans z1; have uf := fun j => (frozen_block (o := j) e86).trans (zf j); have HO8 := Lib.hid hown8; have HG8 := Lib.hid hgrow8; clear hown8 hgrow8 e8 e86))
    go_end0
    obtain ⟨hm', hsz, hgr⟩ := HU.out
    have k6 : ∀ k, k < base → k ≠ mb → wc.heap[k]? = W.heap[k]? := fun k hk hn => hgr.block k (by omega) (fun e => hn (Option.some.inj e))
    have k7 : ∀ k, k < wc.heap.size → (wc.alloc (.cells #[.slice a1 t.kids.length c1, .int .i64 0, .int .i64 0] 81)).heap[k]? = wc.heap[k]? := fun k hk => (below_own (w := wc) _).block k hk
    have k8 : ∀ k, k < base → w8.heap[k]? = (wc.alloc (.cells #[.slice a1 t.kids.length c1, .int .i64 0, .int .i64 0] 81)).heap[k]? := fun k hk => HG8.out.block k (by have := HZ.out.1; omega) (fun e => by have := HL.out _ _ _ _ HO7.out _ e.symm; omega)
    have k9 : ∀ k, k ≠ db → (w8.setCell ⟨db, 0, none⟩ (.slice ao8 (L.length + 1) c8)).heap[k]? = w8.heap[k]? := fun k hk => by
      by_cases hlt : k < w8.heap.size
      · exact (Lib.grownBy_setCell w8 db 0 (.slice ao8 (L.length + 1) c8)).block k hlt (fun e => hk (Option.some.inj e))
      · have n1 : w8.heap[k]? = none := Array.getElem?_eq_none (by omega)
        have n2 : (w8.setCell ⟨db, 0, none⟩ (.slice ao8 (L.length + 1) c8)).heap[k]? = none := Array.getElem?_eq_none (by rw [World.size_setCell]; omega)
        rw [n1, n2]
    have kk : ∀ k, Old db mb base k → (w8.setCell ⟨db, 0, none⟩ (.slice ao8 (L.length + 1) c8)).heap[k]? = W.heap[k]? := fun k hk => (((k9 k hk.2.1).trans (k8 k hk.1)).trans (k7 k (by have := hk.1; omega))).trans (k6 k hk.1 hk.2.2)
    have hMv : Mv db mb w lv (w8.setCell ⟨db, 0, none⟩ (.slice ao8 (L.length + 1) c8)) (.slice ao8 (L.length + 1) c8) := by
      have hw := HGw.out.below
      have hs8 := HG8.out.size
      have h7s : wc.heap.size ≤ (wc.alloc (.cells #[.slice a1 t.kids.length c1, .int .i64 0, .int .i64 0] 81)).heap.size := (below_own (w := wc) _).size
      refine ⟨(Lib.grownBy_setCell w8 db 0 _).os.trans (HG8.out.os.trans ((below_own (w := wc) _).os.trans (hgr.os.trans hw.os))), (Lib.grownBy_setCell w8 db 0 _).tape.trans (HG8.out.tape.trans ((below_own (w := wc) _).tape.trans (hgr.tape.trans hw.tape))), (Lib.grownBy_setCell w8 db 0 _).output.trans (HG8.out.output.trans ((below_own (w := wc) _).output.trans (hgr.output.trans hw.output))), ?_, ?_, ?_⟩
      · rw [World.size_setCell]
        have := hw.size
        omega
      · intro k hk h1 h2 h3
        have hkc : k < W.heap.size := Nat.lt_of_lt_of_le hk hw.size
        have e6 : wc.heap[k]? = W.heap[k]? := hgr.block k hkc (fun e => h2 (Option.some.inj e))
        have e8 : w8.heap[k]? = (wc.alloc (.cells #[.slice a1 t.kids.length c1, .int .i64 0, .int .i64 0] 81)).heap[k]? := HG8.out.block k (by omega) (fun e => h3 e.symm)
        exact (k9 k h1).trans (e8.trans ((k7 k (by omega)).trans (e6.trans (hw.block k hk))))
      · rcases HN8.out with h | h
        · exact Or.inl h
        · exact Or.inr fun k hk => by have := h k hk; have := hw.size; omega
    refine ⟨rfl, .slice ao8 (L.length + 1) c8, hMv, ?_⟩
    have hC3 := HC3.out
    refine hC3.turn kk (World.cell?_setCell_same _ _ _ u0) ?_ (fun j => by rw [World.frozen?_setCell]; exact uf j) ?_ ?_ ?_ ?_ ?_ ?_ ?_
    · rw [World.cell?_setCell_other _ _ _ _ (by simp)]
      exact u1
    · rw [List.length_append, cellsV_append]
      exact owns_apart HO8.out (Lib.grownBy_setCell w8 db 0 _) (fun e => by have := HL.out _ _ _ _ HO8.out _ e; omega)
    · intro p hp
      rcases List.mem_append.1 hp with hp | hp
      · exact (hC3.left p hp).keep kk fun _ h => h
      · obtain rfl := List.mem_singleton.1 hp
        exact r1.stood.keep kk fun _ h => h
    · exact MapIs.keep hm' (((k9 mb hne.symm).trans (k8 mb hmb3)).trans (k7 mb (by omega)))
    · rw [List.map_append, List.nodup_append]
      refine ⟨hC3.nodup, by simp, fun a ha b hb => ?_⟩
      obtain ⟨p, hp, rfl⟩ := List.mem_map.1 ha
      have : b = keyA a1 t.kids.length := by simpa using hb
      rw [this]
      exact HN.out p hp
    · intro p hp
      rcases List.mem_append.1 hp with hp | hp
      · exact Or.inl ⟨p, hp, rfl⟩
      · obtain rfl := List.mem_singleton.1 hp
        exact Or.inr ⟨r1.goodKey.of_heap fun ad e => kk _ (r1.inKey ad e), r1.inKey⟩
    · intro p hp
      rcases List.mem_append.1 hp with hp | hp
      · exact mean_keep kk (fun q hq => ⟨q, List.mem_append_left _ hq, rfl⟩) (hC3.mean p hp)
      · obtain rfl := List.mem_singleton.1 hp
        exact Or.inr (Or.inl ⟨_, List.mem_append_right _ (List.mem_singleton.2 rfl), a1, t.kids.length, c1, rfl, rfl, rfl⟩)
    · have h8 := HG8.out.size
      rw [World.size_setCell]
      have := HZ.out.1
      omega
end Go.Proofs.YtmjblkcbkekcbaaGreatDoor
