/- The document's own Scan. A DRAFT: never built. -/
import Derived.Test.YtagjipkoheimjaaGreatDoorRefScanP
import Derived.Test.YtagjipkoheimjaaGreatDoorScan
import Derived.Test.YtagjipkoheimjaaGreatDoorRefPut
import Derived.Laws.BitsAllLaws
namespace Go.Proofs.YtagjipkoheimjaaGreatDoor
open Go.RowKit

theorem i64_or_nat (a b : Nat) (ha : a < 4294967296) (hb : b < 4294967296) : bits .or .i64 (a : Int) (b : Int) = ((a ||| b : Nat) : Int) := by
  have hx : a ||| b < 2 ^ 32 := Nat.or_lt_two_pow (by omega) (by omega)
  show IntKind.i64.wrap ((BitVec.ofInt 64 (a : Int) ||| BitVec.ofInt 64 (b : Int)).toNat : Int) = _
  have ea : (BitVec.ofInt 64 (a : Int)).toNat = a := by rw [BitVec.toNat_ofInt]; omega
  have eb : (BitVec.ofInt 64 (b : Int)).toNat = b := by rw [BitVec.toNat_ofInt]; omega
  rw [BitVec.toNat_or, ea, eb]
  exact IntWalk.i64_in _ (by omega)
theorem or_four64 (x y z u : Nat) (hx : x < 2 ^ 8) (hy : y < 2 ^ 8) (hz : z < 2 ^ 8) (hu : u < 2 ^ 8) : bits .or .i64 (bits .or .i64 (bits .or .i64 ((x : Int) * 16777216) ((y : Int) * 65536)) ((z : Int) * 256)) (u : Int) = (((x : Int) * 256 + y) * 256 + z) * 256 + u := by
  have e1 : bits .or .i64 ((x : Int) * 16777216) ((y : Int) * 65536) = ((x * 16777216 + y * 65536 : Nat) : Int) := by
    have := i64_or_nat (x * 16777216) (y * 65536) (by omega) (by omega)
    rw [nat_join 24 _ _ (by omega) (by omega)] at this
    exact this
  have e2 : bits .or .i64 ((x * 16777216 + y * 65536 : Nat) : Int) ((z : Int) * 256) = ((x * 16777216 + y * 65536 + z * 256 : Nat) : Int) := by
    have := i64_or_nat (x * 16777216 + y * 65536) (z * 256) (by omega) (by omega)
    rw [nat_join 16 _ _ (by omega) (by omega)] at this
    exact this
  have e3 : bits .or .i64 ((x * 16777216 + y * 65536 + z * 256 : Nat) : Int) (u : Int) = ((x * 16777216 + y * 65536 + z * 256 + u : Nat) : Int) := by
    have := i64_or_nat (x * 16777216 + y * 65536 + z * 256) u (by omega) (by omega)
    rw [nat_join 8 _ _ (by omega) (by omega)] at this
    exact this
  rw [e1, e2, e3]
  omega

/-- append in a drawn region, its answer's shape spelt. -/
theorem step_append_sl {P : Program} {ops : Array Oper} {o : Oper} {a : Act} {w : World} {K : Act → World → Prop} {Q : Exit → Act → World → Prop} {E : Prop}
    (hg : o.guard = none) (s x : Operand) (t : TypeId) (hop : o.op = Op.call { callee := Callee.builtin Builtin.append, args := #[s, x], argTypes := #[t, t] })
    (base : Nat) (e : TypeId) (i : TypeInfo) (z : Value) (size bytes : Nat) (ht : P.underlying t = some (.slice e)) (hi : P.info? e = some i) (hz : i.zero = some z) (hsize : i.size = size) (hby : i.bytes = bytes) (hzs : z.cells.size = size) (hsz : 0 < size)
    (v : Value) (n : Nat) (xs : List Value) (hs : a.eval s = v) (hown : w.ownsRow base e size v n xs) (ao : Option Addr) (m c : Nat) (news : List Value) (hx : a.eval x = .slice ao m c) (hl : news.length = m * size)
    (hnone : ao = none → m = 0 ∧ c = 0) (hnews : ∀ ad, ao = some ad → ∀ j u, news[j]? = some u → w.cell? (ad.add j) = some u) (h1 : ∀ u ∈ news, u.oneCell' = true)
    (h63 : n + m ≤ maxLen) (hbytes : (n + m) * bytes ≤ 140737488355328) (hbase : base ≤ w.heap.size)
    (hK : ∀ ao' c' w', w'.ownsRow base e size (.slice ao' (n + m) c') (n + m) (xs ++ news) → w.grownBy w' v.ownBlock → K (a.put o.dst (.slice ao' (n + m) c')) w') :
    if Region.wanted o (yielded ops a.tmps) = true then Oper.wp P o a w K Q else E :=
  step_append_any hg s x t hop base e i z size bytes ht hi hz hsize hby hzs hsz v n xs hs hown ao m c news hx hl hnone hnews h1 h63 hbytes hbase fun v' w' h2 h3 => by
    obtain ⟨ao', c', rfl⟩ := owns_slice h2
    exact hK ao' c' w' h2 h3

/-- A box that was made ahead of what grew. -/
theorem box_cells {w w' : World} {row : Option Nat} {g : Nat} (h : (w.alloc (.cells #[.int .i64 0, .slice none 0 0] 44)).grownBy w' row) (hg : g = w.heap.size) (hr : row ≠ some g) :
    w'.cell? ⟨g, 0, none⟩ = some (.int .i64 0) ∧ w'.cell? ⟨g, 1, none⟩ = some (.slice none 0 0) ∧ w'.frozen? ⟨g, 0, none⟩ = false ∧ w'.frozen? ⟨g, 1, none⟩ = false ∧ Hid (w'.heap[g]? = some (.cells #[.int .i64 0, .slice none 0 0] 44 (0, 0))) := by
  subst hg
  have hb := (h.block w.heap.size (by simp) (fun e => hr e.symm)).trans (heap_alloc_new w _)
  exact ⟨Lib.cell_of_heap hb 0, Lib.cell_of_heap hb 1, Lib.frozen_of_heap hb 0, Lib.frozen_of_heap hb 1, hb⟩
theorem box_cells2 {w w' : World} {O : Obj} {row : Option Nat} {g : Nat} (h : ((w.alloc (.cells #[.int .i64 0, .slice none 0 0] 44)).alloc O).grownBy w' row) (hg : g = w.heap.size) (hr : row ≠ some g) :
    w'.cell? ⟨g, 0, none⟩ = some (.int .i64 0) ∧ w'.cell? ⟨g, 1, none⟩ = some (.slice none 0 0) ∧ w'.frozen? ⟨g, 0, none⟩ = false ∧ w'.frozen? ⟨g, 1, none⟩ = false ∧ Hid (w'.heap[g]? = some (.cells #[.int .i64 0, .slice none 0 0] 44 (0, 0))) := by
  subst hg
  have hb := (h.block w.heap.size (by simp; omega) (fun e => hr e.symm)).trans (made2_first w _ _)
  exact ⟨Lib.cell_of_heap hb 0, Lib.cell_of_heap hb 1, Lib.frozen_of_heap hb 0, Lib.frozen_of_heap hb 1, hb⟩
/-- A frame in its box, its data in memory of their own. -/
structure FBox (wr W : World) (g : Nat) (k : Int) (a : Option Addr) (n c : Nat) (d : List UInt8) : Prop where
  below : Below wr.heap.size wr W
  ge : wr.heap.size ≤ g
  heap : W.heap[g]? = some (.cells #[.int .i64 k, .slice a n c] 44 (0, 0))
  own : W.ownsRow wr.heap.size 5 1 (.slice a n c) n (bcells d)
theorem fbox_new {wr w9 : World} {a : Option Addr} {n c : Nat} {d : List UInt8} (k : Int) (hb : Below wr.heap.size wr w9) (ho : w9.ownsRow wr.heap.size 5 1 (.slice a n c) n (bcells d)) : FBox wr (w9.alloc (.cells #[.int .i64 k, .slice a n c] 44)) w9.heap.size k a n c d :=
  ⟨below_new hb _, hb.size, heap_alloc_new w9 _, ho.alloc _⟩
theorem fbox_set {wr w9 : World} {g : Nat} {a : Option Addr} {n c : Nat} {d : List UInt8} (k : Int) (hb : Below wr.heap.size wr w9) (ho : w9.ownsRow wr.heap.size 5 1 (.slice a n c) n (bcells d)) (hg : wr.heap.size ≤ g) (hq : w9.heap[g]? = some (.cells #[.int .i64 0, .slice none 0 0] 44 (0, 0))) :
    FBox wr ((w9.setCell ⟨g, 0, none⟩ (.int .i64 k)).setCell ⟨g, 1, none⟩ (.slice a n c)) g k a n c d := by
  have g1 := Lib.grownBy_setCell w9 g 0 (.int .i64 k)
  have h1 := Lib.heap_setCell_same (i := 0) hq (.int .i64 k)
  have g2 := Lib.grownBy_setCell (w9.setCell ⟨g, 0, none⟩ (.int .i64 k)) g 1 (.slice a n c)
  have h2 := Lib.heap_setCell_same (i := 1) h1 (.slice a n c)
  refine ⟨(hb.grown g1 hb.size (fun q e => by cases e; exact hg)).grown g2 (Nat.le_trans hb.size g1.size) (fun q e => by cases e; exact hg), hg, h2, ?_⟩
  exact owns_far (e' := 44) (owns_far (e' := 44) ho (by decide) g1 (fun q e => by cases e; exact ⟨_, (0, 0), hq⟩)) (by decide) g2 (fun q e => by cases e; exact ⟨_, (0, 0), h1⟩)
theorem FBox.cells {wr W : World} {g : Nat} {k : Int} {a : Option Addr} {n c : Nat} {d : List UInt8} (h : FBox wr W g k a n c d) (W' : World) (b : Below W.heap.size W W') : W'.cell? ⟨g, 0, none⟩ = some (.int .i64 k) ∧ W'.cell? ⟨g, 1, none⟩ = some (.slice a n c) := by
  have h1 := (b.block g (lt_of_heap h.heap)).trans h.heap
  exact ⟨Lib.cell_of_heap h1 0, Lib.cell_of_heap h1 1⟩
theorem slG_takeB {B : Nat} {w : World} {ao : Option Addr} {l : List UInt8} (h : SlG B w ao (bcells l)) (n : Nat) : SlG B w ao (bcells (l.take n)) := by
  have e : bcells l = bcells (l.take n) ++ bcells (l.drop n) := by rw [← bcells_append, List.take_append_drop]
  rw [e] at h
  exact fun hne => by
    obtain ⟨sb, off, e1, e2, e3⟩ := h (fun e => hne (List.append_eq_nil_iff.1 e).1)
    exact ⟨sb, off, e1, e2, fun j u hu => e3 j u (by rw [List.getElem?_append_left (List.getElem?_eq_some_iff.1 hu).1]; exact hu)⟩
theorem le_drew_alloc (w : World) (n : Nat) (O : Obj) : w.heap.size ≤ ((w.drewN n).drew.alloc O).heap.size := (below_own (w := (w.drewN n).drew) O).size
theorem le_drew_alloc2 (w : World) (n : Nat) (O O2 : Obj) : w.heap.size ≤ (((w.drewN n).drew.alloc O).alloc O2).heap.size := Nat.le_trans (le_drew_alloc w n O) (below_own _).size
theorem World.ownsRow_made' {base e size : Nat} (w : World) (cur : Array Value) (cap g : Nat) (hg : g = w.heap.size) (hb : base ≤ g) (hm : cap ≤ maxLen) (hs : cur.size = cap * size) :
    (w.alloc (.cells cur e)).ownsRow base e size (.slice (some ⟨g, 0, none⟩) 0 cap) 0 [] := by
  subst hg
  exact World.ownsRow_made _ cur cap hb hm hs
theorem drew_alloc_size (w : World) (n : Nat) (O : Obj) : w.heap.size + 1 = ((w.drewN n).drew.alloc O).heap.size := by
  simp [World.drewN, World.drew]

set_option maxRecDepth 100000 in
set_option maxHeartbeats 4000000 in
theorem refScan_any (ao : Option Addr) (l : List UInt8) (c : Nat) (hlm : l.length ≤ 1000000000) (hc : l.length ≤ c) (hcm : c ≤ 9223372036854775807) (hn : ao = none → c = 0) (w : World) (h : SlG w.heap.size w ao (bcells l)) :
    Calls Tryz.prog 19 #[.slice ao l.length c] w (ScannedP (scanP l) w) := by
  have H := Lib.hid h
  have HN := Lib.hid hn
  have HLM := Lib.hid hlm
  have HC := Lib.hid hc
  have HCM := Lib.hid hcm
  clear h hn hlm hc hcm
  obtain ⟨i0, hi, hz0, hz1, hz2⟩ := info_parts infoFr
  obtain ⟨i1, hj, hy0, hy1, hy2⟩ := info_parts infoB
  go_enter Tryz.func19, Tryz.ntmps19
  go_wp2_with fail
  go_loopw [5, 6] (fun v i wr => ∃ (u : Nat) (ps : List (FR × Value)) (av : Option Addr) (cv : Nat), u ≤ l.length ∧ i = .int .i64 u ∧ v = .slice av ps.length cv ∧ ps.length ≤ u ∧ Hid (scanP l = (ps.map Prod.fst ++ (scanP (l.drop u)).1, u + (scanP (l.drop u)).2.1, (scanP (l.drop u)).2.2)) ∧ Hid (RowFr wr w.heap.size (.slice av ps.length cv) ps) ∧ Hid (Below w.heap.size w wr)) (fun _ i _ => l.length - (intOf i).toNat)
  case atStart => exact ⟨0, [], none, 0, by omega, rfl, rfl, by simp, by unfold Hid; simp, RowFr.nil _ _, Below.refl _ _⟩
  case round =>
    obtain ⟨u, ps, av, cv, hu, rfl, rfl, hpu, HSc, HRow, HB⟩ := hrel
    have hszb := HB.out.size
    have HL : Hid ((l.drop u).length = l.length - u) := List.length_drop
    have hul : (u : Int) ≤ (l.length : Int) := by omega
    have hlc : (l.length : Int) ≤ (c : Int) := by have := HC.out; omega
    have hlm' : (l.length : Int) ≤ 1000000000 := by have := HLM.out; omega
    by_cases h4 : 4 ≤ l.length - u
    · have j4 : decide ((4 : Int) ≤ (l.length : Int) - (u : Int)) = true := by simp; omega
      obtain ⟨sb, off, rfl, lt, -⟩ := H.out.cellB (by omega)
      have hcu : c ≠ u := by have := HC.out; omega
      have HS : Hid (SlG wr.heap.size wr (some ⟨sb, off + u, none⟩) (bcells (l.drop u))) := (cut_front H.out u).up HB.out hszb
      obtain ⟨B, hB⟩ : ∃ B, B = l.drop u := ⟨_, rfl⟩
      rw [← hB] at HS HL HSc
      obtain ⟨b0, b1, b2, b3, t, hBt⟩ : ∃ b0 b1 b2 b3 t, B = b0 :: b1 :: b2 :: b3 :: t := by
        have e := HL.out
        match B, e with
        | [], e | [_], e | [_, _], e | [_, _, _], e => simp at e; omega
        | b0 :: b1 :: b2 :: b3 :: t, _ => exact ⟨b0, b1, b2, b3, t, rfl⟩
      have hcl : ∀ (i : Nat) (v : Value), (bcells B)[i]? = some v → wr.cell? ⟨sb, off + u + i, none⟩ = some v := fun i v hv => by
        obtain ⟨sb', off', e, _, hc⟩ := HS.out (by rw [hBt]; simp [Lib.byteCells])
        cases e
        exact hc i v hv
      have a0 : wr.cell? ⟨sb, off + u + 0, none⟩ = some (.int .u8 (b0.toNat : Int)) := hcl 0 _ (by rw [hBt]; rfl)
      have a1 : wr.cell? ⟨sb, off + u + 1, none⟩ = some (.int .u8 (b1.toNat : Int)) := hcl 1 _ (by rw [hBt]; rfl)
      have a2 : wr.cell? ⟨sb, off + u + 2, none⟩ = some (.int .u8 (b2.toNat : Int)) := hcl 2 _ (by rw [hBt]; rfl)
      have a3 : wr.cell? ⟨sb, off + u + 3, none⟩ = some (.int .u8 (b3.toNat : Int)) := hcl 3 _ (by rw [hBt]; rfl)
      have hor := or_four64 b0.toNat b1.toNat b2.toNat b3.toNat b0.toNat_lt b1.toNat_lt b2.toNat_lt b3.toNat_lt
      have hnum : ((num4 B : Nat) : Int) = (((b0.toNat : Int) * 256 + b1.toNat) * 256 + b2.toNat) * 256 + b3.toNat := by rw [hBt]; exact num4_int _ _ _ _ _
      rw [← hnum] at hor
      have tlu : ((l.length : Int) - (u : Int)).toNat = l.length - u := by omega
      go_wp2_with fail
      have hMC : l.length - u ≤ c - u := by have := HC.out; omega
      have hMl : (((l.length - u : Nat) : Int)) = (l.length : Int) - (u : Int) := by omega
      generalize l.length - u = M at h4 HL hMC hMl ⊢
      generalize off + u = o at a0 a1 a2 a3 HS hcl ⊢
      generalize c - u = C at hMC ⊢
      have p0 : (0 : Int) < (M : Int) := by omega
      have p1 : (1 : Int) < (M : Int) := by omega
      have p2 : (2 : Int) < (M : Int) := by omega
      have p3 : (3 : Int) < (M : Int) := by omega
      have HH := Lib.hid (And.intro h4 (And.intro hMC hMl))
      have HCL := Lib.hid hcl
      have y0 := b0.toNat_lt
      have y1 := b1.toNat_lt
      have y2 := b2.toNat_lt
      have y3 := b3.toNat_lt
      have hhB := Lib.hid (And.intro hB hBt)
      have hlen4 : B.length = M := HL.out
      clear hMC hMl hcl hcu tlu hB hBt hnum hul hlc j4
      by_cases hbig : 1048576 < num4 B
      · have HR : Hid (scanP l = (ps.map Prod.fst, u, true)) := by
          have ht : tornB B = false := by
            unfold tornB
            rw [decide_eq_false (show ¬ B.length < 4 by omega), decide_eq_false (show ¬ num4 B ≤ 1048576 by omega)]
            rfl
          have hf : firstF B = none := by
            unfold firstF
            rw [if_neg (fun q => by omega)]
          unfold Hid
          rw [HSc.out, scan_none ht hf, List.append_nil]
          rfl
        have d1 : (1048576 : Int) < ((num4 B : Nat) : Int) := by omega
        clear hbig hlen4 h4 HSc
        go_quiet (fail)
        go_wp2
        go_ret3
        rw [HR.out]
        exact ⟨av, cv, ps, by simp, rfl, by simp only [List.length_map]; exact HRow.out.below (RowKit_drewN (Below.refl _ _) _), RowKit_drewN HB.out _⟩
      · have d1 : ¬ (1048576 : Int) < ((num4 B : Nat) : Int) := by omega
        by_cases hsh : M < 9 + num4 B
        · have HR : Hid (scanP l = (ps.map Prod.fst, u, false)) := by
            have ht : tornB B = true := by
              unfold tornB
              rw [decide_eq_true (show num4 B ≤ 1048576 by omega), decide_eq_true (show B.length < 9 + num4 B by omega)]
              simp
            unfold Hid
            rw [HSc.out, scan_torn ht, List.append_nil]
            rfl
          have d2 : (M : Int) < 9 + ((num4 B : Nat) : Int) := by omega
          have d3 : ((num4 B : Nat) : Int) ≤ 1048576 := by omega
          clear hbig hlen4 h4 HSc hsh
          go_quiet (fail)
          go_wp2
          go_ret3
          rw [HR.out]
          exact ⟨av, cv, ps, by simp, rfl, by simp only [List.length_map]; exact HRow.out.below (RowKit_drewN (Below.refl _ _) _), RowKit_drewN HB.out _⟩
        · have d2 : ¬ (M : Int) < 9 + ((num4 B : Nat) : Int) := by omega
          have d3 : ((num4 B : Nat) : Int) ≤ 1048576 := by omega
          have d4 : 9 + ((num4 B : Nat) : Int) ≤ (M : Int) := by omega
          have p4 : (4 : Int) < (M : Int) := by omega
          have k4 : wr.cell? ⟨sb, o + 4, none⟩ = some (.int .u8 ((kindB B).toNat : Int)) := HCL.out 4 _ (by
            have e : 4 < B.length := by omega
            unfold kindB
            simp [Lib.byteCells, List.getD_eq_getElem?_getD, List.getElem?_eq_getElem e])
          have HDL : Hid ((dataB B).length = num4 B) := data_length B (by omega)
          have hsb : sb < wr.heap.size := Nat.lt_of_lt_of_le lt hszb
          have hk1 : ∀ n O, ((wr.drewN n).alloc O).cell? ⟨sb, o + 4, none⟩ = some (.int .u8 ((kindB B).toNat : Int)) := fun n O => ((below_new (RowKit_drewN (Below.refl wr.heap.size wr) n) O).cell (p := ⟨sb, o + 4, none⟩) hsb).trans k4
          have hk2 : ∀ n O O2, (((wr.drewN n).alloc O).alloc O2).cell? ⟨sb, o + 4, none⟩ = some (.int .u8 ((kindB B).toNat : Int)) := fun n O O2 => ((below_new (below_new (RowKit_drewN (Below.refl wr.heap.size wr) n) O) O2).cell (p := ⟨sb, o + 4, none⟩) hsb).trans k4
          have HCs : Hid (∀ W, Below wr.heap.size wr W → ∀ ad', (if C = 9 then some (⟨sb, o, none⟩ : Addr) else some (⟨sb, o + 9, none⟩ : Addr)) = some ad' → ∀ j v, (bcells (dataB B))[j]? = some v → W.cell? (ad'.add j) = some v) := fun W hW ad' had j v hv => by
            have hjn : j < num4 B := by
              have := (List.getElem?_eq_some_iff.1 hv).1
              rwa [bcells_length, HDL.out] at this
            rw [if_neg (by have := HH.out.2.1; omega)] at had
            obtain rfl := Option.some.inj had
            rw [Addr.add_lit]
            refine (hW.cell (p := ⟨sb, o + 9 + j, none⟩) hsb).trans ?_
            rw [Nat.add_assoc]
            refine HCL.out (9 + j) v ?_
            rw [← hv]
            unfold dataB
            simp only [Lib.byteCells, List.getElem?_map, List.getElem?_take, List.getElem?_drop, if_pos hjn]
          have HN1 : Hid (num4 B ≤ 1048576) := by unfold Hid; omega
          have d5 : 9 + ((num4 B : Nat) : Int) ≤ (C : Int) := by have := HH.out.2.1; omega
          have d6 : (9 + ((num4 B : Nat) : Int)).toNat = 9 + num4 B := by omega
          have d7 : (9 : Int) ≤ 9 + ((num4 B : Nat) : Int) := by omega
          have d8 : 9 + num4 B - 9 = num4 B := by omega
          have hkw : IntKind.i64.wrap ((kindB B).toNat : Int) = ((kindB B).toNat : Int) := IntWalk.i64_in _ (by have := (kindB B).toNat_lt; omega)
          have d9 : IntKind.i64.wrap (9 + ((num4 B : Nat) : Int)) = 9 + ((num4 B : Nat) : Int) := IntWalk.i64_in _ (by omega)
          clear hbig hlen4 h4 hsh
          go_quiet (fail)
          go_wp2_with fail
          go_region_law (first | (refine step_append_sl rfl (.tmp 57) (.tmp 61) 26 rfl wr.heap.size 5 i1 (.int .u8 0) 1 1 Tryz.underlying26 hj hy0 hy1 hy2 rfl (by decide) (.slice (some ⟨wr.heap.size, 0, none⟩) 0 0) 0 [] rfl (World.ownsRow_made _ #[] 0 (Nat.le_refl wr.heap.size) (Nat.zero_le _) rfl) (if C = 9 then some ⟨sb, o, none⟩ else some ⟨sb, o + 9, none⟩) (num4 B) _ (bcells (dataB B)) rfl (by rw [bcells_length, Nat.mul_one]; exact HDL.out) (by intro h; split at h <;> cases h) (HCs.out _ ((RowKit_drewN (Below.refl wr.heap.size wr) nq).drew.alloc (Nat.le_refl _) _)) (Lib.byteCells_one _) (by have := HN1.out; unfold maxLen; omega) (by have := HN1.out; omega) (le_drew_alloc wr nq _) ?_; intro a9 c9 w9 hown9 hgrow9; have HB9 := Lib.hid (show Below wr.heap.size wr w9 from ((RowKit_drewN (Below.refl wr.heap.size wr) nq).drew.alloc (Nat.le_refl _) _).grown hgrow9 (le_drew_alloc wr nq _) (fun q e => by have e2 := Option.some.inj (show some (wr.heap.size) = some q from e); omega)); have k9 : w9.cell? ⟨sb, o + 4, none⟩ = some (.int .u8 ((kindB B).toNat : Int)) := (hgrow9.cell (a := ⟨sb, o + 4, none⟩) ((((RowKit_drewN (Below.refl wr.heap.size wr) nq).drew.alloc (Nat.le_refl _) _).cell (p := ⟨sb, o + 4, none⟩) hsb).trans k4) (fun e => by have e2 := Option.some.inj (show some sb = some (wr.heap.size) from e); omega)); have k9a : ∀ O, (w9.alloc O).cell? ⟨sb, o + 4, none⟩ = some (.int .u8 ((kindB B).toNat : Int)) := fun O => ((below_own (w := w9) O).cell (p := ⟨sb, o + 4, none⟩) (World.block_lt_of_cell? w9 _ k9)).trans k9) | (refine step_append_sl rfl (.tmp 57) (.tmp 61) 26 rfl wr.heap.size 5 i1 (.int .u8 0) 1 1 Tryz.underlying26 hj hy0 hy1 hy2 rfl (by decide) (.slice (some ⟨wr.heap.size, 0, none⟩) 0 0) 0 [] rfl (World.ownsRow.alloc (World.ownsRow_made _ #[] 0 (Nat.le_refl wr.heap.size) (Nat.zero_le _) rfl) _) (if C = 9 then some ⟨sb, o, none⟩ else some ⟨sb, o + 9, none⟩) (num4 B) _ (bcells (dataB B)) rfl (by rw [bcells_length, Nat.mul_one]; exact HDL.out) (by intro h; split at h <;> cases h) (HCs.out _ (((RowKit_drewN (Below.refl wr.heap.size wr) nq).drew.alloc (Nat.le_refl _) _).alloc (le_drew_alloc wr nq _) _)) (Lib.byteCells_one _) (by have := HN1.out; unfold maxLen; omega) (by have := HN1.out; omega) (le_drew_alloc2 wr nq _ _) ?_; intro a9 c9 w9 hown9 hgrow9; have HB9 := Lib.hid (show Below wr.heap.size wr w9 from (((RowKit_drewN (Below.refl wr.heap.size wr) nq).drew.alloc (Nat.le_refl _) _).alloc (le_drew_alloc wr nq _) _).grown hgrow9 (le_drew_alloc2 wr nq _ _) (fun q e => by have e2 := Option.some.inj (show some (wr.heap.size) = some q from e); omega)); have k9 : w9.cell? ⟨sb, o + 4, none⟩ = some (.int .u8 ((kindB B).toNat : Int)) := (hgrow9.cell (a := ⟨sb, o + 4, none⟩) (((((RowKit_drewN (Below.refl wr.heap.size wr) nq).drew.alloc (Nat.le_refl _) _).alloc (le_drew_alloc wr nq _) _).cell (p := ⟨sb, o + 4, none⟩) hsb).trans k4) (fun e => by have e2 := Option.some.inj (show some sb = some (wr.heap.size) from e); omega)); have k9a : ∀ O, (w9.alloc O).cell? ⟨sb, o + 4, none⟩ = some (.int .u8 ((kindB B).toNat : Int)) := fun O => ((below_own (w := w9) O).cell (p := ⟨sb, o + 4, none⟩) (World.block_lt_of_cell? w9 _ k9)).trans k9; obtain ⟨hq0, hq1, hq2, hq3, hqh⟩ := box_cells (g := wr.heap.size + 1) hgrow9 (drew_alloc_size wr nq _) (fun e => Nat.succ_ne_self wr.heap.size (Option.some.inj (show some wr.heap.size = some (wr.heap.size + 1) from e)).symm)) | (refine step_append_sl rfl (.tmp 57) (.tmp 61) 26 rfl wr.heap.size 5 i1 (.int .u8 0) 1 1 Tryz.underlying26 hj hy0 hy1 hy2 rfl (by decide) (.slice (some ⟨wr.heap.size + 1, 0, none⟩) 0 0) 0 [] rfl (World.ownsRow_made' _ #[] 0 (wr.heap.size + 1) (drew_alloc_size wr nq _) (Nat.le_succ _) (Nat.zero_le _) rfl) (if C = 9 then some ⟨sb, o, none⟩ else some ⟨sb, o + 9, none⟩) (num4 B) _ (bcells (dataB B)) rfl (by rw [bcells_length, Nat.mul_one]; exact HDL.out) (by intro h; split at h <;> cases h) (HCs.out _ (((RowKit_drewN (Below.refl wr.heap.size wr) nq).drew.alloc (Nat.le_refl _) _).alloc (le_drew_alloc wr nq _) _)) (Lib.byteCells_one _) (by have := HN1.out; unfold maxLen; omega) (by have := HN1.out; omega) (le_drew_alloc2 wr nq _ _) ?_; intro a9 c9 w9 hown9 hgrow9; have HB9 := Lib.hid (show Below wr.heap.size wr w9 from (((RowKit_drewN (Below.refl wr.heap.size wr) nq).drew.alloc (Nat.le_refl _) _).alloc (le_drew_alloc wr nq _) _).grown hgrow9 (le_drew_alloc2 wr nq _ _) (fun q e => by have e2 := Option.some.inj (show some (wr.heap.size + 1) = some q from e); omega)); have k9 : w9.cell? ⟨sb, o + 4, none⟩ = some (.int .u8 ((kindB B).toNat : Int)) := (hgrow9.cell (a := ⟨sb, o + 4, none⟩) (((((RowKit_drewN (Below.refl wr.heap.size wr) nq).drew.alloc (Nat.le_refl _) _).alloc (le_drew_alloc wr nq _) _).cell (p := ⟨sb, o + 4, none⟩) hsb).trans k4) (fun e => by have e2 := Option.some.inj (show some sb = some (wr.heap.size + 1) from e); omega)); have k9a : ∀ O, (w9.alloc O).cell? ⟨sb, o + 4, none⟩ = some (.int .u8 ((kindB B).toNat : Int)) := fun O => ((below_own (w := w9) O).cell (p := ⟨sb, o + 4, none⟩) (World.block_lt_of_cell? w9 _ k9)).trans k9; obtain ⟨hq0, hq1, hq2, hq3, hqh⟩ := box_cells2 (g := wr.heap.size) hgrow9 rfl (fun e => Nat.succ_ne_self wr.heap.size (Option.some.inj (show some (wr.heap.size + 1) = some wr.heap.size from e)))))
          all_goals
            clear hk1 hk2 k9 k9a k4 a0 a1 a2 a3 hor y0 y1 y2 y3 p0 p1 p2 p3 p4
            simp only [Nat.zero_add, List.nil_append] at hown9
            first
              | (have HF := Lib.hid (fbox_set (g := wr.heap.size + 1) ((kindB B).toNat : Int) HB9.out hown9 (Nat.le_succ _) hqh.out); generalize (w9.setCell ⟨wr.heap.size + 1, 0, none⟩ (.int .i64 ((kindB B).toNat : Int))).setCell ⟨wr.heap.size + 1, 1, none⟩ (.slice a9 (num4 B) c9) = W11 at HF ⊢; clear hq0 hq1 hq2 hq3 hqh)
              | (have HF := Lib.hid (fbox_set (g := wr.heap.size) ((kindB B).toNat : Int) HB9.out hown9 (Nat.le_refl _) hqh.out); generalize (w9.setCell ⟨wr.heap.size, 0, none⟩ (.int .i64 ((kindB B).toNat : Int))).setCell ⟨wr.heap.size, 1, none⟩ (.slice a9 (num4 B) c9) = W11 at HF ⊢; clear hq0 hq1 hq2 hq3 hqh)
              | (have HF := Lib.hid (fbox_new ((kindB B).toNat : Int) HB9.out hown9); generalize w9.alloc (.cells #[.int .i64 ((kindB B).toNat : Int), .slice a9 (num4 B) c9] 44) = W11 at HF ⊢)
            clear hown9 hgrow9 HB9
            obtain ⟨c0, c1⟩ := HF.out.cells W11 (Below.refl _ _)
            have KP : Hid (Calls Tryz.prog 12 #[.slice (some ⟨W11.heap.size, 0, none⟩) 1 1] (W11.alloc (.cells #[.int .i64 ((kindB B).toNat : Int), .slice a9 (num4 B) c9] 44)) (fun e w' => ∃ ao c, e = .returned (.tuple #[.slice ao (9 + num4 B) c, .int .i64 0]) ∧ w'.ownsRow (W11.alloc (.cells #[.int .i64 ((kindB B).toNat : Int), .slice a9 (num4 B) c9] 44)).heap.size 5 1 (.slice ao (9 + num4 B) c) (9 + num4 B) (bcells (frB (((kindB B).toNat : Int), dataB B))) ∧ Below (W11.alloc (.cells #[.int .i64 ((kindB B).toNat : Int), .slice a9 (num4 B) c9] 44)).heap.size (W11.alloc (.cells #[.int .i64 ((kindB B).toNat : Int), .slice a9 (num4 B) c9] 44)) w')) := by
              have ho := HF.out.own
              rw [← HDL.out] at ho
              have hs := slFr_one W11 ((kindB B).toNat : Int) (dataB B) a9 c9 (owns_slB ho) (owns_none ho)
              have hDl : (frB (((kindB B).toNat : Int), dataB B)).length = 9 + num4 B := by rw [frB_length, HDL.out]
              have h := refPut_any (some ⟨W11.heap.size, 0, none⟩) [(((kindB B).toNat : Int), dataB B)] 1 (by simp) _ hs (by
                rw [List.flatMap_cons, List.flatMap_nil, List.append_nil, hDl]
                have := HN1.out
                omega)
              rw [put_again B HN1.out (by have := HL.out; omega), HDL.out] at h
              refine h.mono fun e w' ⟨ao, c, h1, h2, h3⟩ => ⟨ao, c, ?_, ?_, h3⟩
              · rw [h1]
                simp only [hDl]
                rfl
              · simp only [hDl] at h2
                exact h2
            generalize (if C = 9 then (some ⟨sb, o, none⟩ : Option Addr) else some ⟨sb, o + 9, none⟩) = z61
            go_wp2_with (go_at_call 12; go_must (refine (KP.out).mono ?_; rintro e w12 ⟨ao12, c12, rfl, ho12, hb12⟩; refine Hid.out ?_))
            have HB12 : Hid (Below W11.heap.size W11 w12) := (below_own (w := W11) _).trans (hb12.mono (below_own _).size)
            have HBr := Lib.hid (HF.out.below.trans (HB12.out.mono HF.out.below.size))
            have HRF : Hid (firstF B = if frB (((kindB B).toNat : Int), dataB B) = B.take (9 + num4 B) then some (((kindB B).toNat : Int), dataB B) else none) := ref_first B HN1.out (by have := HL.out; omega)
            have hta : tornB B = false := by
              have := HL.out
              unfold tornB
              rw [decide_eq_false (show ¬ B.length < 4 by omega), decide_eq_false (show ¬ B.length < 9 + num4 B by omega)]
              simp
            have HT := Lib.hid hta
            have hTl : (B.take (9 + num4 B)).length = 9 + num4 B := by
              rw [List.length_take]
              have := HL.out
              omega
            have hcB0 : ∀ n, (convert 26 9 (.slice (some ⟨sb, o, none⟩) (9 + num4 B) C)).run Tryz.prog (w12.drewN n) = .ok (.string ⟨(B.take (9 + num4 B)).toArray⟩) (w12.drewN n) := fun n => by
              have h0 : SlG (w12.drewN n).heap.size (w12.drewN n) (some ⟨sb, o, none⟩) (bcells (B.take (9 + num4 B))) := by
                have h1 := (slG_takeB HS.out (9 + num4 B)).up (RowKit_drewN HBr.out n) (RowKit_drewN HBr.out n).size
                exact h1
              have h2 := conv_slG (c := C) h0 (by simp)
              rwa [hTl] at h2
            have hcA0 : ∀ n, (convert 26 9 (.slice ao12 (9 + num4 B) c12)).run Tryz.prog (w12.drewN n) = .ok (.string ⟨(frB (((kindB B).toNat : Int), dataB B)).toArray⟩) (w12.drewN n) := fun n => by
              have hDl : (frB (((kindB B).toNat : Int), dataB B)).length = 9 + num4 B := by rw [frB_length, HDL.out]
              rw [← hDl] at ho12 ⊢
              have h0 := (owns_slB ho12).up (RowKit_drewN (Below.refl w12.heap.size w12) n) (RowKit_drewN (Below.refl w12.heap.size w12) n).size
              exact conv_slG (c := c12) h0 (owns_none ho12)
            have hcB := hcB0 0
            have hcA := hcA0 0
            simp only [World.drewN] at hcA hcB
            have hps : ps.length ≤ 1000000000 := by have := HLM.out; omega
            have hd11 : num4 B ≤ 1048576 := HN1.out
            have hrow12 := HRow.out.below (HBr.out)
            have HOf := Lib.hid (owns_below HF.out.own HB12.out)
            clear hta hTl ho12 hb12 KP
            by_cases hEq : frB (((kindB B).toNat : Int), dataB B) = B.take (9 + num4 B)
            · have HFst := HRF.out
              rw [if_pos hEq] at HFst
              rw [hEq] at hcA hcA0
              have HR : Hid (scanP l = ((ps.map Prod.fst ++ [(((kindB B).toNat : Int), dataB B)]) ++ (scanP (l.drop (u + (9 + num4 B)))).1, (u + (9 + num4 B)) + (scanP (l.drop (u + (9 + num4 B)))).2.1, (scanP (l.drop (u + (9 + num4 B)))).2.2)) := by
                unfold Hid
                have e1 : ∀ n, B.drop n = l.drop (u + n) := fun n => by rw [hhB.out.1, List.drop_drop]
                rw [HSc.out, scan_some HT.out HFst]
                simp only [HDL.out, e1, List.append_assoc, List.singleton_append, Nat.add_assoc]
              clear HRF hEq HFst HSc HT
              generalize (⟨(B.take (9 + num4 B)).toArray⟩ : ByteArray) = S at hcA hcB hcA0 hcB0
              obtain ⟨c2, c3⟩ := HF.out.cells w12 HB12.out
              have hb9 : u + (9 + num4 B) ≤ l.length := by have := HH.out.2.2; omega
              have HM9 := Lib.hid hb9
              have hu9 : u ≤ 1000000000 := by have := HLM.out; omega
              have HRw := Lib.hid hrow12
              clear c0 c1 hrow12 hb9
              refine Lib.hid ?_
              go_wp2_with fail
              go_quiet (fail)
              go_wp2_with (at_builtin; go_must (refine wpList_append_own _ rfl _ _ 22 rfl w.heap.size 44 i0 (.agg #[.int .i64 0, .slice none 0 0]) 2 32 Tryz.underlying22 hi hz0 hz1 hz2 rfl (by decide) _ _ _ rfl (World.ownsRow.alloc (owns_below HRw.out.row (RowKit_drewN (Below.refl _ _) nq)) _) ⟨w12.heap.size, 0, none⟩ 1 1 [.int .i64 ((kindB B).toNat : Int), .slice a9 (num4 B) c9] rfl rfl (fun j u hu => by rw [Addr.add_lit, Nat.zero_add]; exact cells_made (w12.drewN nq) _ _ j u (by simpa using hu)) (fun u hu => by simp at hu; rcases hu with rfl | rfl <;> rfl) (by unfold maxLen; omega) (by omega) (Nat.le_trans HB.out.size (Nat.le_trans HBr.out.size (below_own (w := w12.drewN nq) _).size)) ?_; intro v' w5 hown5 hgrow5 hnil5; obtain ⟨ao5, c5, rfl⟩ := owns_slice hown5; refine Hid.out ?_))
              have hW : Below w12.heap.size w12 ((w12.drewN nq).alloc (.cells #[.int .i64 ((kindB B).toNat : Int), .slice a9 (num4 B) c9] 44)) := below_new (RowKit_drewN (Below.refl _ _) nq) _
              have hr3 : RowFr ((w12.drewN nq).alloc (.cells #[.int .i64 ((kindB B).toNat : Int), .slice a9 (num4 B) c9] 44)) w.heap.size (.slice av ps.length cv) ps := HRw.out.below hW
              have hof : ((w12.drewN nq).alloc (.cells #[.int .i64 ((kindB B).toNat : Int), .slice a9 (num4 B) c9] 44)).ownsRow wr.heap.size 5 1 (.slice a9 (num4 B) c9) (dataB B).length (bcells (dataB B)) := by
                rw [HDL.out]
                exact owns_below HOf.out hW
              have HR5 : Hid (RowFr w5 w.heap.size (.slice ao5 (ps.length + 1) c5) (ps ++ [((((kindB B).toNat : Int), dataB B), .slice a9 (num4 B) c9)])) :=
                RowFr.snoc (B := wr.heap.size) (p := ((((kindB B).toNat : Int), dataB B), .slice a9 (num4 B) c9)) hr3 (fun q hq g hg => HRow.out.lt q hq g hg) hof hszb hgrow5 hown5
              have HB5 : Hid (Below w.heap.size w w5) := ((HB.out.trans (HBr.out.mono hszb)).trans (hW.mono (Nat.le_trans hszb HBr.out.size))).grown hgrow5 (Nat.le_trans hszb (Nat.le_trans HBr.out.size hW.size)) (fun g hg => (HRow.out.row.lt g hg).1)
              clear hr3 hof hown5 hgrow5 hnil5 hW
              refine Lib.hid ?_
              go_wp2_with fail
              go_roundw
              case rel =>
                refine ⟨u + (9 + num4 B), ps ++ [((((kindB B).toNat : Int), dataB B), .slice a9 (num4 B) c9)], ao5, c5, HM9.out, by go_num, ?_, ?_, ?_, ?_, HB5⟩
                · rw [List.length_append]; rfl
                · rw [List.length_append, List.length_singleton]; omega
                · unfold Hid; rw [HR.out, List.map_append]; rfl
                · rw [List.length_append]; exact HR5
              case measure => have := HM9.out; simp [intOf]; omega
            · have HFst := HRF.out
              rw [if_neg hEq] at HFst
              have HR : Hid (scanP l = (ps.map Prod.fst, u, true)) := by
                unfold Hid
                rw [HSc.out, scan_none HT.out HFst, List.append_nil]
                rfl
              have hS0 : (⟨(frB (((kindB B).toNat : Int), dataB B)).toArray⟩ : ByteArray) ≠ ⟨(B.take (9 + num4 B)).toArray⟩ := fun e => hEq (by simpa using congrArg (fun x => x.data.toList) e)
              clear HRF HFst hEq HSc HT
              generalize (⟨(B.take (9 + num4 B)).toArray⟩ : ByteArray) = S at hcB hcB0 hS0
              generalize (⟨(frB (((kindB B).toNat : Int), dataB B)).toArray⟩ : ByteArray) = S2 at hcA hcA0 hS0
              have hS1 : (S2.toList == S.toList) = false := by
                rw [ByteArray.toList_eq, ByteArray.toList_eq]
                exact beq_eq_false_iff_ne.2 (fun e => hS0 (ByteArray.ext (Array.toList_inj.1 e)))
              have HRw := Lib.hid hrow12
              clear hrow12 c0 c1 hS0
              refine Lib.hid ?_
              go_wp2_with fail
              go_quiet (fail)
              go_wp2
              go_ret3
              rw [HR.out]
              exact ⟨av, cv, ps, by simp, rfl, by simp only [List.length_map]; exact HRw.out.below (RowKit_drewN (Below.refl _ _) _), RowKit_drewN (HB.out.trans (HBr.out.mono hszb)) _⟩
    · have j4 : decide ((4 : Int) ≤ (l.length : Int) - (u : Int)) = false := by simp; omega
      have HR : Hid (scanP l = (ps.map Prod.fst, u, false)) := by
        have ht : tornB (l.drop u) = true := by
          unfold tornB
          rw [decide_eq_true (show (l.drop u).length < 4 by rw [HL.out]; omega)]
          rfl
        unfold Hid
        rw [HSc.out, scan_torn ht, List.append_nil]
        rfl
      clear HSc
      go_wp2_with fail
      go_ret3
      rw [HR.out]
      exact ⟨av, cv, ps, by simp, rfl, by simp only [List.length_map]; exact HRow.out, HB.out⟩
end Go.Proofs.YtagjipkoheimjaaGreatDoor
