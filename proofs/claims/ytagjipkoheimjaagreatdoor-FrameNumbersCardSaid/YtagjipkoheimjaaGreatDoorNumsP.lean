/- What FrameNumbers leans on: copies of bytes, rows of two and three frames, the laws over rows of one's own. -/
import Derived.Test.YtagjipkoheimjaaGreatDoorFrameScans
import Derived.Test.YtagjipkoheimjaaGreatDoorFramePuts
namespace Go.Proofs.YtagjipkoheimjaaGreatDoor
open Go.RowKit

/-- append to a row of one's own, under a guard that holds. -/
theorem wpList_append_when {P : Program} (w : World) {ops : Array Oper} {rest : List Oper} {o : Oper} {a : Act} {Q : Exit → Act → World → Prop}
    (hw : Region.wanted o (yielded ops a.tmps) = true) (s x : Operand) (t : TypeId) (hop : o.op = Op.call { callee := Callee.builtin Builtin.append, args := #[s, x], argTypes := #[t, t] })
    (base : Nat) (e : TypeId) (i : TypeInfo) (z : Value) (size bytes : Nat) (ht : P.underlying t = some (.slice e)) (hi : P.info? e = some i) (hz : i.zero = some z) (hsize : i.size = size) (hby : i.bytes = bytes) (hzs : z.cells.size = size) (hsz : 0 < size)
    (v : Value) (n : Nat) (xs : List Value) (hs : a.eval s = v) (hown : w.ownsRow base e size v n xs) (ad : Addr) (m c : Nat) (news : List Value) (hx : a.eval x = .slice (some ad) m c) (hl : news.length = m * size)
    (hnews : ∀ j u, news[j]? = some u → w.cell? (ad.add j) = some u) (h1 : ∀ u ∈ news, u.oneCell' = true)
    (h63 : n + m ≤ maxLen) (hbytes : (n + m) * bytes ≤ 140737488355328) (hbase : base ≤ w.heap.size)
    (hK : ∀ v' w', w'.ownsRow base e size v' (n + m) (xs ++ news) → w.grownBy w' v.ownBlock → wpList P ops Q rest (a.put o.dst v') w') :
    wpList P ops Q (o :: rest) a w :=
  wpList_step fun K hK' => by
    rw [if_pos hw]
    exact wp_append_own w s x t hop base e i z size bytes ht hi hz hsize hby hzs hsz v n xs hs hown ad m c news hx hl hnews h1 h63 hbytes hbase fun v' w' h2 h3 _ => hK' _ _ (hK v' w' h2 h3)

set_option maxRecDepth 100000 in
set_option maxHeartbeats 1000000 in
theorem copyB_any (ao : Option Addr) (c : Nat) (l : List UInt8) (w : World) (hl : l.length ≤ 100000) (h : SlG w.heap.size w ao (bcells l)) (hn : ao = none → l.length = 0 ∧ c = 0) :
    Calls Tryz.prog 22 #[.slice ao l.length c] w (fun e w' => ∃ ao' c', e = .returned (.slice ao' l.length c') ∧ w'.ownsRow w.heap.size 5 1 (.slice ao' l.length c') l.length (bcells l) ∧ Below w.heap.size w w') := by
  obtain ⟨i0, hi, hz0, hz1, hz2⟩ := info_parts infoB
  have HS := Lib.hid h
  have HN := Lib.hid hn
  clear h hn
  go_enter Tryz.func22, Tryz.ntmps22
  go_wp2_with (at_builtin; go_must (refine wpList_append_apart _ rfl _ _ 26 rfl w.heap.size 5 i0 (.int .u8 0) 1 1 Tryz.underlying26 hi hz0 hz1 hz2 rfl (by decide) _ 0 [] rfl (World.ownsRow_nil _ _ _ _) ao l.length c (bcells l) rfl (by rw [bcells_length, Nat.mul_one]) HN.out (fun ad had => (HS.out.slB (fun e => (HN.out e).2)).cells ad had) (Lib.byteCells_one _) (by unfold maxLen; omega) (by omega) (Nat.le_refl _) ?_; intro v' w' hown hgrow hwh; obtain ⟨a', c', rfl⟩ := owns_slice hown; refine Hid.out ?_))
  simp only [Nat.zero_add, List.nil_append] at hown
  have HO := Lib.hid hown
  have HB : Hid (Below w.heap.size w w') := (Below.refl _ _).grown hgrow (Nat.le_refl _) (fun k hk => by cases hk)
  clear hown hgrow hwh
  refine Lib.hid ?_
  go_wp2_with fail
  go_ret
  exact ⟨a', c', by simp, HO.out, HB.out⟩

/-- FrameScans over a row of one's own. -/
theorem scans_own {w : World} {base : Nat} {ao : Option Addr} {n c : Nat} {l : List UInt8} (h : w.ownsRow base 5 1 (.slice ao n c) n (bcells l)) (hn : n = l.length) :
    Calls Tryz.prog 4 #[.slice ao n c] w (YesP w) := by
  subst hn
  obtain ⟨h1, h2, h3⟩ := owns_cap h
  exact frameScans_any ao l c w (owns_slB h) h3 h1 h2

/-- Frames that lie at a row just made. -/
theorem slFr_made (w : World) (ps : List (FR × Value)) (h : ∀ p, p ∈ ps → SlD w.heap.size w p) : SlFr (w.alloc (.cells (cellsFr ps).toArray 44)).heap.size (w.alloc (.cells (cellsFr ps).toArray 44)) (some ⟨w.heap.size, 0, none⟩) (ps.map Prod.fst) := by
  refine ⟨ps, rfl, fun _ => ⟨w.heap.size, 0, rfl, by simp, fun j u hj => ?_⟩, fun p hp => (h p hp).up (below_own _) (below_own _).size⟩
  rw [Nat.zero_add]
  exact cells_made _ _ _ _ _ (by simpa using hj)
theorem slD_nil (B : Nat) (w : World) (k : Int) : SlD B w ((k, []), .slice none 0 0) := ⟨none, 0, rfl, (fun hne => absurd rfl hne), fun _ => rfl⟩
theorem slD_lit (w : World) (k : Int) (l : List UInt8) (c : Nat) : SlD (w.alloc (.cells (bcells l).toArray 5)).heap.size (w.alloc (.cells (bcells l).toArray 5)) ((k, l), .slice (some ⟨w.heap.size, 0, none⟩) l.length c) :=
  ⟨some ⟨w.heap.size, 0, none⟩, c, rfl, slG_made w _ l rfl, fun h => by cases h⟩
theorem fill0 (n : Nat) : (madeCells (Value.int .u8 0).cells (n * 1)).toList = bcells (List.replicate n 0) := by
  have := toList_madeCells_one (.int .u8 0) (n * 1)
  rw [show (Value.int .u8 0).cells = #[.int .u8 0] from rfl, this]
  show _ = (List.replicate n (0 : UInt8)).map _
  rw [List.map_replicate, Nat.mul_one]
  rfl
theorem ok_small (l : List FR) (h : ∀ f, f ∈ l → 0 ≤ f.1 ∧ f.1 ≤ 255 ∧ f.2.length ≤ 1048576) : OkFs l := fun f hf => ok_fault (h f hf)

/-- The three frames that are put. -/
def l3 : List FR := [(0, []), (255, [1, 2, 3]), (9, List.replicate 40 0)]
def D3 : List UInt8 := l3.flatMap frB
theorem D3_len : D3.length = 70 := by
  unfold D3 l3
  simp only [List.flatMap_cons, List.flatMap_nil, List.append_nil, List.length_append, frB_length, List.length_replicate]
  rfl
theorem put3 (w2 : World) (b1 b2 : Nat) (h1 : SlG w2.heap.size w2 (some ⟨b1, 0, none⟩) (bcells [1, 2, 3])) (h2 : SlG w2.heap.size w2 (some ⟨b2, 0, none⟩) (bcells (List.replicate 40 0))) :
    Calls Tryz.prog 9 #[.slice (some ⟨w2.heap.size, 0, none⟩) 3 3] (w2.alloc (.cells #[.int .i64 0, .slice none 0 0, .int .i64 255, .slice (some ⟨b1, 0, none⟩) 3 3, .int .i64 9, .slice (some ⟨b2, 0, none⟩) 40 40] 44))
      (fun e w' => ∃ b c, e = .returned (.tuple #[.slice (some ⟨b, 0, none⟩) 70 c, .int .i64 0]) ∧ BodyAt w' b D3 ∧ 70 ≤ c ∧ c ≤ maxLen ∧ Below w2.heap.size w2 w') := by
  have hs := slFr_made w2 [((0, []), .slice none 0 0), ((255, [1, 2, 3]), .slice (some ⟨b1, 0, none⟩) 3 3), ((9, List.replicate 40 0), .slice (some ⟨b2, 0, none⟩) 40 40)] (fun p hp => by
    simp only [List.mem_cons, List.not_mem_nil, or_false] at hp
    rcases hp with rfl | rfl | rfl
    · exact slD_nil _ _ _
    · exact ⟨_, 3, rfl, h1, fun h => by cases h⟩
    · exact ⟨_, 40, by simp, h2, fun h => by cases h⟩)
  have hok : OkFs l3 := ok_small _ (fun f hf => by
    simp only [l3, List.mem_cons, List.not_mem_nil, or_false] at hf
    rcases hf with rfl | rfl | rfl <;> simp)
  have hl : (l3.flatMap frB).length = 70 := D3_len
  have h := put_any (some ⟨w2.heap.size, 0, none⟩) l3 3 (by simp [l3]) _ hs (by rw [hl]; omega)
  rw [putF_ok l3 hok] at h
  refine h.mono fun e w' ⟨ao, c, h1, h2, h3⟩ => ?_
  simp only [hl] at h1 h2
  obtain ⟨k1, k2, k3⟩ := owns_cap h2
  obtain ⟨b, rfl, hb, _⟩ := own_body h2 (by omega)
  exact ⟨b, c, h1, hb, k1, k2, (below_own (w := w2) _).trans (h3.mono (below_own (w := w2) _).size)⟩
theorem byte_of (v : Int) (h0 : 0 ≤ v) (h1 : v < 256) : ∃ y : UInt8, v = (y.toNat : Int) := ⟨UInt8.ofNat v.toNat, by rw [UInt8.toNat_ofNat']; omega⟩
theorem xor_byte (v : Int) : ∃ y : UInt8, bits .xor .u8 v 128 = (y.toNat : Int) := by
  have h : bits .xor .u8 v 128 = IntKind.u8.wrap ((BitVec.ofInt 8 v ^^^ BitVec.ofInt 8 128).toNat : Int) := rfl
  rw [h, IntKind.wrap_u8']
  exact byte_of _ (by omega) (by omega)
def kindCs : Array Value := #[.int .i64 (-9223372036854775808), .int .i64 (-1), .int .i64 0, .int .i64 255, .int .i64 256, .int .i64 9223372036854775807]
theorem kind_at (V : World) (j : Nat) (hj : j < 6) : ∃ x : Int, ∀ w, Below (V.alloc (.cells kindCs 3)).heap.size (V.alloc (.cells kindCs 3)) w → w.cell? ⟨V.heap.size, j, none⟩ = some (.int .i64 x) := by
  have h : ∃ x : Int, kindCs[j]? = some (.int .i64 x) := by
    match j, hj with
    | 0, _ => exact ⟨_, rfl⟩
    | 1, _ => exact ⟨_, rfl⟩
    | 2, _ => exact ⟨_, rfl⟩
    | 3, _ => exact ⟨_, rfl⟩
    | 4, _ => exact ⟨_, rfl⟩
    | 5, _ => exact ⟨_, rfl⟩
  obtain ⟨x, hx⟩ := h
  refine ⟨x, fun w hb => ?_⟩
  rw [Lib.cell_of_heap ((hb.block V.heap.size (by simp)).trans (heap_alloc_new V _)) j]
  exact hx
theorem putsA (x : Int) (W : World) : Calls Tryz.prog 3 #[.slice (some ⟨W.heap.size + 1, 0, none⟩) 2 2] ((W.alloc (.cells #[.int .u8 5] 5)).alloc (.cells #[.int .i64 1, .slice none 0 0, .int .i64 x, .slice (some ⟨W.heap.size, 0, none⟩) 1 1] 44)) (YesP ((W.alloc (.cells #[.int .u8 5] 5)).alloc (.cells #[.int .i64 1, .slice none 0 0, .int .i64 x, .slice (some ⟨W.heap.size, 0, none⟩) 1 1] 44))) := by
  have hs := slFr_made (W.alloc (.cells #[.int .u8 5] 5)) [((1, []), .slice none 0 0), ((x, [5]), .slice (some ⟨W.heap.size, 0, none⟩) 1 1)] (fun p hp => by
    simp only [List.mem_cons, List.not_mem_nil, or_false] at hp
    rcases hp with rfl | rfl
    · exact slD_nil _ _ _
    · exact slD_lit W x [5] 1)
  have h := framePuts_any (some ⟨(W.alloc (.cells #[.int .u8 5] 5)).heap.size, 0, none⟩) _ 2 _ hs (by simp [maxLen])
  rw [show (W.alloc (.cells #[.int .u8 5] 5)).heap.size = W.heap.size + 1 by simp] at h
  exact h
theorem putsB (x : Int) (W : World) : Calls Tryz.prog 3 #[.slice (some ⟨W.heap.size, 0, none⟩) 2 2] (W.alloc (.cells #[.int .i64 x, .slice none 0 0, .int .i64 (-1), .slice none 0 0] 44)) (YesP (W.alloc (.cells #[.int .i64 x, .slice none 0 0, .int .i64 (-1), .slice none 0 0] 44))) := by
  have hs := slFr_made W [((x, []), .slice none 0 0), ((-1, []), .slice none 0 0)] (fun p hp => by
    simp only [List.mem_cons, List.not_mem_nil, or_false] at hp
    rcases hp with rfl | rfl
    · exact slD_nil _ _ _
    · exact slD_nil _ _ _)
  have h := framePuts_any (some ⟨W.heap.size, 0, none⟩) _ 2 _ hs (by simp [maxLen])
  exact h
theorem bcells_set (l : List UInt8) (k : Nat) (y : UInt8) : (bcells l).set k (.int .u8 (y.toNat : Int)) = bcells (l.set k y) := by
  unfold bcells Lib.byteCells
  rw [List.map_set]
end Go.Proofs.YtagjipkoheimjaaGreatDoor
