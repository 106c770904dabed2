/- FramePuts is true for any frames, a nil slice and ones with spare too: what is put, or why one is none, is what the document tells; they stay, and are not kept; two answers lie apart; no conditions. -/
import Derived.Test.YtlkoibincacknaaGreatDoorFramePuts
import Derived.Test.YtlkoibincacknaaGreatDoorCards
import Derived.Test.YtlkoibincacknaaGreatDoorTie
import Derived.ProofKit
import Derived.OpenShut
import Derived.LaidMore
import Derived.Lay
import Derived.SevenTiedAt
import Derived.Stop.Joined
import Derived.Lib.SmallJoins
import Derived.Deep.Slices
import Derived.Deep.Strs
import Derived.Carry
import Derived.Stop.LaidErr
import Derived.ChangeSlices
import Derived.ChangeSame
namespace Go.Proofs.YtlkoibincacknaaGreatDoor.framePuts
open Go.ChangeShapes Go.WideShapes Go.ChangeAt Go.RowKit Go.Joins

theorem own : ownKnob Tryz.prog.godebug = none := by kernel_rfl

theorem laidOut : laidOutB Tryz.prog = true := by kernel_rfl

/-- Where a slice's cells lie. -/
theorem lies {W : World} {a : Addr} {cs : List Value} (h : ∀ j u, cs[j]? = some u → W.cell? (a.add j) = some u) : SlG W.heap.size W (some a) cs := fun hne => by
  obtain ⟨b, off, path⟩ := a
  obtain ⟨u, hu⟩ : ∃ u, cs[0]? = some u := by
    cases cs with
    | nil => exact absurd rfl hne
    | cons u l => exact ⟨u, rfl⟩
  have h0 := h 0 u hu
  have hp : path = none := by
    cases path with
    | none => rfl
    | some z => exfalso; revert h0; simp only [Addr.add, World.cell?]; split <;> simp
  subst hp
  refine ⟨b, off, rfl, ?_, fun j u hu => ?_⟩
  · apply Classical.byContradiction
    intro hn
    have hnone : W.heap[b]? = none := Array.getElem?_eq_none (by omega)
    revert h0
    simp [Addr.add, World.cell?, hnone]
  · have := h j u hu
    rwa [Addr.add_lit] at this

/-- What a slice of bytes that came in holds. -/
theorem openedB {H : Type} {enc : TypeId × Value → H} {W : World} {a : Option Addr} {len cap : Nat} {d : DataW H} {p : List MemPlace} (h : DataW.Trod enc Tryz.prog W 0 (fun _ => true) true 26 (.slice a len cap) d p) :
    ∃ l : List UInt8, l.length = len ∧ len ≤ cap ∧ cap ≤ maxLen ∧ SlG W.heap.size W a (bcells l) ∧ (a = none → cap = 0) := by
  obtain ⟨fuel, hf⟩ := h
  rcases open_ints (k := .u8) Tryz.underlying26 Tryz.underlying5 (by kernel_rfl) hf with ⟨hcs, _⟩ | ⟨a', len', cap', zs, hcs, _, hl, hm, hzl, _, hc, hw⟩
  · simp [Value.cells] at hcs
    obtain ⟨rfl, rfl, rfl⟩ := hcs
    exact ⟨[], rfl, Nat.le_refl _, Nat.zero_le _, fun hne => absurd rfl hne, fun _ => rfl⟩
  · simp [Value.cells] at hcs
    obtain ⟨rfl, rfl, rfl⟩ := hcs
    have hzc : zs.length = cap := by simpa using hzl
    refine ⟨(zs.take len).map fun z => UInt8.ofNat z.toNat, by simp; omega, hl, hm, lies fun j u hu => ?_, fun e => by cases e⟩
    have hj : j < len := by
      have := (List.getElem?_eq_some_iff.1 hu).1
      simp [Lib.byteCells] at this
      omega
    have hjz : j < zs.length := by omega
    have hz := hc j hjz
    have hwf := hw zs[j] (List.getElem_mem hjz)
    have hr : 0 ≤ zs[j] ∧ zs[j] ≤ 255 := by simpa [Lit.wf, IntKind.min, IntKind.max, IntKind.signed, IntKind.bits] using hwf
    rw [hz, ← hu]
    have e1 : zs.getD j 0 = zs[j] := by simp [List.getD, hjz]
    rw [e1]
    simp only [Lib.byteCells, List.map_map, List.getElem?_map, List.getElem?_take, if_pos hj, List.getElem?_eq_getElem hjz, Option.map_some, Function.comp, Option.some.injEq, Value.int.injEq, true_and]
    rw [UInt8.toNat_ofNat']
    omega


/-- Data that came in, within a frame. -/
theorem openedD {H : Type} {enc : TypeId × Value → H} {W : World} {fuel : Nat} {v : Value} {x : DataW H × List MemPlace} (hf : DataW.trod enc Tryz.prog W 0 (fun _ => true) true fuel 26 [v] = some x) :
    ∃ (a : Option Addr) (l : List UInt8) (c : Nat), v = .slice a l.length c ∧ l.length ≤ maxLen ∧ SlG W.heap.size W a (bcells l) ∧ (a = none → c = 0) := by
  rcases open_ints (k := .u8) Tryz.underlying26 Tryz.underlying5 (by kernel_rfl) hf with ⟨hcs, _⟩ | ⟨a', len', cap', zs, hcs, _, hl, hm, hzl, _, hc, hw⟩
  · obtain rfl := List.head_eq_of_cons_eq hcs
    exact ⟨none, [], 0, rfl, Nat.zero_le _, fun hne => absurd rfl hne, fun _ => rfl⟩
  · obtain rfl := List.head_eq_of_cons_eq hcs
    have hzc : zs.length = cap' := by simpa using hzl
    have hlen : ((zs.take len').map fun z => UInt8.ofNat z.toNat).length = len' := by simp; omega
    refine ⟨some a', (zs.take len').map fun z => UInt8.ofNat z.toNat, cap', by rw [hlen], by omega, lies fun j u hu => ?_, fun e => by cases e⟩
    have hj : j < len' := by
      have := (List.getElem?_eq_some_iff.1 hu).1
      simp [Lib.byteCells] at this
      omega
    have hjz : j < zs.length := by omega
    have hz := hc j hjz
    have hwf := hw zs[j] (List.getElem_mem hjz)
    have hr : 0 ≤ zs[j] ∧ zs[j] ≤ 255 := by simpa [Lit.wf, IntKind.min, IntKind.max, IntKind.signed, IntKind.bits] using hwf
    rw [hz, ← hu]
    have e1 : zs.getD j 0 = zs[j] := by simp [List.getD, hjz]
    rw [e1]
    simp only [Lib.byteCells, List.map_map, List.getElem?_map, List.getElem?_take, if_pos hj, List.getElem?_eq_getElem hjz, Option.map_some, Function.comp, Option.some.injEq, Value.int.injEq, true_and]
    rw [UInt8.toNat_ofNat']
    omega

theorem cells2 : Tryz.prog.cellsOf 44 = 2 := by kernel_rfl
theorem cellsFr_get (q : Nat → FR × Value) : ∀ (n s j : Nat), (cellsFr ((List.range' s n).map q))[j]? = if j < n * 2 then some (if j % 2 = 0 then Value.int .i64 (q (s + j / 2)).1.1 else (q (s + j / 2)).2) else none
  | 0, s, j => by simp [cellsFr]
  | n + 1, s, j => by
    rw [List.range'_succ, List.map_cons]
    match j with
    | 0 => simp [cellsFr]
    | 1 =>
      simp [cellsFr]
      omega
    | j + 2 =>
      show (cellsFr ((List.range' (s + 1) n).map q))[j]? = _
      rw [cellsFr_get q n (s + 1) j]
      have e1 : (j + 2) % 2 = j % 2 := by omega
      have e2 : s + (j + 2) / 2 = s + 1 + j / 2 := by omega
      rw [e1, e2]
      by_cases h : j < n * 2
      · have h2 : j + 2 < (n + 1) * 2 := by omega
        rw [if_pos h, if_pos h2]
      · have h2 : ¬ j + 2 < (n + 1) * 2 := by omega
        rw [if_neg h, if_neg h2]

set_option maxRecDepth 100000 in
/-- What a row of frames that came in holds. -/
theorem openedF {H : Type} {enc : TypeId × Value → H} {W : World} {a : Option Addr} {len cap : Nat} {d : DataW H} {p : List MemPlace} (h : DataW.Trod enc Tryz.prog W 0 (fun _ => true) true 22 (.slice a len cap) d p) :
    ∃ l : List FR, l.length = len ∧ len ≤ cap ∧ cap ≤ maxLen ∧ (∀ f, f ∈ l → f.2.length ≤ maxLen) ∧ SlFr W.heap.size W a l ∧ (a = none → cap = 0) := by
  obtain ⟨fuel, hf⟩ := h
  rcases Deep.open_slice Tryz.underlying22 hf with ⟨hcs, _⟩ | ⟨a', len', cap', m, n, D, Pl, hcs, _, hl, hm, hmm, _, hel⟩
  · simp [Value.cells] at hcs
    obtain ⟨rfl, rfl, rfl⟩ := hcs
    exact ⟨[], rfl, Nat.le_refl _, Nat.zero_le _, (fun f hf => by cases hf), ⟨[], rfl, (fun hne => absurd rfl hne), (fun p hp => by cases hp)⟩, fun _ => rfl⟩
  · simp [Value.cells] at hcs
    obtain ⟨rfl, rfl, rfl⟩ := hcs
    have hmc : m = cap := by rw [hmm]; rfl
    have c0 : Tryz.prog.cellsOf 3 = 1 := by kernel_rfl
    have c1 : Tryz.prog.cellsOf 26 = 1 := by kernel_rfl
    have each : ∀ i, i < len → ∃ x : FR × Value, (x.1.2.length ≤ maxLen ∧ SlD W.heap.size W x) ∧ W.cell? (a'.add (i * 2)) = some (.int .i64 x.1.1) ∧ W.cell? (a'.add (i * 2 + 1)) = some x.2 := by
      intro i hi
      obtain ⟨cs', h1, h2⟩ := hel i (by omega)
      rw [cells2] at h1
      obtain ⟨_, hlen, hcell⟩ := World.cells?_some h1
      obtain ⟨y0, y1, k, _, _, g0, g1⟩ := trod_struct2 Tryz.underlying44 h2
      match cs', hlen with
      | [v0, v1], _ =>
        simp [c0, c1] at g0 g1
        obtain ⟨k0, e0, _, wk⟩ := DataW.trod_int Tryz.underlying3 g0
        obtain ⟨a2, l2, c2, e1, hlm, hsl, hnn⟩ := openedD g1
        simp at e0
        subst e0 e1
        have q0 := hcell 0 (by omega)
        have q1 := hcell 1 (by omega)
        rw [Deep.add_add] at q0 q1
        exact ⟨((k0, l2), .slice a2 l2.length c2), ⟨hlm, a2, c2, rfl, hsl, hnn⟩, by simpa using q0, by simpa using q1⟩
    obtain ⟨q, hq⟩ := Deep.choose_lt each
    refine ⟨((List.range' 0 len).map q).map Prod.fst, by simp, hl, hm, ?_, ⟨(List.range' 0 len).map q, rfl, lies fun j u hu => ?_, fun x hx => ?_⟩, fun e => by cases e⟩
    · intro f hf
      simp only [List.map_map, List.mem_map, List.mem_range'_1, Function.comp] at hf
      obtain ⟨i, hi, rfl⟩ := hf
      exact (hq i (by omega)).1.1
    · rw [cellsFr_get] at hu
      split at hu
      · rename_i hj
        obtain rfl := Option.some.inj hu
        obtain ⟨_, z0, z1⟩ := hq (j / 2) (by omega)
        rw [Nat.zero_add]
        by_cases hp : j % 2 = 0
        · have ej : j = j / 2 * 2 := by omega
          rw [if_pos hp]
          exact (congrArg (fun t => W.cell? (a'.add t)) ej).trans z0
        · have ej : j = j / 2 * 2 + 1 := by omega
          rw [if_neg hp]
          exact (congrArg (fun t => W.cell? (a'.add t)) ej).trans z1
      · cases hu
    · simp only [List.mem_map, List.mem_range'_1] at hx
      obtain ⟨i, hi, rfl⟩ := hx
      exact (hq i (by omega)).1.2
theorem in64_of_wf {x : Int} (h : (Lit.int .i64 x).wf = true) : -9223372036854775808 ≤ x ∧ x ≤ 9223372036854775807 := by
  simpa [Lit.wf, IntKind.min, IntKind.max, IntKind.signed, IntKind.bits] using h
theorem in32_of_wf {x : Int} (h : (Lit.int .u32 x).wf = true) : 0 ≤ x ∧ x ≤ 4294967295 := by
  simpa [Lit.wf, IntKind.min, IntKind.max, IntKind.signed, IntKind.bits] using h

set_option maxRecDepth 100000 in
theorem lifted (os : Os) (started : os.Started) (H : Type) (enc : TypeId × Value → H) :
    ReturnsInHanded {} Tryz.checked os 3 .any (fun w args => (Rows.framePutsSpec.pre enc Tryz.prog Tryz.f3 Rows.framePutsRow.domain false w args ∧ laidMetH Tryz.prog Rows.framePutsRow.laid w) ∧ sizedMet enc Tryz.prog Tryz.f3 (OpenSpec.ofChange Rows.framePutsSpec) false w args)
      (Rows.framePutsSpec.post enc Tryz.prog Tryz.f3 false true false false) := by
  refine returnsInHanded_of_change_and (C := Tryz.checked) (X := fun w _ => laidMetH Tryz.prog Rows.framePutsRow.laid w) (fun _ _ _ hh h => h.of_heap hh) own started (by kernel_rfl) Tryz.func3
    (ChangeSpec.witness_shaped (enc := enc) (C := Tryz.checked) (os := os) (X := fun w _ => laidMetH Tryz.prog Rows.framePutsRow.laid w) false (World.laidAll Tryz.prog os Rows.framePutsRow.laid) #[.slice none 0 0] 8 (World.laidAll_os _ _ _)
      (World.shaped_of_ZipB (by kernel_rfl) (by kernel_rfl)) (by kernel_rfl) (by kernel_rfl) (by kernel_rfl)
      (by rw [MakeChecks.laidMetH_plain _ _ _ (by kernel_rfl)]; exact laidMet_laidAll _ (by kernel_rfl) (by kernel_rfl))) ?_
  intro W base args ds gs before hval0 hW _ _ hL _
  have hval : ∀ (j : Nat) t v, Tryz.f3.params[j]? = some t → args[j]? = some v → Value.okWide Tryz.prog W .any base t v := hval0
  have hW' := hW
  obtain ⟨p, q, hA0, hV, rfl, _, _⟩ := hW
  have hA : DataW.TrodAll enc Tryz.prog W 0 (fun _ => true) true Tryz.f3.params.toList args.toList ds p := hA0
  rw [Tryz.params3] at hA hval
  obtain ⟨v0, vs0, d0, ds0, p0, q0, hargs, rfl, rfl, h0, r0⟩ := trodAll_cons hA
  obtain ⟨rfl, rfl, rfl⟩ := trodAll_nil r0
  obtain rfl : args = #[v0] := by cases args; simp_all
  obtain ⟨rfl, rfl⟩ := trodVars_none hV
  obtain ⟨a0, len0, cap0, rfl⟩ := okWide_slice Tryz.underlying22 (hval 0 22 v0 rfl rfl)
  have h0k := h0
  obtain ⟨l0, rfl, hl0, hc0, hd0, hr0, hn0⟩ := openedF h0
  simp only [List.append_nil] at hW'
  have hlt0 : ∀ x ∈ p0, x.block < W.heap.size := fun x hx => hW'.lt x (by simp [hx])
  clear hA0 hval0
  refine (framePuts_any a0 l0 cap0 W hr0 (Nat.le_trans hl0 hc0)).mono fun e W' ⟨he, hg⟩ => ?_
  subst he
  refine ⟨_, rfl, _, _, _, [], p0 ++ ([]), [], hW', (trodAll_cons_mk (shut_bool Tryz.underlying4 _) trodAll_mk0), ?_, rfl, hg.frame _, fun h => by cases h⟩
  exact (trodAll_cons_mk (Below.trod laidOut (by kernel_rfl) (of_decide_eq_true (by kernel_rfl)) h0k hg hlt0) trodAll_mk0)

theorem over : Rows.framePutsRow.holds Tryz.pinned (OpenSpec.ofChange Rows.framePutsSpec) :=
  OpenClaim.holds_of_wide 3 Tryz.f3 rfl rfl rfl rfl rfl rfl rfl ⟨rfl, rfl, rfl, rfl, rfl⟩ rfl rfl rfl rfl rfl (by kernel_rfl) Tryz.func3 (by kernel_rfl)
    (of_decide_eq_true (by kernel_rfl)) (by unfold Func.isWrapper; first | (rw [if_pos (by decide +kernel)]; kernel_rfl) | (rw [if_neg (by decide +kernel)]; exact ⟨rfl, rfl⟩))
    (fun os started H enc _ => lifted os started H enc)

/-- THE STATEMENT. -/
theorem proved : Rows.FramePutsCardSaid :=
  Claim7.holds_tied_plain_at .later [] [.sentinel] true Rows.framePutsCard.stood.harness false over (fun _ h => by cases h) (by kernel_rfl) (fun _ h => by cases h) framePuts_row_tie rfl ⟨rfl, rfl⟩ (by kernel_rfl) rfl
    (fun f fn hf hfn => by
      obtain rfl : f = 3 := Option.some.inj ((show Tryz.prog.funcNamed Rows.framePutsRow.func = some 3 by kernel_rfl).symm.trans hf) |>.symm
      obtain rfl : fn = Tryz.f3 := (Option.some.inj (Tryz.func3.symm.trans hfn)).symm
      exact ⟨by kernel_rfl, fun j t ht => by
        rw [Tryz.params3] at ht
        have hm : t ∈ [22] := by simpa using Array.mem_of_getElem? ht
        have hall : ([22].all fun u => !Tryz.prog.wantsStandIn u) = true := by kernel_rfl
        exact (show Tryz.prog.wantsStandIn t = false by simpa using List.all_eq_true.1 hall t hm)⟩)
    (by kernel_rfl)
#print axioms proved
end Go.Proofs.YtlkoibincacknaaGreatDoor.framePuts
