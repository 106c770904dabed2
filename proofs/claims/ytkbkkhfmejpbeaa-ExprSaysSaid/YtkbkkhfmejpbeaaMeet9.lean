/- The program's meet: what an expression says is put behind what was said, if that is known, or needs no kids; else it is on the way. -/
import Derived.Test.YtkbkkhfmejpbeaaSay9
namespace Go.Proofs.Ytkbkkhfmejpbeaa
open Go.RowKit

/-- What is known, and what is on the way. -/
structure Kn (B : Nat) (w0 : World) (vs : List V3) (ws : List Frm) (kn : List (Addr × V3)) : Prop where
  each : ∀ f, f ∈ ws → At9 B w0 f.a f.t
  nodup : (kn.map Prod.fst).Nodup
  mean : ∀ p, p ∈ kn → ∃ t, At9 B w0 p.1 t ∧ ((evalX vs t = (p.2, 0) ∧ p.2.1 ≠ 0) ∨ (p.2 = zeroT ∧ ∃ f, f ∈ ws ∧ f.a = p.1))
  onway : ∀ f, f ∈ ws → (f.a, zeroT) ∈ kn
theorem Kn.push {B : Nat} {w0 : World} {vs : List V3} {ws : List Frm} {kn : List (Addr × V3)} (h : Kn B w0 vs ws kn) {a : Addr} {c : X} (ha : At9 B w0 a c) (hn : ∀ p, p ∈ kn → p.1 ≠ a) : Kn B w0 vs (⟨a, c, 0⟩ :: ws) (kn ++ [(a, zeroT)]) := by
  refine ⟨fun f hf => ?_, ?_, fun p hp => ?_, fun f hf => ?_⟩
  · rcases List.mem_cons.1 hf with rfl | hf
    · exact ha
    · exact h.each f hf
  · rw [List.map_append, List.nodup_append]
    refine ⟨h.nodup, by simp, fun x hx y hy e => ?_⟩
    obtain ⟨p, hp, rfl⟩ := List.mem_map.1 hx
    simp at hy
    exact hn p hp (e.trans hy)
  · rcases List.mem_append.1 hp with hp | hp
    · obtain ⟨t, h1, h2⟩ := h.mean p hp
      refine ⟨t, h1, ?_⟩
      rcases h2 with h2 | ⟨h2, f, hf, h3⟩
      · exact Or.inl h2
      · exact Or.inr ⟨h2, f, List.mem_cons_of_mem _ hf, h3⟩
    · obtain rfl := List.mem_singleton.1 hp
      exact ⟨c, ha, Or.inr ⟨rfl, _, List.mem_cons_self .., rfl⟩⟩
  · rcases List.mem_cons.1 hf with rfl | hf
    · exact List.mem_append_right _ (List.mem_singleton.2 rfl)
    · exact List.mem_append_left _ (h.onway f hf)
theorem Kn.turn {B : Nat} {w0 : World} {vs : List V3} {ws : List Frm} {kn : List (Addr × V3)} {a : Addr} {t : X} {n m : Nat} (h : Kn B w0 vs (⟨a, t, n⟩ :: ws) kn) : Kn B w0 vs (⟨a, t, m⟩ :: ws) kn := by
  refine ⟨fun f hf => ?_, h.nodup, fun p hp => ?_, fun f hf => ?_⟩
  · rcases List.mem_cons.1 hf with rfl | hf
    · exact h.each ⟨a, t, n⟩ (List.mem_cons_self ..)
    · exact h.each f (List.mem_cons_of_mem _ hf)
  · obtain ⟨u, h1, h2⟩ := h.mean p hp
    refine ⟨u, h1, ?_⟩
    rcases h2 with h2 | ⟨h2, f, hf, h3⟩
    · exact Or.inl h2
    · rcases List.mem_cons.1 hf with rfl | hf
      · exact Or.inr ⟨h2, _, List.mem_cons_self .., h3⟩
      · exact Or.inr ⟨h2, f, List.mem_cons_of_mem _ hf, h3⟩
  · rcases List.mem_cons.1 hf with rfl | hf
    · exact h.onway ⟨a, t, n⟩ (List.mem_cons_self ..)
    · exact h.onway f (List.mem_cons_of_mem _ hf)
theorem Kn.pop {B : Nat} {w0 : World} {vs : List V3} {ws : List Frm} {kn : List (Addr × V3)} {a : Addr} {t : X} {n : Nat} (h : Kn B w0 vs (⟨a, t, n⟩ :: ws) kn) {v : V3} (hv : evalX vs t = (v, 0)) (hv1 : v.1 ≠ 0) (hd : ∀ f, f ∈ ws → f.a ≠ a) {i : Nat} (hi : (kn[i]?).map Prod.fst = some a) : Kn B w0 vs ws (kn.set i (a, v)) := by
  have hat : At9 B w0 a t := h.each ⟨a, t, n⟩ (List.mem_cons_self ..)
  obtain ⟨q, hq, hqa⟩ := Option.map_eq_some_iff.1 hi
  obtain ⟨hil, hqe⟩ := List.getElem?_eq_some_iff.1 hq
  have hfst : (kn.set i (a, v)).map Prod.fst = kn.map Prod.fst := by
    rw [List.map_set]
    apply List.ext_getElem (by simp)
    intro j h1 h2
    rw [List.getElem_set]
    split
    · rename_i hij
      subst hij
      simp [hqe, hqa]
    · rfl
  have hother : ∀ p, p ∈ kn.set i (a, v) → p = (a, v) ∨ (p ∈ kn ∧ p.1 ≠ a) := fun p hp => by
    obtain ⟨j, hj⟩ := List.getElem?_of_mem hp
    obtain ⟨hjl, hje⟩ := List.getElem?_eq_some_iff.1 hj
    rw [List.getElem_set] at hje
    split at hje
    · exact Or.inl hje.symm
    · rename_i hij
      have hjk : j < kn.length := by simpa using hjl
      refine Or.inr ⟨by rw [← hje]; exact List.getElem_mem hjk, fun e => hij ?_⟩
      have h1 : (kn.map Prod.fst)[i]'(by simpa using hil) = (kn.map Prod.fst)[j]'(by simpa using hjk) := by
        rw [List.getElem_map, List.getElem_map, hqe, hqa, hje, e]
      exact (List.getElem_inj h.nodup).1 h1
  refine ⟨fun f hf => h.each f (List.mem_cons_of_mem _ hf), by rw [hfst]; exact h.nodup, fun p hp => ?_, fun f hf => ?_⟩
  · rcases hother p hp with rfl | ⟨hp, hpa⟩
    · exact ⟨t, hat, Or.inl ⟨hv, hv1⟩⟩
    · obtain ⟨u, h1, h2⟩ := h.mean p hp
      refine ⟨u, h1, ?_⟩
      rcases h2 with h2 | ⟨h2, f, hf, h3⟩
      · exact Or.inl h2
      · rcases List.mem_cons.1 hf with rfl | hf
        · exact absurd h3.symm hpa
        · exact Or.inr ⟨h2, f, hf, h3⟩
  · have h1 := h.onway f (List.mem_cons_of_mem _ hf)
    obtain ⟨j, hj⟩ := List.getElem?_of_mem h1
    have hij : i ≠ j := fun e => by
      subst e
      rw [hq] at hj
      have := Option.some.inj hj
      rw [this] at hqa
      exact hd f hf hqa
    refine List.mem_of_getElem? (i := j) ?_
    rw [List.getElem?_set_ne hij]
    exact hj

/-- What meet tells and leaves. -/
def MeetP (B : Nat) (w0 : World) (R mb vb kb : Nat) (vo : Option Addr) (vc : Nat) (vs : List V3) (ws : List Frm) (sd : List V3) (kn : List (Addr × V3)) (a : Addr) (c : X) (e : Ending) (w' : World) : Prop :=
  ∃ err : Int, e = .returned (.int .i64 err) ∧ ((err = 0 ∧ (evalX vs c).2 = 0 ∧ ∃ wv' sv', WS B w0 w' R mb vb kb vo vc vs wv' sv' ws (sd ++ [(evalX vs c).1]) kn) ∨ (err = 0 ∧ c.kind = 3 ∧ (∀ p, p ∈ kn → p.1 ≠ a) ∧ ∃ wv' sv', WS B w0 w' R mb vb kb vo vc vs wv' sv' (⟨a, c, 0⟩ :: ws) sd (kn ++ [(a, zeroT)])) ∨ (err ≠ 0 ∧ err = (evalX vs c).2 ∧ Below B w0 w'))

section
variable {B : Nat} {w0 w : World} {R mb vb kb : Nat} {vo : Option Addr} {vc : Nat} {vs : List V3} {wv sv : Value} {ws : List Frm} {sd : List V3} {kn : List (Addr × V3)}

set_option maxHeartbeats 2000000 in
theorem say0 (h : WS B w0 w R mb vb kb vo vc vs wv sv ws sd kn) (a : Addr) (t : X) (ha : At9 B w0 a t) (h1 : t.kind ≠ 1) (h2 : t.kind ≠ 2) (h3 : t.kind ≠ 3) :
    Calls Try.prog 62 #[.pointer (some ⟨R, 0, none⟩), .pointer (some a), .int .i64 0] w (SayP B w0 R mb vb kb vo vc vs wv ws kn (zeroT, 2) sd) := by
  have hat := ha.up h.base h.B_le
  obtain ⟨sb, o, ao, c, kb', ko, rfl, hb, c0, -⟩ := hat.cells
  have b0 := Lib.cell_of_heap h.box 0
  have bl := lt_of_heap h.box
  have hBl := h.B_le
  have hR := h.hR
  have hne : sb ≠ w.heap.size := by omega
  have hRe : R ≠ w.heap.size := by omega
  have HZ := Lib.hid (alloc_at (w := w) rfl (.cells zeroCells 25))
  have HB := Lib.hid (below_own (w := w) (.cells zeroCells 25))
  have hfind : Instr.findNow (.int .u8) (.int .u8 t.kind) (saysE vb).toList 0 = some none := by
    have e1 : (t.kind == 1) = false := beq_eq_false_iff_ne.2 h1
    have e2 : (t.kind == 2) = false := beq_eq_false_iff_ne.2 h2
    have e3 : (t.kind == 3) = false := beq_eq_false_iff_ne.2 h3
    simp [Instr.findNow, Instr.sameNow, e1, e2, e3]
  have hask0 := run_ask_none (P := Try.prog) (w.alloc (.cells zeroCells 25)) 55 22 94 mb (saysE vb) 3 t.kind .nilFunc Try.underlying55 Try.underlying22 zeroS (alloc_keep h.says _) hfind
  have hask := fun n => run_ask_none (P := Try.prog) ((w.alloc (.cells zeroCells 25)).drewN n) 55 22 94 mb (saysE vb) 3 t.kind .nilFunc Try.underlying55 Try.underlying22 zeroS (alloc_keep h.says _) hfind
  unfold zeroCells at *
  have mixed : Try.prog.follows .mixedOrders = true := by kernel_rfl
  have HH := Lib.hid h
  clear ha hat h h1 h2 h3 hfind
  go_enter Try.func62, Try.ntmps62
  go_wp2_with fail
  go_quiet (fail)
  go_wp2_with fail
  refine val_end Try.results62 rfl rfl rfl HZ.out rfl fun W3 _ g3 => ⟨rfl, sv, sd, ?_, fun h => by cases h⟩
  refine (HH.out.up (RowKit_drewN HB.out nq)).aside g3 HZ.out ?_ (by omega)
  intro e
  have := (HH.out.said.lt _ e).2
  omega

/-- say of what needs no kids. -/
theorem say_leaf (h : WS B w0 w R mb vb kb vo vc vs wv sv ws sd kn) (a : Addr) (t : X) (ha : At9 B w0 a t) (hh : Held t) (h3 : t.kind ≠ 3) (hs : sd.length ≤ 1000000) :
    Calls Try.prog 62 #[.pointer (some ⟨R, 0, none⟩), .pointer (some a), .int .i64 0] w (SayP B w0 R mb vb kb vo vc vs wv ws kn (evalX vs t) sd) := by
  rw [evalX_eq]
  by_cases h1 : t.kind = 1
  · rw [if_pos h1]
    rcases h.said.2 with ⟨rfl, hz⟩ | ⟨g, cap, cur, rfl, _⟩
    · obtain rfl := List.eq_nil_of_length_eq_zero hz
      exact say1_nil h a t ha hh.val h1
    · exact say1_row h a t ha hh.val h1 hs
  · rw [if_neg h1]
    by_cases h2 : t.kind = 2
    · rw [if_pos h2]
      rcases h.said.2 with ⟨rfl, hz⟩ | ⟨g, cap, cur, rfl, _⟩
      · obtain rfl := List.eq_nil_of_length_eq_zero hz
        exact say2_nil h a t ha h2
      · exact say2_row h a t ha h2 hs
    · rw [if_neg h2, if_neg h3]
      exact say0 h a t ha h1 h2 h3

set_option maxHeartbeats 2000000 in
theorem meet_leaf (h : WS B w0 w R mb vb kb vo vc vs wv sv ws sd kn) (a : Addr) (c : X) (ha : At9 B w0 a c) (hh : Held c) (h3 : c.kind ≠ 3) (hs : sd.length ≤ 1000000) :
    Calls Try.prog 45 #[.pointer (some ⟨R, 0, none⟩), .pointer (some a)] w (MeetP B w0 R mb vb kb vo vc vs ws sd kn a c) := by
  have hat := ha.up h.base h.B_le
  have HS := Lib.hid (say_leaf h a c ha hh h3 hs)
  have hev := eval_what vs h.vrow.fine c hh
  obtain ⟨sb, o, ao, cc, kb', ko, rfl, hb, c0, -⟩ := hat.cells
  have hn : (c.kind != 3) = true := by simp [h3]
  have HE := Lib.hid hev
  unfold SayP at HS
  unfold MeetP
  clear ha hat h hh h3 hev
  generalize evalX vs c = r at HS HE ⊢
  go_enter Try.func45, Try.ntmps45
  go_wp2_with (go_at_call 62; go_must (refine (HS.out).mono ?_; rintro e w1 ⟨rfl, hx⟩; have HX := Lib.hid hx; clear hx))
  go_ret
  obtain ⟨sv', sd', hw, hsd⟩ := HX.out
  refine ⟨_, rfl, ?_⟩
  rcases HE.out with ⟨h1, _, _⟩ | ⟨h1, _⟩
  · rw [hsd h1] at hw
    exact Or.inl ⟨h1, h1, _, _, hw.up (below_own _)⟩
  · exact Or.inr (Or.inr ⟨h1, rfl, (hw.up (below_own _)).base⟩)
end
end Go.Proofs.Ytkbkkhfmejpbeaa
