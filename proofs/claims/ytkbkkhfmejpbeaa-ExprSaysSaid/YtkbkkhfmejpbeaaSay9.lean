/- The program's say: what an expression makes of what its kids said is put in their place. -/
import Derived.Test.YtkbkkhfmejpbeaaApart9
namespace Go.Proofs.Ytkbkkhfmejpbeaa
open Go.RowKit

/-- What say tells and leaves. -/
def SayP (B : Nat) (w0 : World) (R mb vb kb : Nat) (vo : Option Addr) (vc : Nat) (vs : List V3) (wv : Value) (ws : List Frm) (kn : List (Addr × V3)) (r : V3 × Int) (pre : List V3) (e : Ending) (w' : World) : Prop :=
  e = .returned (.tuple #[.agg #[.int .u8 r.1.1, .int .i64 r.1.2.1, .string r.1.2.2], .int .i64 r.2]) ∧ ∃ sv' sd', WS B w0 w' R mb vb kb vo vc vs wv sv' ws sd' kn ∧ (r.2 = 0 → sd' = pre ++ [r.1])
theorem cell_heap {W W' : World} (e : W.heap = W'.heap) (a : Addr) : W.cell? a = W'.cell? a := by
  unfold World.cell?
  rw [e]
theorem zeroS (w : World) : (zeroValue 94).run Try.prog w = .ok .nilFunc w := by
  go_simp

set_option maxRecDepth 100000 in
set_option maxHeartbeats 4000000 in
theorem say1_nil {B : Nat} {w0 w : World} {R mb vb kb : Nat} {vo : Option Addr} {vc : Nat} {vs : List V3} {wv : Value} {ws : List Frm} {kn : List (Addr × V3)} (h : WS B w0 w R mb vb kb vo vc vs wv (.slice none 0 0) ws [] kn) (a : Addr) (t : X) (ha : At9 B w0 a t) (hh : Fine1 t.val) (hk : t.kind = 1) :
    Calls Try.prog 62 #[.pointer (some ⟨R, 0, none⟩), .pointer (some a), .int .i64 0] w (SayP B w0 R mb vb kb vo vc vs wv ws kn (ifR t.val) []) := by
  have hat := ha.up h.base h.B_le
  obtain ⟨sb, o, ao, c, kb', ko, rfl, hb, c0, -⟩ := hat.cells
  rw [hk] at c0
  obtain ⟨i0, hi, hz0, hz1, hz2⟩ := info_parts infoV
  have b0 := Lib.cell_of_heap h.box 0
  have b1 := Lib.cell_of_heap h.box 1
  have b2 := Lib.cell_of_heap h.box 2
  have b3 := Lib.cell_of_heap h.box 3
  have bl := lt_of_heap h.box
  have hBl := h.B_le
  have hR := h.hR
  have hne : sb ≠ w.heap.size := by omega
  have hRe : R ≠ w.heap.size := by omega
  have HZ := Lib.hid (alloc_at (w := w) rfl (.cells zeroCells 25))
  have HB := Lib.hid (below_own (w := w) (.cells zeroCells 25))
  have hask := fun n => run_ask (P := Try.prog) ((w.alloc (.cells zeroCells 25)).drewN n) 55 22 94 mb (saysE vb) 3 1 0 (.func (.func 40) #[] #[]) Try.underlying55 Try.underlying22 (alloc_keep h.says _) rfl true
  have hask0 := run_ask (P := Try.prog) (w.alloc (.cells zeroCells 25)) 55 22 94 mb (saysE vb) 3 1 0 (.func (.func 40) #[] #[]) Try.underlying55 Try.underlying22 (alloc_keep h.says _) rfl true
  unfold zeroCells at *
  have mixed : Try.prog.follows .mixedOrders = true := by kernel_rfl
  have HH := Lib.hid h
  have HC : Hid (∀ W v, Below w.heap.size w W → Calls Try.prog 40 #[.pointer (some ⟨sb, o, none⟩), v] W (DoPost (ifR t.val) W)) := fun W v hW => says1_any _ t v W (hat.up hW hW.size) hh
  clear ha hat hk h
  generalize (ifR t.val) = r at HC ⊢
  unfold DoPost at HC
  go_enter Try.func62, Try.ntmps62
  go_wp2_with fail
  go_quiet (fail)
  go_wp2_with (go_at_call 40; go_must (refine (HC.out _ _ (RowKit_drewN HB.out _)).mono ?_; rintro e w1 ⟨rfl, hg⟩; have HG := Lib.hid (show Below (w.heap.size + 1) _ w1 from hg.mono (by simp)); clear hg))
  clear hask hask0 HC
  have hB1 : Below w.heap.size w w1 := (RowKit_drewN HB.out nq).trans (HG.out.mono (Nat.le_succ _))
  have H1 := Lib.hid (HH.out.up hB1)
  have HZ1 := Lib.hid ((HG.out.block w.heap.size (by omega)).trans HZ.out)
  have hsz : w.heap.size + 1 ≤ w1.heap.size := Nat.le_trans (by simp) HG.out.size
  have d2 := Lib.cell_of_heap H1.out.box 2
  have df := fun j => Lib.frozen_of_heap H1.out.box j
  have hRl : R < w1.heap.size := lt_of_heap H1.out.box
  have hR1 : R ≠ w1.heap.size := by omega
  have hR2 : R ≠ w1.heap.size + 1 := by omega
  have hz1e : w1.heap.size ≠ w.heap.size := by omega
  obtain ⟨⟨r1, r2, r3⟩, r4⟩ := r
  have hBw1 : B ≤ w1.heap.size := H1.out.B_le
  have HOwn := Lib.hid (H1.out.said)
  clear b0 b1 b2 b3 c0 HB HG hB1
  go_region_law (refine step_append_apart rfl (.tmp 53) (.tmp 55) 30 rfl B 25 i0 (.agg #[.int .u8 0, .int .i64 0, .string ⟨#[]⟩]) 3 32 Try.underlying30 hi hz0 hz1 hz2 rfl (by decide) (.slice none 0 0) 0 (cellsV ([] : List V3)) rfl (HOwn.out.alloc _ |>.alloc _) ⟨w1.heap.size + 1, 0, none⟩ 1 1 (cellsV [(r1, r2, r3)]) rfl rfl (fun j u hu => by rw [Addr.add_lit, Nat.zero_add]; exact (cell_heap rfl _).trans (cells_made2 w1 (.cells #[.int .u8 r1, .int .i64 r2, .string r3] 25) #[.int .u8 r1, .int .i64 r2, .string r3] 25 _ rfl j u (by simpa [cellsV] using hu))) (cellsV_one _) (by unfold maxLen; omega) (by omega) (by simp; omega) ?_; intro ao' c' w' h2 h3 h4; have HX := Lib.hid (And.intro h2 (And.intro h3 h4)); have hbx : w'.heap[R]? = _ := (h3.block R (by simp; omega) (fun e => by cases e)).trans (alloc_keep (alloc_keep H1.out.box (.cells #[.int .u8 r1, .int .i64 r2, .string r3] 25)) (.cells #[.int .u8 r1, .int .i64 r2, .string r3] 25)); have x2 := Lib.cell_of_heap hbx 2; have xf := fun j => Lib.frozen_of_heap hbx j; have HBX := Lib.hid hbx; have htx : w'.heap[w1.heap.size]? = _ := (h3.block w1.heap.size (by simp; omega) (fun e => by cases e)).trans (alloc_keep (alloc_at rfl (.cells #[.int .u8 r1, .int .i64 r2, .string r3] 25)) (.cells #[.int .u8 r1, .int .i64 r2, .string r3] 25)); have t0 := Lib.cell_of_heap htx 0; have t1 := Lib.cell_of_heap htx 1; have t2 := Lib.cell_of_heap htx 2; have hzx : w'.heap[w.heap.size]? = _ := (h3.block w.heap.size (by simp; omega) (fun e => by cases e)).trans (alloc_keep (alloc_keep HZ1.out (.cells #[.int .u8 r1, .int .i64 r2, .string r3] 25)) (.cells #[.int .u8 r1, .int .i64 r2, .string r3] 25)); have z0 := Lib.cell_of_heap hzx 0; have z1 := Lib.cell_of_heap hzx 1; have z2 := Lib.cell_of_heap hzx 2; have zf := fun j => Lib.frozen_of_heap hzx j; have HZX := Lib.hid hzx; clear h2 h3 h4 hbx htx hzx)
  all_goals go_wp2_with fail
  all_goals
    refine val_end Try.results62 rfl rfl rfl (set_other HZX.out hRe.symm) rfl fun W3 _ g3 => ⟨rfl, .slice ao' (0 + 1) c', ([] : List V3) ++ [(r1, r2, r3)], ?_, fun _ => rfl⟩
    refine ((H1.out.up (((Below.refl w1.heap.size w1).alloc (Nat.le_refl _) _).drew.alloc (by simp) _)).setSaid HX.out.2.1 (sv' := .slice ao' (0 + 1) c') (sd' := ([] : List V3) ++ [(r1, r2, r3)]) (by have h := HX.out.1; skip; exact h)).aside g3 (set_other HZX.out hRe.symm) ?_ (by omega)
    rcases HX.out.2.2 with h | h
    · rw [h]
      exact fun e => by cases e
    · intro e
      have := h _ e
      simp at this
      omega
set_option maxRecDepth 100000 in
set_option maxHeartbeats 4000000 in
theorem say1_row {B : Nat} {w0 w : World} {R mb vb kb : Nat} {vo : Option Addr} {vc : Nat} {vs : List V3} {wv : Value} {ws : List Frm} {kn : List (Addr × V3)} {g sc : Nat} {pre : List V3} (h : WS B w0 w R mb vb kb vo vc vs wv (.slice (some ⟨g, 0, none⟩) pre.length sc) ws pre kn) (a : Addr) (t : X) (ha : At9 B w0 a t) (hh : Fine1 t.val) (hk : t.kind = 1) (hs : pre.length ≤ 1000000) :
    Calls Try.prog 62 #[.pointer (some ⟨R, 0, none⟩), .pointer (some a), .int .i64 0] w (SayP B w0 R mb vb kb vo vc vs wv ws kn (ifR t.val) pre) := by
  have hat := ha.up h.base h.B_le
  obtain ⟨sb, o, ao, c, kb', ko, rfl, hb, c0, -⟩ := hat.cells
  rw [hk] at c0
  obtain ⟨i0, hi, hz0, hz1, hz2⟩ := info_parts infoV
  have b0 := Lib.cell_of_heap h.box 0
  have b1 := Lib.cell_of_heap h.box 1
  have b2 := Lib.cell_of_heap h.box 2
  have b3 := Lib.cell_of_heap h.box 3
  have bl := lt_of_heap h.box
  have hBl := h.B_le
  have hR := h.hR
  have hne : sb ≠ w.heap.size := by omega
  have hRe : R ≠ w.heap.size := by omega
  have HZ := Lib.hid (alloc_at (w := w) rfl (.cells zeroCells 25))
  have HB := Lib.hid (below_own (w := w) (.cells zeroCells 25))
  have hask := fun n => run_ask (P := Try.prog) ((w.alloc (.cells zeroCells 25)).drewN n) 55 22 94 mb (saysE vb) 3 1 0 (.func (.func 40) #[] #[]) Try.underlying55 Try.underlying22 (alloc_keep h.says _) rfl true
  have hask0 := run_ask (P := Try.prog) (w.alloc (.cells zeroCells 25)) 55 22 94 mb (saysE vb) 3 1 0 (.func (.func 40) #[] #[]) Try.underlying55 Try.underlying22 (alloc_keep h.says _) rfl true
  unfold zeroCells at *
  have mixed : Try.prog.follows .mixedOrders = true := by kernel_rfl
  have HH := Lib.hid h
  have HC : Hid (∀ W v, Below w.heap.size w W → Calls Try.prog 40 #[.pointer (some ⟨sb, o, none⟩), v] W (DoPost (ifR t.val) W)) := fun W v hW => says1_any _ t v W (hat.up hW hW.size) hh
  have hgl := h.said.lt g rfl
  have hcap := owns_capV h.said
  have RG := Lib.hid ((tag_ne h.box (owns_tagV h.said) (by decide)))
  clear ha hat hk h
  generalize (ifR t.val) = r at HC ⊢
  have hcl1 : ((pre).length : Int) ≤ sc := by have := hcap.1; omega
  have hcl2 : (sc : Int) ≤ 9223372036854775807 := by have := hcap.2; unfold maxLen at this; omega
  unfold DoPost at HC
  go_enter Try.func62, Try.ntmps62
  go_wp2_with fail
  go_quiet (fail)
  go_wp2_with (go_at_call 40; go_must (refine (HC.out _ _ (RowKit_drewN HB.out _)).mono ?_; rintro e w1 ⟨rfl, hg⟩; have HG := Lib.hid (show Below (w.heap.size + 1) _ w1 from hg.mono (by simp)); clear hg))
  all_goals
    try (have hsc : sc = pre.length := (by assumption); subst hsc)
    try (have hsc : pre.length = sc := (by assumption); subst hsc)
    clear hask hask0 HC
    have hB1 : Below w.heap.size w w1 := (RowKit_drewN HB.out nq).trans (HG.out.mono (Nat.le_succ _))
    have H1 := Lib.hid (HH.out.up hB1)
    have HZ1 := Lib.hid ((HG.out.block w.heap.size (by omega)).trans HZ.out)
    have hsz : w.heap.size + 1 ≤ w1.heap.size := Nat.le_trans (by simp) HG.out.size
    have d2 := Lib.cell_of_heap H1.out.box 2
    have df := fun j => Lib.frozen_of_heap H1.out.box j
    have hRl : R < w1.heap.size := lt_of_heap H1.out.box
    have hR1 : R ≠ w1.heap.size := by omega
    have hR2 : R ≠ w1.heap.size + 1 := by omega
    have hz1e : w1.heap.size ≠ w.heap.size := by omega
    obtain ⟨⟨r1, r2, r3⟩, r4⟩ := r
    have hBw1 : B ≤ w1.heap.size := H1.out.B_le
    have HOwn := Lib.hid (H1.out.said)
    clear b0 b1 b2 b3 c0 HB HG hB1
    go_region_law (refine step_append_apart rfl (.tmp 53) (.tmp 55) 30 rfl B 25 i0 (.agg #[.int .u8 0, .int .i64 0, .string ⟨#[]⟩]) 3 32 Try.underlying30 hi hz0 hz1 hz2 rfl (by decide) (.slice (some ⟨g, 0, none⟩) pre.length _) pre.length (cellsV pre) rfl (HOwn.out.alloc _ |>.alloc _) ⟨w1.heap.size + 1, 0, none⟩ 1 1 (cellsV [(r1, r2, r3)]) rfl rfl (fun j u hu => by rw [Addr.add_lit, Nat.zero_add]; exact (cell_heap rfl _).trans (cells_made2 w1 (.cells #[.int .u8 r1, .int .i64 r2, .string r3] 25) #[.int .u8 r1, .int .i64 r2, .string r3] 25 _ rfl j u (by simpa [cellsV] using hu))) (cellsV_one _) (by unfold maxLen; omega) (by omega) (by simp; omega) ?_; intro ao' c' w' h2 h3 h4; have HX := Lib.hid (And.intro h2 (And.intro h3 h4)); have hbx : w'.heap[R]? = _ := (h3.block R (by simp; omega) (fun e => RG.out (Option.some.inj e))).trans (alloc_keep (alloc_keep H1.out.box (.cells #[.int .u8 r1, .int .i64 r2, .string r3] 25)) (.cells #[.int .u8 r1, .int .i64 r2, .string r3] 25)); have x2 := Lib.cell_of_heap hbx 2; have xf := fun j => Lib.frozen_of_heap hbx j; have HBX := Lib.hid hbx; have htx : w'.heap[w1.heap.size]? = _ := (h3.block w1.heap.size (by simp; omega) (fun e => by have e : _ = g := Option.some.inj e; omega)).trans (alloc_keep (alloc_at rfl (.cells #[.int .u8 r1, .int .i64 r2, .string r3] 25)) (.cells #[.int .u8 r1, .int .i64 r2, .string r3] 25)); have t0 := Lib.cell_of_heap htx 0; have t1 := Lib.cell_of_heap htx 1; have t2 := Lib.cell_of_heap htx 2; have hzx : w'.heap[w.heap.size]? = _ := (h3.block w.heap.size (by simp; omega) (fun e => by have e : _ = g := Option.some.inj e; omega)).trans (alloc_keep (alloc_keep HZ1.out (.cells #[.int .u8 r1, .int .i64 r2, .string r3] 25)) (.cells #[.int .u8 r1, .int .i64 r2, .string r3] 25)); have z0 := Lib.cell_of_heap hzx 0; have z1 := Lib.cell_of_heap hzx 1; have z2 := Lib.cell_of_heap hzx 2; have zf := fun j => Lib.frozen_of_heap hzx j; have HZX := Lib.hid hzx; clear h2 h3 h4 hbx htx hzx)
    all_goals go_wp2_with fail
    all_goals
      refine val_end Try.results62 rfl rfl rfl (set_other HZX.out hRe.symm) rfl fun W3 _ g3 => ⟨rfl, .slice ao' (pre.length + 1) c', pre ++ [(r1, r2, r3)], ?_, fun _ => rfl⟩
      refine ((H1.out.up (((Below.refl w1.heap.size w1).alloc (Nat.le_refl _) _).drew.alloc (by simp) _)).setSaid HX.out.2.1 (sv' := .slice ao' (pre.length + 1) c') (sd' := pre ++ [(r1, r2, r3)]) (by have h := HX.out.1; rw [← cellsV_append] at h; rw [List.length_append]; exact h)).aside g3 (set_other HZX.out hRe.symm) ?_ (by omega)
      rcases HX.out.2.2 with h | h
      · rw [h]
        exact fun e => by (have e : g = _ := Option.some.inj e; omega)
      · intro e
        have := h _ e
        simp at this
        omega
set_option maxRecDepth 100000 in
set_option maxHeartbeats 4000000 in
theorem say2_nil {B : Nat} {w0 w : World} {R mb vb kb : Nat} {vo : Option Addr} {vc : Nat} {vs : List V3} {wv : Value} {ws : List Frm} {kn : List (Addr × V3)} (h : WS B w0 w R mb vb kb vo vc vs wv (.slice none 0 0) ws [] kn) (a : Addr) (t : X) (ha : At9 B w0 a t) (hk : t.kind = 2) :
    Calls Try.prog 62 #[.pointer (some ⟨R, 0, none⟩), .pointer (some a), .int .i64 0] w (SayP B w0 R mb vb kb vo vc vs wv ws kn (if 0 ≤ t.var ∧ t.var < (vs.length : Int) then ifR (vs.getD t.var.toNat zeroT) else (zeroT, 2)) []) := by
  have hat := ha.up h.base h.B_le
  obtain ⟨sb, o, ao, c, kb', ko, rfl, hb, c0, -⟩ := hat.cells
  rw [hk] at c0
  obtain ⟨i0, hi, hz0, hz1, hz2⟩ := info_parts infoV
  have b0 := Lib.cell_of_heap h.box 0
  have b1 := Lib.cell_of_heap h.box 1
  have b2 := Lib.cell_of_heap h.box 2
  have b3 := Lib.cell_of_heap h.box 3
  have bl := lt_of_heap h.box
  have hBl := h.B_le
  have hR := h.hR
  have hne : sb ≠ w.heap.size := by omega
  have hRe : R ≠ w.heap.size := by omega
  have HZ := Lib.hid (alloc_at (w := w) rfl (.cells zeroCells 25))
  have HB := Lib.hid (below_own (w := w) (.cells zeroCells 25))
  have hask := fun n => run_ask (P := Try.prog) ((w.alloc (.cells zeroCells 25)).drewN n) 55 22 94 mb (saysE vb) 3 2 1 (.func (.func 42) #[] #[.pointer (some ⟨vb, 0, none⟩)]) Try.underlying55 Try.underlying22 (alloc_keep h.says _) rfl true
  have hask0 := run_ask (P := Try.prog) (w.alloc (.cells zeroCells 25)) 55 22 94 mb (saysE vb) 3 2 1 (.func (.func 42) #[] #[.pointer (some ⟨vb, 0, none⟩)]) Try.underlying55 Try.underlying22 (alloc_keep h.says _) rfl true
  unfold zeroCells at *
  have mixed : Try.prog.follows .mixedOrders = true := by kernel_rfl
  have HH := Lib.hid h
  have HC : Hid (∀ W v, Below w.heap.size w W → Calls Try.prog 42 #[.pointer (some ⟨sb, o, none⟩), v, .pointer (some ⟨vb, 0, none⟩)] W (DoPost (if 0 ≤ t.var ∧ t.var < (vs.length : Int) then ifR (vs.getD t.var.toNat zeroT) else (zeroT, 2)) W)) := fun W v hW => says2_any _ t v vb vo vc vs W (hat.up hW hW.size) ((hW.block vb (lt_of_heap h.vars)).trans h.vars) ((h.vrow.up h.base h.B_le).up hW hW.size)
  clear ha hat hk h
  generalize (if 0 ≤ t.var ∧ t.var < (vs.length : Int) then ifR (vs.getD t.var.toNat zeroT) else (zeroT, 2)) = r at HC ⊢
  unfold DoPost at HC
  go_enter Try.func62, Try.ntmps62
  go_wp2_with fail
  go_quiet (fail)
  go_wp2_with (go_at_call 42; go_must (refine (HC.out _ _ (RowKit_drewN HB.out _)).mono ?_; rintro e w1 ⟨rfl, hg⟩; have HG := Lib.hid (show Below (w.heap.size + 1) _ w1 from hg.mono (by simp)); clear hg))
  clear hask hask0 HC
  have hB1 : Below w.heap.size w w1 := (RowKit_drewN HB.out nq).trans (HG.out.mono (Nat.le_succ _))
  have H1 := Lib.hid (HH.out.up hB1)
  have HZ1 := Lib.hid ((HG.out.block w.heap.size (by omega)).trans HZ.out)
  have hsz : w.heap.size + 1 ≤ w1.heap.size := Nat.le_trans (by simp) HG.out.size
  have d2 := Lib.cell_of_heap H1.out.box 2
  have df := fun j => Lib.frozen_of_heap H1.out.box j
  have hRl : R < w1.heap.size := lt_of_heap H1.out.box
  have hR1 : R ≠ w1.heap.size := by omega
  have hR2 : R ≠ w1.heap.size + 1 := by omega
  have hz1e : w1.heap.size ≠ w.heap.size := by omega
  obtain ⟨⟨r1, r2, r3⟩, r4⟩ := r
  have hBw1 : B ≤ w1.heap.size := H1.out.B_le
  have HOwn := Lib.hid (H1.out.said)
  clear b0 b1 b2 b3 c0 HB HG hB1
  go_region_law (refine step_append_apart rfl (.tmp 53) (.tmp 55) 30 rfl B 25 i0 (.agg #[.int .u8 0, .int .i64 0, .string ⟨#[]⟩]) 3 32 Try.underlying30 hi hz0 hz1 hz2 rfl (by decide) (.slice none 0 0) 0 (cellsV ([] : List V3)) rfl (HOwn.out.alloc _ |>.alloc _) ⟨w1.heap.size + 1, 0, none⟩ 1 1 (cellsV [(r1, r2, r3)]) rfl rfl (fun j u hu => by rw [Addr.add_lit, Nat.zero_add]; exact (cell_heap rfl _).trans (cells_made2 w1 (.cells #[.int .u8 r1, .int .i64 r2, .string r3] 25) #[.int .u8 r1, .int .i64 r2, .string r3] 25 _ rfl j u (by simpa [cellsV] using hu))) (cellsV_one _) (by unfold maxLen; omega) (by omega) (by simp; omega) ?_; intro ao' c' w' h2 h3 h4; have HX := Lib.hid (And.intro h2 (And.intro h3 h4)); have hbx : w'.heap[R]? = _ := (h3.block R (by simp; omega) (fun e => by cases e)).trans (alloc_keep (alloc_keep H1.out.box (.cells #[.int .u8 r1, .int .i64 r2, .string r3] 25)) (.cells #[.int .u8 r1, .int .i64 r2, .string r3] 25)); have x2 := Lib.cell_of_heap hbx 2; have xf := fun j => Lib.frozen_of_heap hbx j; have HBX := Lib.hid hbx; have htx : w'.heap[w1.heap.size]? = _ := (h3.block w1.heap.size (by simp; omega) (fun e => by cases e)).trans (alloc_keep (alloc_at rfl (.cells #[.int .u8 r1, .int .i64 r2, .string r3] 25)) (.cells #[.int .u8 r1, .int .i64 r2, .string r3] 25)); have t0 := Lib.cell_of_heap htx 0; have t1 := Lib.cell_of_heap htx 1; have t2 := Lib.cell_of_heap htx 2; have hzx : w'.heap[w.heap.size]? = _ := (h3.block w.heap.size (by simp; omega) (fun e => by cases e)).trans (alloc_keep (alloc_keep HZ1.out (.cells #[.int .u8 r1, .int .i64 r2, .string r3] 25)) (.cells #[.int .u8 r1, .int .i64 r2, .string r3] 25)); have z0 := Lib.cell_of_heap hzx 0; have z1 := Lib.cell_of_heap hzx 1; have z2 := Lib.cell_of_heap hzx 2; have zf := fun j => Lib.frozen_of_heap hzx j; have HZX := Lib.hid hzx; clear h2 h3 h4 hbx htx hzx)
  all_goals go_wp2_with fail
  all_goals
    refine val_end Try.results62 rfl rfl rfl (set_other HZX.out hRe.symm) rfl fun W3 _ g3 => ⟨rfl, .slice ao' (0 + 1) c', ([] : List V3) ++ [(r1, r2, r3)], ?_, fun _ => rfl⟩
    refine ((H1.out.up (((Below.refl w1.heap.size w1).alloc (Nat.le_refl _) _).drew.alloc (by simp) _)).setSaid HX.out.2.1 (sv' := .slice ao' (0 + 1) c') (sd' := ([] : List V3) ++ [(r1, r2, r3)]) (by have h := HX.out.1; skip; exact h)).aside g3 (set_other HZX.out hRe.symm) ?_ (by omega)
    rcases HX.out.2.2 with h | h
    · rw [h]
      exact fun e => by cases e
    · intro e
      have := h _ e
      simp at this
      omega
set_option maxRecDepth 100000 in
set_option maxHeartbeats 4000000 in
theorem say2_row {B : Nat} {w0 w : World} {R mb vb kb : Nat} {vo : Option Addr} {vc : Nat} {vs : List V3} {wv : Value} {ws : List Frm} {kn : List (Addr × V3)} {g sc : Nat} {pre : List V3} (h : WS B w0 w R mb vb kb vo vc vs wv (.slice (some ⟨g, 0, none⟩) pre.length sc) ws pre kn) (a : Addr) (t : X) (ha : At9 B w0 a t) (hk : t.kind = 2) (hs : pre.length ≤ 1000000) :
    Calls Try.prog 62 #[.pointer (some ⟨R, 0, none⟩), .pointer (some a), .int .i64 0] w (SayP B w0 R mb vb kb vo vc vs wv ws kn (if 0 ≤ t.var ∧ t.var < (vs.length : Int) then ifR (vs.getD t.var.toNat zeroT) else (zeroT, 2)) pre) := by
  have hat := ha.up h.base h.B_le
  obtain ⟨sb, o, ao, c, kb', ko, rfl, hb, c0, -⟩ := hat.cells
  rw [hk] at c0
  obtain ⟨i0, hi, hz0, hz1, hz2⟩ := info_parts infoV
  have b0 := Lib.cell_of_heap h.box 0
  have b1 := Lib.cell_of_heap h.box 1
  have b2 := Lib.cell_of_heap h.box 2
  have b3 := Lib.cell_of_heap h.box 3
  have bl := lt_of_heap h.box
  have hBl := h.B_le
  have hR := h.hR
  have hne : sb ≠ w.heap.size := by omega
  have hRe : R ≠ w.heap.size := by omega
  have HZ := Lib.hid (alloc_at (w := w) rfl (.cells zeroCells 25))
  have HB := Lib.hid (below_own (w := w) (.cells zeroCells 25))
  have hask := fun n => run_ask (P := Try.prog) ((w.alloc (.cells zeroCells 25)).drewN n) 55 22 94 mb (saysE vb) 3 2 1 (.func (.func 42) #[] #[.pointer (some ⟨vb, 0, none⟩)]) Try.underlying55 Try.underlying22 (alloc_keep h.says _) rfl true
  have hask0 := run_ask (P := Try.prog) (w.alloc (.cells zeroCells 25)) 55 22 94 mb (saysE vb) 3 2 1 (.func (.func 42) #[] #[.pointer (some ⟨vb, 0, none⟩)]) Try.underlying55 Try.underlying22 (alloc_keep h.says _) rfl true
  unfold zeroCells at *
  have mixed : Try.prog.follows .mixedOrders = true := by kernel_rfl
  have HH := Lib.hid h
  have HC : Hid (∀ W v, Below w.heap.size w W → Calls Try.prog 42 #[.pointer (some ⟨sb, o, none⟩), v, .pointer (some ⟨vb, 0, none⟩)] W (DoPost (if 0 ≤ t.var ∧ t.var < (vs.length : Int) then ifR (vs.getD t.var.toNat zeroT) else (zeroT, 2)) W)) := fun W v hW => says2_any _ t v vb vo vc vs W (hat.up hW hW.size) ((hW.block vb (lt_of_heap h.vars)).trans h.vars) ((h.vrow.up h.base h.B_le).up hW hW.size)
  have hgl := h.said.lt g rfl
  have hcap := owns_capV h.said
  have RG := Lib.hid ((tag_ne h.box (owns_tagV h.said) (by decide)))
  clear ha hat hk h
  generalize (if 0 ≤ t.var ∧ t.var < (vs.length : Int) then ifR (vs.getD t.var.toNat zeroT) else (zeroT, 2)) = r at HC ⊢
  have hcl1 : ((pre).length : Int) ≤ sc := by have := hcap.1; omega
  have hcl2 : (sc : Int) ≤ 9223372036854775807 := by have := hcap.2; unfold maxLen at this; omega
  unfold DoPost at HC
  go_enter Try.func62, Try.ntmps62
  go_wp2_with fail
  go_quiet (fail)
  go_wp2_with (go_at_call 42; go_must (refine (HC.out _ _ (RowKit_drewN HB.out _)).mono ?_; rintro e w1 ⟨rfl, hg⟩; have HG := Lib.hid (show Below (w.heap.size + 1) _ w1 from hg.mono (by simp)); clear hg))
  all_goals
    try (have hsc : sc = pre.length := (by assumption); subst hsc)
    try (have hsc : pre.length = sc := (by assumption); subst hsc)
    clear hask hask0 HC
    have hB1 : Below w.heap.size w w1 := (RowKit_drewN HB.out nq).trans (HG.out.mono (Nat.le_succ _))
    have H1 := Lib.hid (HH.out.up hB1)
    have HZ1 := Lib.hid ((HG.out.block w.heap.size (by omega)).trans HZ.out)
    have hsz : w.heap.size + 1 ≤ w1.heap.size := Nat.le_trans (by simp) HG.out.size
    have d2 := Lib.cell_of_heap H1.out.box 2
    have df := fun j => Lib.frozen_of_heap H1.out.box j
    have hRl : R < w1.heap.size := lt_of_heap H1.out.box
    have hR1 : R ≠ w1.heap.size := by omega
    have hR2 : R ≠ w1.heap.size + 1 := by omega
    have hz1e : w1.heap.size ≠ w.heap.size := by omega
    obtain ⟨⟨r1, r2, r3⟩, r4⟩ := r
    have hBw1 : B ≤ w1.heap.size := H1.out.B_le
    have HOwn := Lib.hid (H1.out.said)
    clear b0 b1 b2 b3 c0 HB HG hB1
    go_region_law (refine step_append_apart rfl (.tmp 53) (.tmp 55) 30 rfl B 25 i0 (.agg #[.int .u8 0, .int .i64 0, .string ⟨#[]⟩]) 3 32 Try.underlying30 hi hz0 hz1 hz2 rfl (by decide) (.slice (some ⟨g, 0, none⟩) pre.length _) pre.length (cellsV pre) rfl (HOwn.out.alloc _ |>.alloc _) ⟨w1.heap.size + 1, 0, none⟩ 1 1 (cellsV [(r1, r2, r3)]) rfl rfl (fun j u hu => by rw [Addr.add_lit, Nat.zero_add]; exact (cell_heap rfl _).trans (cells_made2 w1 (.cells #[.int .u8 r1, .int .i64 r2, .string r3] 25) #[.int .u8 r1, .int .i64 r2, .string r3] 25 _ rfl j u (by simpa [cellsV] using hu))) (cellsV_one _) (by unfold maxLen; omega) (by omega) (by simp; omega) ?_; intro ao' c' w' h2 h3 h4; have HX := Lib.hid (And.intro h2 (And.intro h3 h4)); have hbx : w'.heap[R]? = _ := (h3.block R (by simp; omega) (fun e => RG.out (Option.some.inj e))).trans (alloc_keep (alloc_keep H1.out.box (.cells #[.int .u8 r1, .int .i64 r2, .string r3] 25)) (.cells #[.int .u8 r1, .int .i64 r2, .string r3] 25)); have x2 := Lib.cell_of_heap hbx 2; have xf := fun j => Lib.frozen_of_heap hbx j; have HBX := Lib.hid hbx; have htx : w'.heap[w1.heap.size]? = _ := (h3.block w1.heap.size (by simp; omega) (fun e => by have e : _ = g := Option.some.inj e; omega)).trans (alloc_keep (alloc_at rfl (.cells #[.int .u8 r1, .int .i64 r2, .string r3] 25)) (.cells #[.int .u8 r1, .int .i64 r2, .string r3] 25)); have t0 := Lib.cell_of_heap htx 0; have t1 := Lib.cell_of_heap htx 1; have t2 := Lib.cell_of_heap htx 2; have hzx : w'.heap[w.heap.size]? = _ := (h3.block w.heap.size (by simp; omega) (fun e => by have e : _ = g := Option.some.inj e; omega)).trans (alloc_keep (alloc_keep HZ1.out (.cells #[.int .u8 r1, .int .i64 r2, .string r3] 25)) (.cells #[.int .u8 r1, .int .i64 r2, .string r3] 25)); have z0 := Lib.cell_of_heap hzx 0; have z1 := Lib.cell_of_heap hzx 1; have z2 := Lib.cell_of_heap hzx 2; have zf := fun j => Lib.frozen_of_heap hzx j; have HZX := Lib.hid hzx; clear h2 h3 h4 hbx htx hzx)
    all_goals go_wp2_with fail
    all_goals
      refine val_end Try.results62 rfl rfl rfl (set_other HZX.out hRe.symm) rfl fun W3 _ g3 => ⟨rfl, .slice ao' (pre.length + 1) c', pre ++ [(r1, r2, r3)], ?_, fun _ => rfl⟩
      refine ((H1.out.up (((Below.refl w1.heap.size w1).alloc (Nat.le_refl _) _).drew.alloc (by simp) _)).setSaid HX.out.2.1 (sv' := .slice ao' (pre.length + 1) c') (sd' := pre ++ [(r1, r2, r3)]) (by have h := HX.out.1; rw [← cellsV_append] at h; rw [List.length_append]; exact h)).aside g3 (set_other HZX.out hRe.symm) ?_ (by omega)
      rcases HX.out.2.2 with h | h
      · rw [h]
        exact fun e => by (have e : g = _ := Option.some.inj e; omega)
      · intro e
        have := h _ e
        simp at this
        omega
set_option maxRecDepth 100000 in
set_option maxHeartbeats 4000000 in
theorem say3_nil {B : Nat} {w0 w : World} {R mb vb kb : Nat} {vo : Option Addr} {vc : Nat} {vs : List V3} {wv : Value} {ws : List Frm} {kn : List (Addr × V3)} (h : WS B w0 w R mb vb kb vo vc vs wv (.slice none 0 0) ws [] kn) (a : Addr) (t : X) (ha : At9 B w0 a t) (hk : t.kind = 3) :
    Calls Try.prog 62 #[.pointer (some ⟨R, 0, none⟩), .pointer (some a), .int .i64 0] w (SayP B w0 R mb vb kb vo vc vs wv ws kn (doV t.op []) []) := by
  have hat := ha.up h.base h.B_le
  obtain ⟨sb, o, ao, c, kb', ko, rfl, hb, c0, -⟩ := hat.cells
  rw [hk] at c0
  obtain ⟨i0, hi, hz0, hz1, hz2⟩ := info_parts infoV
  have b0 := Lib.cell_of_heap h.box 0
  have b1 := Lib.cell_of_heap h.box 1
  have b2 := Lib.cell_of_heap h.box 2
  have b3 := Lib.cell_of_heap h.box 3
  have bl := lt_of_heap h.box
  have hBl := h.B_le
  have hR := h.hR
  have hne : sb ≠ w.heap.size := by omega
  have hRe : R ≠ w.heap.size := by omega
  have HZ := Lib.hid (alloc_at (w := w) rfl (.cells zeroCells 25))
  have HB := Lib.hid (below_own (w := w) (.cells zeroCells 25))
  have hask := fun n => run_ask (P := Try.prog) ((w.alloc (.cells zeroCells 25)).drewN n) 55 22 94 mb (saysE vb) 3 3 2 (.func (.func 43) #[] #[]) Try.underlying55 Try.underlying22 (alloc_keep h.says _) rfl true
  have hask0 := run_ask (P := Try.prog) (w.alloc (.cells zeroCells 25)) 55 22 94 mb (saysE vb) 3 3 2 (.func (.func 43) #[] #[]) Try.underlying55 Try.underlying22 (alloc_keep h.says _) rfl true
  unfold zeroCells at *
  have mixed : Try.prog.follows .mixedOrders = true := by kernel_rfl
  have HH := Lib.hid h
  have HC : Hid (∀ W, Below w.heap.size w W → Calls Try.prog 43 #[.pointer (some ⟨sb, o, none⟩), .slice none 0 0] W (DoPost (doV t.op []) W)) := fun W hW => says3_any _ t none 0 [] W (hat.up hW hW.size) (Nat.zero_le _) (fun h => absurd h (by simp)) (fun x hx => by cases hx)
  clear ha hat hk h
  generalize (doV t.op []) = r at HC ⊢
  unfold DoPost at HC
  go_enter Try.func62, Try.ntmps62
  go_wp2_with fail
  go_quiet (fail)
  go_wp2_with (go_at_call 43; go_must (refine (HC.out _ (RowKit_drewN HB.out _)).mono ?_; rintro e w1 ⟨rfl, hg⟩; have HG := Lib.hid (show Below (w.heap.size + 1) _ w1 from hg.mono (by simp)); clear hg))
  clear hask hask0 HC
  have hB1 : Below w.heap.size w w1 := (RowKit_drewN HB.out nq).trans (HG.out.mono (Nat.le_succ _))
  have H1 := Lib.hid (HH.out.up hB1)
  have HZ1 := Lib.hid ((HG.out.block w.heap.size (by omega)).trans HZ.out)
  have hsz : w.heap.size + 1 ≤ w1.heap.size := Nat.le_trans (by simp) HG.out.size
  have d2 := Lib.cell_of_heap H1.out.box 2
  have df := fun j => Lib.frozen_of_heap H1.out.box j
  have hRl : R < w1.heap.size := lt_of_heap H1.out.box
  have hR1 : R ≠ w1.heap.size := by omega
  have hR2 : R ≠ w1.heap.size + 1 := by omega
  have hz1e : w1.heap.size ≠ w.heap.size := by omega
  obtain ⟨⟨r1, r2, r3⟩, r4⟩ := r
  have hBw1 : B ≤ w1.heap.size := H1.out.B_le
  have HOwn := Lib.hid (H1.out.said)
  clear b0 b1 b2 b3 c0 HB HG hB1
  go_region_law (refine step_append_apart rfl (.tmp 53) (.tmp 55) 30 rfl B 25 i0 (.agg #[.int .u8 0, .int .i64 0, .string ⟨#[]⟩]) 3 32 Try.underlying30 hi hz0 hz1 hz2 rfl (by decide) (.slice none 0 0) 0 (cellsV ([] : List V3)) rfl (HOwn.out.alloc _ |>.alloc _) ⟨w1.heap.size + 1, 0, none⟩ 1 1 (cellsV [(r1, r2, r3)]) rfl rfl (fun j u hu => by rw [Addr.add_lit, Nat.zero_add]; exact (cell_heap rfl _).trans (cells_made2 w1 (.cells #[.int .u8 r1, .int .i64 r2, .string r3] 25) #[.int .u8 r1, .int .i64 r2, .string r3] 25 _ rfl j u (by simpa [cellsV] using hu))) (cellsV_one _) (by unfold maxLen; omega) (by omega) (by simp; omega) ?_; intro ao' c' w' h2 h3 h4; have HX := Lib.hid (And.intro h2 (And.intro h3 h4)); have hbx : w'.heap[R]? = _ := (h3.block R (by simp; omega) (fun e => by cases e)).trans (alloc_keep (alloc_keep H1.out.box (.cells #[.int .u8 r1, .int .i64 r2, .string r3] 25)) (.cells #[.int .u8 r1, .int .i64 r2, .string r3] 25)); have x2 := Lib.cell_of_heap hbx 2; have xf := fun j => Lib.frozen_of_heap hbx j; have HBX := Lib.hid hbx; have htx : w'.heap[w1.heap.size]? = _ := (h3.block w1.heap.size (by simp; omega) (fun e => by cases e)).trans (alloc_keep (alloc_at rfl (.cells #[.int .u8 r1, .int .i64 r2, .string r3] 25)) (.cells #[.int .u8 r1, .int .i64 r2, .string r3] 25)); have t0 := Lib.cell_of_heap htx 0; have t1 := Lib.cell_of_heap htx 1; have t2 := Lib.cell_of_heap htx 2; have hzx : w'.heap[w.heap.size]? = _ := (h3.block w.heap.size (by simp; omega) (fun e => by cases e)).trans (alloc_keep (alloc_keep HZ1.out (.cells #[.int .u8 r1, .int .i64 r2, .string r3] 25)) (.cells #[.int .u8 r1, .int .i64 r2, .string r3] 25)); have z0 := Lib.cell_of_heap hzx 0; have z1 := Lib.cell_of_heap hzx 1; have z2 := Lib.cell_of_heap hzx 2; have zf := fun j => Lib.frozen_of_heap hzx j; have HZX := Lib.hid hzx; clear h2 h3 h4 hbx htx hzx)
  all_goals go_wp2_with fail
  all_goals
    refine val_end Try.results62 rfl rfl rfl (set_other HZX.out hRe.symm) rfl fun W3 _ g3 => ⟨rfl, .slice ao' (0 + 1) c', ([] : List V3) ++ [(r1, r2, r3)], ?_, fun _ => rfl⟩
    refine ((H1.out.up (((Below.refl w1.heap.size w1).alloc (Nat.le_refl _) _).drew.alloc (by simp) _)).setSaid HX.out.2.1 (sv' := .slice ao' (0 + 1) c') (sd' := ([] : List V3) ++ [(r1, r2, r3)]) (by have h := HX.out.1; skip; exact h)).aside g3 (set_other HZX.out hRe.symm) ?_ (by omega)
    rcases HX.out.2.2 with h | h
    · rw [h]
      exact fun e => by cases e
    · intro e
      have := h _ e
      simp at this
      omega
set_option maxRecDepth 100000 in
set_option maxHeartbeats 4000000 in
theorem say3_row {B : Nat} {w0 w : World} {R mb vb kb : Nat} {vo : Option Addr} {vc : Nat} {vs : List V3} {wv : Value} {ws : List Frm} {kn : List (Addr × V3)} {g sc : Nat} {pre q : List V3} (h : WS B w0 w R mb vb kb vo vc vs wv (.slice (some ⟨g, 0, none⟩) (pre ++ q).length sc) ws (pre ++ q) kn) (a : Addr) (t : X) (ha : At9 B w0 a t) (hh : Fine q) (hk : t.kind = 3) (hs : (pre ++ q).length ≤ 1000000) :
    Calls Try.prog 62 #[.pointer (some ⟨R, 0, none⟩), .pointer (some a), .int .i64 (q.length : Nat)] w (SayP B w0 R mb vb kb vo vc vs wv ws kn (doV t.op q) pre) := by
  have hat := ha.up h.base h.B_le
  obtain ⟨sb, o, ao, c, kb', ko, rfl, hb, c0, -⟩ := hat.cells
  rw [hk] at c0
  obtain ⟨i0, hi, hz0, hz1, hz2⟩ := info_parts infoV
  have b0 := Lib.cell_of_heap h.box 0
  have b1 := Lib.cell_of_heap h.box 1
  have b2 := Lib.cell_of_heap h.box 2
  have b3 := Lib.cell_of_heap h.box 3
  have bl := lt_of_heap h.box
  have hBl := h.B_le
  have hR := h.hR
  have hne : sb ≠ w.heap.size := by omega
  have hRe : R ≠ w.heap.size := by omega
  have HZ := Lib.hid (alloc_at (w := w) rfl (.cells zeroCells 25))
  have HB := Lib.hid (below_own (w := w) (.cells zeroCells 25))
  have hask := fun n => run_ask (P := Try.prog) ((w.alloc (.cells zeroCells 25)).drewN n) 55 22 94 mb (saysE vb) 3 3 2 (.func (.func 43) #[] #[]) Try.underlying55 Try.underlying22 (alloc_keep h.says _) rfl true
  have hask0 := run_ask (P := Try.prog) (w.alloc (.cells zeroCells 25)) 55 22 94 mb (saysE vb) 3 3 2 (.func (.func 43) #[] #[]) Try.underlying55 Try.underlying22 (alloc_keep h.says _) rfl true
  unfold zeroCells at *
  have mixed : Try.prog.follows .mixedOrders = true := by kernel_rfl
  have HH := Lib.hid h
  have hgl := h.said.lt g rfl
  have hcap := owns_capV h.said
  have hrw := owns_rowV h.said
  have HC : Hid (∀ W ro, Below w.heap.size w W → (0 < q.length → ro = some ⟨g, pre.length * 3, none⟩) → Calls Try.prog 43 #[.pointer (some ⟨sb, o, none⟩), .slice ro q.length (sc - pre.length)] W (DoPost (doV t.op q) W)) := fun W ro hW hro => says3_any _ t ro _ q W (hat.up hW hW.size) (by rw [List.length_append] at hs; omega) (fun hl => ⟨g, pre.length * 3, hro hl, Nat.lt_of_lt_of_le hgl.2 hW.size, (hrw.later (hW) hgl.2)⟩) hh
  have RG := Lib.hid ((tag_ne h.box (owns_tagV h.said) (by decide)))
  clear ha hat hk h
  generalize (doV t.op q) = r at HC ⊢
  have hcl1 : (((pre ++ q)).length : Int) ≤ sc := by have := hcap.1; omega
  have hcl2 : (sc : Int) ≤ 9223372036854775807 := by have := hcap.2; unfold maxLen at this; omega
  rw [List.length_append] at hcl1 hs
  have hcl3 : (pre.length : Int) ≤ sc := by omega
  have hlen : ((pre ++ q).length : Int) - (q.length : Int) = (pre.length : Int) := by rw [List.length_append]; omega
  unfold DoPost at HC
  go_enter Try.func62, Try.ntmps62
  go_wp2_with fail
  go_quiet (fail)
  go_wp2_with (go_at_call 43; go_must (refine (HC.out _ _ (RowKit_drewN HB.out _) (fun hl => by rw [if_neg (by omega)])).mono ?_; rintro e w1 ⟨rfl, hg⟩; have HG := Lib.hid (show Below (w.heap.size + 1) _ w1 from hg.mono (by simp)); clear hg))
  all_goals
    try (have hsc : sc = pre.length := (by assumption); subst hsc)
    try (have hsc : pre.length = sc := (by assumption); subst hsc)
    clear hask hask0 HC
    have hB1 : Below w.heap.size w w1 := (RowKit_drewN HB.out nq).trans (HG.out.mono (Nat.le_succ _))
    have H1 := Lib.hid (HH.out.up hB1)
    have HZ1 := Lib.hid ((HG.out.block w.heap.size (by omega)).trans HZ.out)
    have hsz : w.heap.size + 1 ≤ w1.heap.size := Nat.le_trans (by simp) HG.out.size
    have d2 := Lib.cell_of_heap H1.out.box 2
    have df := fun j => Lib.frozen_of_heap H1.out.box j
    have hRl : R < w1.heap.size := lt_of_heap H1.out.box
    have hR1 : R ≠ w1.heap.size := by omega
    have hR2 : R ≠ w1.heap.size + 1 := by omega
    have hz1e : w1.heap.size ≠ w.heap.size := by omega
    obtain ⟨⟨r1, r2, r3⟩, r4⟩ := r
    have hBw1 : B ≤ w1.heap.size := H1.out.B_le
    have HOwn := Lib.hid (owns_cut (xs := cellsV pre) (ys := cellsV q) (m := pre.length) (by rw [← cellsV_append]; exact H1.out.said) (cellsV_length pre) (by rw [List.length_append]; omega))
    clear b0 b1 b2 b3 c0 HB HG hB1
    go_region_law (refine step_append_apart rfl (.tmp 53) (.tmp 55) 30 rfl B 25 i0 (.agg #[.int .u8 0, .int .i64 0, .string ⟨#[]⟩]) 3 32 Try.underlying30 hi hz0 hz1 hz2 rfl (by decide) (.slice (some ⟨g, 0, none⟩) pre.length _) pre.length (cellsV pre) rfl (HOwn.out.alloc _ |>.alloc _) ⟨w1.heap.size + 1, 0, none⟩ 1 1 (cellsV [(r1, r2, r3)]) rfl rfl (fun j u hu => by rw [Addr.add_lit, Nat.zero_add]; exact (cell_heap rfl _).trans (cells_made2 w1 (.cells #[.int .u8 r1, .int .i64 r2, .string r3] 25) #[.int .u8 r1, .int .i64 r2, .string r3] 25 _ rfl j u (by simpa [cellsV] using hu))) (cellsV_one _) (by unfold maxLen; omega) (by omega) (by simp; omega) ?_; intro ao' c' w' h2 h3 h4; have HX := Lib.hid (And.intro h2 (And.intro h3 h4)); have hbx : w'.heap[R]? = _ := (h3.block R (by simp; omega) (fun e => RG.out (Option.some.inj e))).trans (alloc_keep (alloc_keep H1.out.box (.cells #[.int .u8 r1, .int .i64 r2, .string r3] 25)) (.cells #[.int .u8 r1, .int .i64 r2, .string r3] 25)); have x2 := Lib.cell_of_heap hbx 2; have xf := fun j => Lib.frozen_of_heap hbx j; have HBX := Lib.hid hbx; have htx : w'.heap[w1.heap.size]? = _ := (h3.block w1.heap.size (by simp; omega) (fun e => by have e : _ = g := Option.some.inj e; omega)).trans (alloc_keep (alloc_at rfl (.cells #[.int .u8 r1, .int .i64 r2, .string r3] 25)) (.cells #[.int .u8 r1, .int .i64 r2, .string r3] 25)); have t0 := Lib.cell_of_heap htx 0; have t1 := Lib.cell_of_heap htx 1; have t2 := Lib.cell_of_heap htx 2; have hzx : w'.heap[w.heap.size]? = _ := (h3.block w.heap.size (by simp; omega) (fun e => by have e : _ = g := Option.some.inj e; omega)).trans (alloc_keep (alloc_keep HZ1.out (.cells #[.int .u8 r1, .int .i64 r2, .string r3] 25)) (.cells #[.int .u8 r1, .int .i64 r2, .string r3] 25)); have z0 := Lib.cell_of_heap hzx 0; have z1 := Lib.cell_of_heap hzx 1; have z2 := Lib.cell_of_heap hzx 2; have zf := fun j => Lib.frozen_of_heap hzx j; have HZX := Lib.hid hzx; clear h2 h3 h4 hbx htx hzx)
    all_goals go_wp2_with fail
    all_goals
      refine val_end Try.results62 rfl rfl rfl (set_other HZX.out hRe.symm) rfl fun W3 _ g3 => ⟨rfl, .slice ao' (pre.length + 1) c', pre ++ [(r1, r2, r3)], ?_, fun _ => rfl⟩
      refine ((H1.out.up (((Below.refl w1.heap.size w1).alloc (Nat.le_refl _) _).drew.alloc (by simp) _)).setSaid HX.out.2.1 (sv' := .slice ao' (pre.length + 1) c') (sd' := pre ++ [(r1, r2, r3)]) (by have h := HX.out.1; rw [← cellsV_append] at h; rw [List.length_append]; exact h)).aside g3 (set_other HZX.out hRe.symm) ?_ (by omega)
      rcases HX.out.2.2 with h | h
      · rw [h]
        exact fun e => by (have e : g = _ := Option.some.inj e; omega)
      · intro e
        have := h _ e
        simp at this
        omega
end Go.Proofs.Ytkbkkhfmejpbeaa
