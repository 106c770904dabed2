/- Of: a memory made of facts. -/
import Derived.Test.YtajhngkdnkbfcaaSameF11
namespace Go.Proofs.Ytajhngkdnkbfcaa
open Go.RowKit

/-- All blocks that are no row of facts, and no head of one, are kept. -/
def Kp (W W' : World) : Prop := W.heap.size ≤ W'.heap.size ∧ ∀ (k : Nat) (cs : Array Value) (T : TypeId), W.heap[k]? = some (Obj.cells cs T (0, 0)) → T ≠ 71 → T ≠ 74 → W'.heap[k]? = some (Obj.cells cs T (0, 0))
theorem Kp.of_touch {W W' : World} {mb rb : Nat} {ao : Option Addr} {c : Nat} {l : List F11} {nx : Int} (h : Mm W mb rb ao c l nx) (t : Touch (RowS rb ao) W W') : Kp W W' := by
  refine ⟨t.size, fun k cs T hk h1 h2 => (t.block k (lt_of_heap hk) ?_).trans hk⟩
  rintro (rfl | ⟨a, rfl, rfl⟩)
  · have e : _ = _ := hk.symm.trans h.row.box
    cases e
    exact h2 rfl
  · obtain ⟨cs', fz, e1⟩ := owns_tag h.row.own a.block rfl
    have e : _ = _ := hk.symm.trans e1
    cases e
    exact h1 rfl
theorem Kp.refl (W : World) : Kp W W := ⟨Nat.le_refl _, fun _ _ _ h _ _ => h⟩
theorem Kp.box {W W' : World} {g : Nat} {T : TypeId} {L : List Value} (h : Kp W W') (hb : Box W g T L) (h1 : T ≠ 71) (h2 : T ≠ 74) : Box W' g T L := h.2 g _ T hb h1 h2
theorem Aw.addK {w W : World} {mb rb : Nat} {l : List F11} {nx : Int} (h : Aw w mb rb l nx W) (kind : Int) (vs : List V3) (vo : Option Addr) (vc : Nat) (hs : Sl10 W.heap.size W vs.length vo vc (cellsV vs)) (hx : ∀ v ∈ vs, v.2.2.size ≤ 140737488355328) (hn : vs.length ≤ 100000) :
    Calls Try.prog 7 #[.pointer (some ⟨mb, 0, none⟩), .int .i64 kind, .slice vo vs.length vc] W fun e W' => e = .returned (addM l nx kind vs).tells ∧ Aw w mb rb (addM l nx kind vs).facts (addM l nx kind vs).next W' ∧ Kp W W' := by
  obtain ⟨ao, c, h1, h2, h3, h4⟩ := h
  refine (add_any kind vs vo vc mb rb ao c l nx W h1 hs hx hn).mono fun e W' hb => ?_
  obtain ⟨e1, e2⟩ := Aw.becomes h2 h3 h4 hb
  obtain ⟨-, ao', c', -, ht, -⟩ := hb
  exact ⟨e1, e2, Kp.of_touch h1 ht⟩
theorem Aw.skip {w W : World} {mb rb : Nat} {l : List F11} {nx : Int} (h : Aw w mb rb l nx W) (t : Int) :
    Calls Try.prog 33 #[.pointer (some ⟨rb, 0, none⟩), .int .i64 t] W fun e W' => e = .returned (.bool (skipB nx t)) ∧ Aw w mb rb l (if skipB nx t = true then t else nx) W' ∧ Kp W W' := by
  obtain ⟨ao, c, h1, h2, h3, h4⟩ := h
  cases hb : skipB nx t with
  | false =>
    refine (skip_no t rb ao c l nx W h1.row hb).mono ?_
    rintro e W' ⟨rfl, rfl⟩
    exact ⟨rfl, ⟨ao, c, by rw [if_neg (by decide)]; exact h1, h2, h3, h4⟩, Kp.refl _⟩
  | true =>
    refine (skip_yes t rb ao c l nx W h1.row hb).mono ?_
    rintro e W' ⟨rfl, rfl⟩
    have hg := Lib.grownBy_setCell W rb 1 (.int .i64 t)
    have ht : Touch (RowS rb ao) W (W.setCell ⟨rb, 1, none⟩ (.int .i64 t)) := (Touch.refl _ W).grown hg (fun k hk => by obtain rfl := Option.some.inj hk; exact Or.inl (Or.inl rfl))
    have hbb : nx ≤ t ∧ t ≤ 1099511627777 := by
      unfold skipB at hb
      simp at hb
      exact hb
    have hM : Mm (W.setCell ⟨rb, 1, none⟩ (.int .i64 t)) mb rb ao c l t := by
      refine ⟨Mp.far h1 ht, ⟨h1.row.box.set 1 _, ?_, h1.row.few, h1.row.many⟩, h1.rise, fun f hf => by have := h1.top f hf; omega, by have := h1.lo; omega, hbb.2, h1.txt⟩
      exact owns_far (e' := 74) h1.row.own (by decide) hg (fun k hk => by obtain rfl := Option.some.inj hk; exact ⟨_, _, h1.row.box⟩)
    refine ⟨rfl, ⟨ao, c, by rw [if_pos rfl]; exact hM, h2.grown hg h2.size (fun k hk => by obtain rfl := Option.some.inj hk; exact h3), h3, h4⟩, Kp.of_touch h1 ht⟩
theorem Aw.ptr {w W : World} {mb rb : Nat} {l : List F11} {nx : Int} (h : Aw w mb rb l nx W) : W.cell? ⟨mb, 0, none⟩ = some (.pointer (some ⟨rb, 0, none⟩)) := by
  obtain ⟨ao, c, h1, -⟩ := h
  exact Mp.get h1.ptr
def errOf : Value → Int
  | .tuple #[_, .int .i64 e] => e
  | _ => 0
def ofStep (s : List F11 × Int) (f : F11) : Option (List F11 × Int) :=
  if skipB s.2 f.id = true then (if errOf (addM s.1 f.id f.kind f.args).tells = 0 then some ((addM s.1 f.id f.kind f.args).facts, (addM s.1 f.id f.kind f.args).next) else none) else none
def ofL : List F11 → List F11 × Int → Option (List F11 × Int)
  | [], s => some s
  | f :: r, s => match ofStep s f with
    | some s' => ofL r s'
    | none => none
def ofM (next : Int) (fs : List F11) : Option (List F11) := match ofL fs ([], 1) with
  | some s => if skipB s.2 next = true then some s.1 else none
  | none => none
/-- What Of tells. -/
def OfP (next : Int) (fs : List F11) (w : World) (e : Ending) (w' : World) : Prop := Below w.heap.size w w' ∧ ((ofM next fs = none ∧ e = .returned (.tuple #[.pointer none, .int .i64 4])) ∨ ∃ l mb rb, ofM next fs = some l ∧ e = .returned (.tuple #[.pointer (some ⟨mb, 0, none⟩), .int .i64 0]) ∧ Aw w mb rb l next w')
theorem ofL_drop {fs : List F11} {k : Nat} {s : List F11 × Int} (hk : k < fs.length) : ofL (fs.drop k) s = match ofStep s (fs.getD k default) with | some s' => ofL (fs.drop (k + 1)) s' | none => none := by
  have : fs.drop k = fs.getD k default :: fs.drop (k + 1) := by
    rw [List.getD_eq_getElem?_getD, List.getElem?_eq_getElem hk]
    exact List.drop_eq_getElem_cons hk
  rw [this]
  rfl
set_option maxRecDepth 100000 in
set_option maxHeartbeats 4000000 in
theorem of_any (next : Int) (fs : List F11) (ao : Option Addr) (c : Nat) (w : World) (hf : FRow w.heap.size w fs ao c) (hx : ∀ f ∈ fs, f.args.length ≤ 100000 ∧ ∀ v ∈ f.args, v.2.2.size ≤ 140737488355328) :
    Calls Try.prog 23 #[.int .i64 next, .slice ao fs.length c] w (OfP next fs w) := by
  have HF := Lib.hid hf
  have hm9 := hf.fine
  have HX := Lib.hid hx
  have mixed : Try.prog.follows .mixedOrders = true := by kernel_rfl
  clear hf hx
  unfold OfP
  go_enter Try.func23, Try.ntmps23
  go_wp2_with (go_at_call 16; refine (new_aw _).mono ?_; rintro e w1 ⟨mb, rb, rfl, ha⟩; have HA := Lib.hid ha; clear ha)
  go_loopw [14] (fun i wr => ∃ (k : Nat) (l : List F11) (nx : Int), k ≤ fs.length ∧ i = .int .i64 k ∧ Hid (Aw w mb rb l nx wr) ∧ Hid (ofL fs ([], 1) = ofL (fs.drop k) (l, nx))) (fun i _ => fs.length - (intOf i).toNat)
  case atStart => exact ⟨0, [], 1, Nat.zero_le _, rfl, HA, by show _ = _; rw [List.drop_zero]⟩
  case round =>
    obtain ⟨k, l, nx, hk, rfl, HAk, HO⟩ := hrel
    clear HA
    by_cases hlt : k < fs.length
    · obtain ⟨g, o, p, d, rfl, lg, X1, X2, X3, s1⟩ := HF.out.get hlt
      have x1 := (HAk.out.below.cell (p := ⟨g, o + k * 3, none⟩) lg).trans X1
      have x2 := (HAk.out.below.cell (p := ⟨g, o + k * 3 + 1, none⟩) lg).trans X2
      have x3 := (HAk.out.below.cell (p := ⟨g, o + k * 3 + 2, none⟩) lg).trans X3
      clear X1 X2 X3
      have HOk : Hid (ofL fs ([], 1) = match ofStep (l, nx) (fs.getD k default) with | some s' => ofL (fs.drop (k + 1)) s' | none => none) := by
        show _ = _
        rw [HO.out, ofL_drop hlt]
      have hxf := HX.out _ (getD_mem11 hlt)
      have hkn : (k : Int) < (fs.length : Int) := by omega
      obtain ⟨f, hf⟩ : ∃ f, f = fs.getD k default := ⟨_, rfl⟩
      rw [← hf] at x1 x2 x3 s1 HOk hxf
      clear hf HO
      obtain ⟨id, kind, args⟩ := f
      simp only at x1 x2 x3 s1 hxf
      have HS1 := Lib.hid s1
      have HXf := Lib.hid hxf
      clear s1 hxf
      obtain ⟨an, han⟩ : ∃ an, an = args.length := ⟨_, rfl⟩
      rw [← han] at x3
      have HAn := Lib.hid han
      clear han
      have hb4 : Box (wr.alloc (.cells ([.int .i64 id, .int .i64 kind, .slice p an d] : List Value).toArray 37)) wr.heap.size 37 [.int .i64 id, .int .i64 kind, .slice p an d] := Box.new _ _ _
      have ha4 := HAk.out.old (below_own (.cells ([.int .i64 id, .int .i64 kind, .slice p an d] : List Value).toArray 37))
      have HB4' := Lib.hid hb4
      have HA4' := Lib.hid ha4
      clear hb4 ha4
      go_upto_region 5 with fail
      generalize hW4 : World.alloc _ _ = W4
      have HB4 : Hid (Box W4 wr.heap.size 37 [.int .i64 id, .int .i64 kind, .slice p an d]) := by rw [← hW4]; exact HB4'.out
      have HA4 : Hid (Aw w mb rb l nx W4) := by rw [← hW4]; exact HA4'.out
      clear hW4 HB4' HA4' x1 x2 x3
      generalize wr.heap.size = fb at *
      have HP4 := Lib.hid HA4.out.ptr
      have HI4 : Hid (W4.cell? ⟨fb, 0, none⟩ = some (.int .i64 id)) := by show _ = _; rw [HB4.out.cell]; rfl
      have HSk := Lib.hid ((HA4.out.old (below_drew (Below.refl _ _))).skip id)
      have HB4d : Hid (Box W4.drew fb 37 [.int .i64 id, .int .i64 kind, .slice p an d]) := HB4
      go_region_held3 (fun W => W.cell? ⟨mb, 0, none⟩ = some (.pointer (some ⟨rb, 0, none⟩)) ∧ W.cell? ⟨fb, 0, none⟩ = some (.int .i64 id))
        (first | exact ⟨HP4.out, HI4.out⟩ | exact ⟨HA5.out.ptr, (HB5.out.cell 0).trans rfl⟩)
        ((first | (go_at_call 33; refine (HSk.out).mono ?_; rintro e w5 ⟨rfl, ha, hkp⟩; have HA5 := Lib.hid ha; have HB5 := Lib.hid (hkp.box HB4d.out (by decide) (by decide)); clear ha hkp)))
      cases hsk : skipB nx id with
      | false =>
        have HNo : Hid (ofM next fs = none) := by
          show _ = _
          unfold ofM
          rw [HOk.out]
          unfold ofStep
          simp only [hsk]
          rfl
        clear HSk hsk
        go_wp2_with fail
        go_ret2
        exact ⟨HA5.out.below, Or.inl ⟨HNo.out, rfl⟩⟩
      | true =>
        have HOj : Hid (ofL fs ([], 1) = if errOf (addM l id kind args).tells = 0 then ofL (fs.drop (k + 1)) ((addM l id kind args).facts, (addM l id kind args).next) else none) := by
          show _ = _
          rw [HOk.out]
          unfold ofStep
          simp only [hsk, if_true]
          by_cases h0 : errOf (addM l id kind args).tells = 0
          · rw [if_pos h0, if_pos h0]
          · rw [if_neg h0, if_neg h0]
        have HA6 : Hid (Aw w mb rb l id w5) := by
          have := HA5.out
          rwa [hsk, if_pos rfl] at this
        have HAdd := Lib.hid (HA6.out.addK kind args p d (HS1.out.up HA6.out.below HA6.out.below.size) HXf.out.2 HXf.out.1)
        rw [← HAn.out] at HAdd
        obtain ⟨ai, er, her⟩ := add_tells l id kind args
        obtain ⟨m, hm⟩ : ∃ m, m = addM l id kind args := ⟨_, rfl⟩
        rw [← hm] at HAdd her HOj
        rw [her] at HAdd HOj
        have y1 : w5.cell? ⟨fb, 1, none⟩ = some (.int .i64 kind) := (HB5.out.cell 1).trans rfl
        have y2 : w5.cell? ⟨fb, 2, none⟩ = some (.slice p an d) := (HB5.out.cell 2).trans rfl
        have HOe : Hid (ofL fs ([], 1) = if er = 0 then ofL (fs.drop (k + 1)) (m.facts, m.next) else none) := HOj
        clear HSk hsk HOj HOk hm her HA5 HB5 HA6 HB4 HA4 HP4 HI4 HB4d
        by_cases he0 : er = 0
        · subst he0
          have HOn : Hid (ofL fs ([], 1) = ofL (fs.drop (k + 1)) (m.facts, m.next)) := by
            show _ = _
            rw [HOe.out, if_pos rfl]
          clear HOe
          go_wp2_with (go_at_call 7; refine (HAdd.out).mono ?_; rintro e w6 ⟨rfl, ha, -⟩; have HA7 := Lib.hid ha; clear ha)
          clear HAdd y1 y2
          go_roundw
          case rel => exact ⟨k + 1, m.facts, m.next, by omega, by go_num, HA7, HOn⟩
          case measure => simp [intOf]; omega
        · have hne : (er != 0) = true := by simp [he0]
          have HNo : Hid (ofM next fs = none) := by
            show _ = _
            unfold ofM
            rw [HOe.out, if_neg he0]
          clear HOe he0
          go_wp2_with (go_at_call 7; refine (HAdd.out).mono ?_; rintro e w6 ⟨rfl, ha, -⟩; have HA7 := Lib.hid ha; clear ha)
          go_ret2
          exact ⟨HA7.out.below, Or.inl ⟨HNo.out, rfl⟩⟩
    · obtain rfl : k = fs.length := by omega
      have HOl : Hid (ofL fs ([], 1) = some (l, nx)) := by
        show _ = _
        rw [HO.out, List.drop_length]
        rfl
      have hp := HAk.out.ptr
      have HSk := Lib.hid (HAk.out.skip next)
      clear HO HF HX
      cases hsk : skipB nx next with
      | false =>
        have HNo : Hid (ofM next fs = none) := by
          show _ = _
          unfold ofM
          rw [HOl.out]
          simp only [hsk]
          rfl
        rw [hsk] at HSk
        clear hsk
        go_wp2_with (go_at_call 33; refine (HSk.out).mono ?_; rintro e w6 ⟨rfl, ha, -⟩; have HA7 := Lib.hid ha; clear ha)
        go_ret2
        exact ⟨HA7.out.below, Or.inl ⟨HNo.out, rfl⟩⟩
      | true =>
        have HYes : Hid (ofM next fs = some l) := by
          show _ = _
          unfold ofM
          rw [HOl.out]
          simp only [hsk]
          rfl
        rw [hsk, if_pos rfl] at HSk
        clear hsk
        go_wp2_with (go_at_call 33; refine (HSk.out).mono ?_; rintro e w6 ⟨rfl, ha, -⟩; have HA7 := Lib.hid ha; clear ha)
        go_ret2
        exact ⟨HA7.out.below, Or.inr ⟨l, mb, rb, HYes.out, rfl, HA7.out⟩⟩
end Go.Proofs.Ytajhngkdnkbfcaa
