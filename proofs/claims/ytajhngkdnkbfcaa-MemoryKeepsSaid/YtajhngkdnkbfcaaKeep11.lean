/- CopyFact, CopyFacts; what a memory's steps keep of a row of facts. -/
import Derived.Test.YtajhngkdnkbfcaaOpen11
namespace Go.Proofs.Ytajhngkdnkbfcaa
open Go.RowKit

theorem owns_kp {W W' : World} {base e size n : Nat} {v : Value} {xs : List Value} (h : W.ownsRow base e size v n xs) (k : Kp W W') (h1 : e ≠ 71) (h2 : e ≠ 74) : W'.ownsRow base e size v n xs := by
  refine ⟨h.1, ?_⟩
  rcases h.2 with q | ⟨g, cap, cur, hv, hb, hg, q⟩
  · exact Or.inl q
  · exact Or.inr ⟨g, cap, cur, hv, hb, k.2 g cur e hg h1 h2, q⟩
theorem RowF.kp {base : Nat} {W W' : World} {l : List F11} {v : Value} (h : RowF base W l v) (k : Kp W W') : RowF base W' l v := by
  obtain ⟨ps, h1, h2, h3⟩ := h
  refine ⟨ps, h1, owns_kp h2 k (by decide) (by decide), fun p hp => ?_⟩
  obtain ⟨a, d, e1, e2⟩ := h3 p hp
  exact ⟨a, d, e1, owns_kp e2 k (by decide) (by decide)⟩
theorem Aw.grown {w W W' : World} {mb rb : Nat} {l : List F11} {nx : Int} {row : Option Nat} (h : Aw w mb rb l nx W) (g : W.grownBy W' row) (hr : ∀ k, row = some k → w.heap.size ≤ k ∧ ∃ cs fz, W.heap[k]? = some (.cells cs 37 fz)) : Aw w mb rb l nx W' := by
  obtain ⟨ao, c, h1, h2, h3, h4⟩ := h
  have ht : Touch (fun j => row = some j) W W' := (Touch.refl _ W).grown g (fun q hq => Or.inl hq)
  refine ⟨ao, c, h1.touch ht ?_ ?_ ?_, h2.grown g h2.size (fun k hk => (hr k hk).1), h3, h4⟩
  · intro hk
    obtain ⟨-, cs, fz, q1⟩ := hr _ hk
    have q : _ = _ := (show W.heap[mb]? = _ from h1.ptr).symm.trans q1
    cases q
  · intro hk
    obtain ⟨-, cs, fz, q1⟩ := hr _ hk
    have q : _ = _ := (show W.heap[rb]? = _ from h1.row.box).symm.trans q1
    cases q
  · rintro a rfl hk
    obtain ⟨-, cs, fz, q1⟩ := hr _ hk
    obtain ⟨cs', fz', q2⟩ := owns_tag h1.row.own a.block rfl
    have q : _ = _ := q2.symm.trans q1
    cases q
theorem Aw.dropK {w W : World} {mb rb : Nat} {l : List F11} {nx : Int} (h : Aw w mb rb l nx W) (t : Int) :
    Calls Try.prog 11 #[.pointer (some ⟨mb, 0, none⟩), .int .i64 t] W fun e W' => e = .returned (dropM l nx t).tells ∧ Aw w mb rb (dropM l nx t).facts (dropM l nx t).next W' ∧ Kp W W' := by
  obtain ⟨ao, c, h1, h2, h3, h4⟩ := h
  refine (drop_any t mb rb ao c l nx W h1).mono fun e W' hb => ?_
  obtain ⟨e1, e2⟩ := Aw.becomes h2 h3 h4 hb
  obtain ⟨-, ao', c', -, ht, -⟩ := hb
  exact ⟨e1, e2, Kp.of_touch h1 ht⟩
theorem Aw.getK {w W : World} {mb rb : Nat} {l : List F11} {nx : Int} (h : Aw w mb rb l nx W) (t : Int) :
    Calls Try.prog 9 #[.pointer (some ⟨mb, 0, none⟩), .int .i64 t] W (GetP l t W) := by
  obtain ⟨ao, c, h1, -⟩ := h
  exact get_any t mb rb ao c l nx W h1
theorem Aw.findK {w W : World} {mb rb : Nat} {l : List F11} {nx : Int} (h : Aw w mb rb l nx W) (kind : Int) (vs : List V3) (vo : Option Addr) (vc : Nat) (hs : Sl10 W.heap.size W vs.length vo vc (cellsV vs)) (hx : ∀ v ∈ vs, v.2.2.size ≤ 140737488355328) (hn : vs.length ≤ 100000) :
    Calls Try.prog 10 #[.pointer (some ⟨mb, 0, none⟩), .int .i64 kind, .slice vo vs.length vc] W (SaysP11 (findA l kind vs) W) := by
  obtain ⟨ao, c, h1, -⟩ := h
  exact find_any kind vs vo vc mb rb ao c l nx W h1 hs hx hn
theorem Aw.lenK {w W : World} {mb rb : Nat} {l : List F11} {nx : Int} (h : Aw w mb rb l nx W) : Calls Try.prog 15 #[.pointer (some ⟨mb, 0, none⟩)] W fun e W' => e = .returned (.int .i64 l.length) ∧ W = W' := by
  obtain ⟨ao, c, h1, -⟩ := h
  exact len_any mb rb ao c l nx W h1.ptr h1.row
theorem box_end1 {F : Func} {Q : Ending → World → Prop} {a : Act} {W : World} {g s1 : Nat} {T : TypeId} {L : List Value} {d : TypeDesc} (hr : F.results = #[ResultVar.cell s1 T]) (hp : a.tmps[s1]?.getD undef = .pointer (some ⟨g, 0, none⟩)) (hd : a.defers = []) (h : Box W g T L) (hu : Try.prog.underlying T = some d) (hdr : d.isRow = true) (hi : (Try.prog.info? T).map (·.size) = some L.length)
    (hQ : Q (.returned (.agg L.toArray)) W) : bodyPost Try.prog F Q .ret a W := by
  have hrun := run_loadVar_mid (P := Try.prog) W g 0 T L _ h.range hu hdr hi
  refine bodyPost_ret (v := .agg L.toArray) ?_ hd hQ
  simp [results, hr, hp, asAddr, hrun]
set_option maxRecDepth 100000 in
set_option maxHeartbeats 2000000 in
theorem copyFact_any (f : F11) (ao : Option Addr) (c : Nat) (w : World) (hs : Sl10 w.heap.size w f.args.length ao c (cellsV f.args)) (hn : f.args.length ≤ 100000) :
    Calls Try.prog 32 #[.agg #[.int .i64 f.id, .int .i64 f.kind, .slice ao f.args.length c]] w fun e w' => ∃ a d, e = .returned (.agg #[.int .i64 f.id, .int .i64 f.kind, .slice a f.args.length d]) ∧ w'.ownsRow w.heap.size 33 3 (.slice a f.args.length d) f.args.length (cellsV f.args) ∧ Below w.heap.size w w' := by
  have HC := Lib.hid (fun W (b : Below w.heap.size w W) => copyV_any f.args ao c W (hs.up b b.size) hn)
  clear hs
  obtain ⟨id, kind, args⟩ := f
  simp only at *
  have hbx := (Box.new w 37 [.int .i64 id, .int .i64 kind, .slice ao args.length c]).keep (.cells ([.int .i64 0, .int .i64 0, .slice none 0 0] : List Value).toArray 37)
  have hby := Box.new (w.alloc (.cells ([.int .i64 id, .int .i64 kind, .slice ao args.length c] : List Value).toArray 37)) 37 [.int .i64 0, .int .i64 0, .slice none 0 0]
  have hbz := below_new (below_own (w := w) (.cells ([.int .i64 id, .int .i64 kind, .slice ao args.length c] : List Value).toArray 37)) (.cells ([.int .i64 0, .int .i64 0, .slice none 0 0] : List Value).toArray 37)
  have H1 := Lib.hid hbx
  have H2 := Lib.hid hby
  have H3 := Lib.hid hbz
  clear hbx hby hbz
  generalize han : args.length = n at *
  have HAn := Lib.hid han
  clear han
  go_enter Try.func32, Try.ntmps32
  go_upto_region 1 with fail
  have hsz : (w.alloc (.cells ([.int .i64 id, .int .i64 kind, .slice ao n c] : List Value).toArray 37)).heap.size = w.heap.size + 1 := by simp
  have H2' : Hid _ := H2
  rw [hsz] at H2'
  clear H2 hsz
  generalize hW2 : World.alloc _ _ = W2
  have HB1 : Hid (Box W2 w.heap.size 37 [.int .i64 id, .int .i64 kind, .slice ao n c]) := by rw [← hW2]; exact H1.out
  have HB2 : Hid (Box W2 (w.heap.size + 1) 37 [.int .i64 0, .int .i64 0, .slice none 0 0]) := by rw [← hW2]; exact H2'.out
  have HBl : Hid (Below w.heap.size w W2) := by rw [← hW2]; exact H3.out
  clear hW2 H1 H2' H3
  have x2 : W2.cell? ⟨w.heap.size, 2, none⟩ = some (.slice ao n c) := (HB1.out.cell 2).trans rfl
  have HCv := Lib.hid (HC.out W2 HBl.out)
  clear HC
  go_upto_region 2 with (go_at_call 20; refine (HCv.out).mono ?_; rintro e w3 ⟨v3, rfl, ho, hb⟩; obtain ⟨a3, d3, rfl⟩ := owns_slice ho; have HO := Lib.hid ho; have HB13 := Lib.hid (HB1.out.old hb); have HB23 := Lib.hid (HB2.out.old hb); have hfz := (fun j => HB13.out.frozen j); have y0 := HB13.out.cell 0; have y1 := HB13.out.cell 1; have y2 := HB13.out.cell 2; (simp only [List.getElem?_cons_zero, List.getElem?_cons_succ] at y0 y1 y2); have HBl3 := Lib.hid (HBl.out.trans (hb.mono HBl.out.size)); clear hb ho)
  have hg3 := Lib.grownBy_setCell w3 w.heap.size 2 (.slice a3 n d3)
  have hb4 := HB13.out.set 2 (.slice a3 n d3)
  have hc4 := HB23.out.far hg3 (by simp)
  have hbl4 := HBl3.out.grown hg3 HBl3.out.size (fun j hj => by cases hj; exact Nat.le_refl _)
  have ho4 := owns_far (e' := 37) (owns_mono HO.out HBl.out.size) (by decide) hg3 (fun j hj => by obtain rfl := Option.some.inj hj; exact ⟨_, _, HB13.out⟩)
  have H4 := Lib.hid hb4
  have H5 := Lib.hid hc4
  have H6 := Lib.hid hbl4
  have H7 := Lib.hid ho4
  clear hg3 hb4 hc4 hbl4 ho4 y0 y1 y2 hfz HO HB13 HB23 HBl3 HCv x2 HB1 HB2 HBl
  generalize hW5 : World.setCell _ _ _ = W5
  have HB5 : Hid (Box W5 w.heap.size 37 [.int .i64 id, .int .i64 kind, .slice a3 n d3]) := by rw [← hW5]; exact H4.out
  have HC5 : Hid (Box W5 (w.heap.size + 1) 37 [.int .i64 0, .int .i64 0, .slice none 0 0]) := by rw [← hW5]; exact H5.out
  have HL5 : Hid (Below w.heap.size w W5) := by rw [← hW5]; exact H6.out
  have HO5 : Hid (W5.ownsRow w.heap.size 33 3 (.slice a3 n d3) n (cellsV args)) := by rw [← hW5]; exact H7.out
  clear hW5 H4 H5 H6 H7
  have y0 := HB5.out.cell 0
  have y1 := HB5.out.cell 1
  have y2 := HB5.out.cell 2
  have z0 := HC5.out.cell 0
  have z1 := HC5.out.cell 1
  have z2 := HC5.out.cell 2
  have hfz := fun j => HC5.out.frozen j
  simp only [List.getElem?_cons_zero, List.getElem?_cons_succ] at y0 y1 y2 z0 z1 z2
  have hrb : w.heap.size ≤ w.heap.size + 1 := Nat.le_succ _
  generalize w.heap.size + 1 = rb at *
  go_wp2_with fail
  have hg1 := Lib.grownBy_setCell W5 rb 0 (.int .i64 id)
  have hg2 := grown_set2 (i := 1) (v := .int .i64 kind) hg1
  have hg3 := grown_set2 (i := 2) (v := .slice a3 n d3) hg2
  exact box_end1 (g := rb) (L := [.int .i64 id, .int .i64 kind, .slice a3 n d3]) rfl rfl rfl (((HC5.out.set 0 _).set 1 _).set 2 _) Try.underlying37 rfl infoFact3 ⟨a3, d3, rfl, owns_far (e' := 37) HO5.out (by decide) hg3 (fun j hj => by obtain rfl := Option.some.inj hj; exact ⟨_, _, HC5.out⟩), HL5.out.grown hg3 HL5.out.size (fun j hj => by cases hj; exact hrb)⟩
theorem RowF.take {base : Nat} {w : World} {l : List F11} {ao : Option Addr} {c : Nat} (h : FRow base w l ao c) (k : Nat) (hk : k ≤ l.length) : FRow base w (l.take k) ao c := by
  obtain ⟨ps, h1, h2, h3⟩ := h
  have hpl : ps.length = l.length := by rw [← h1]; simp
  have hlk : (l.take k).length = k := by rw [List.length_take]; omega
  have hck : cells3 ps = cells3 (ps.take k) ++ cells3 (ps.drop k) := by rw [← cells3_append, List.take_append_drop]
  refine ⟨ps.take k, by rw [List.map_take, h1], ?_, fun p hp => h3 p (List.mem_of_mem_take hp)⟩
  rw [hlk]
  refine ⟨fun hne => ?_, fun e => ?_, by have := h2.cap; omega, h2.top⟩
  · have hne' : cells3 ps ≠ [] := fun e => hne (by rw [hck] at e; exact (List.append_eq_nil_iff.1 e).1)
    obtain ⟨sb, off, e, lt, hc⟩ := h2.row hne'
    refine ⟨sb, off, e, lt, fun j u hu => hc j u ?_⟩
    rw [hck, List.getElem?_append_left (List.getElem?_eq_some_iff.1 hu).1]
    exact hu
  · obtain ⟨e1, e2⟩ := h2.nil e
    exact ⟨by omega, e2⟩
set_option maxRecDepth 100000 in
set_option maxHeartbeats 2000000 in
theorem copyFacts_any (l : List F11) (ao : Option Addr) (c : Nat) (w : World) (hf : FRow w.heap.size w l ao c) (hl : l.length ≤ 100000) (hn : ∀ f ∈ l, f.args.length ≤ 100000) :
    Calls Try.prog 18 #[.slice ao l.length c] w (AllP l w) := by
  obtain ⟨i0, hi, hz0, hz1, hz2⟩ := info_parts infoA
  have HF := Lib.hid hf
  have HN := Lib.hid hn
  clear hf hn
  unfold AllP
  go_enter Try.func18, Try.ntmps18
  go_wp2_with fail
  go_loopw [3, 4] (fun s3 i wr => ∃ (k : Nat) (ao' : Option Addr) (c' : Nat), k ≤ l.length ∧ i = .int .i64 k ∧ s3 = .slice ao' k c' ∧ Hid (RowF w.heap.size wr (l.take k) (.slice ao' k c')) ∧ Hid (Below w.heap.size w wr)) (fun _ i _ => l.length - (intOf i).toNat)
  case atStart => exact ⟨0, none, 0, Nat.zero_le _, rfl, rfl, RowF.none _ _, Below.refl _ _⟩
  case round =>
    obtain ⟨k, ao', c', hk, rfl, rfl, HRo, HW⟩ := hrel
    by_cases hlt : k < l.length
    · obtain ⟨g, o, p, d, rfl, lg, x1, x2, x3, s1⟩ := (HF.out.up HW.out HW.out.size).get hlt
      have hkn : (k : Int) < (l.length : Int) := by omega
      have HTk := Lib.hid (take_getD hlt)
      have HLk : Hid ((l.take k).length = k) := by show _ = _; rw [List.length_take]; omega
      have hfn := HN.out _ (getD_mem11 hlt)
      have HCp := Lib.hid (copyFact_any (l.getD k default) p d wr s1 hfn)
      obtain ⟨f, hf⟩ : ∃ f, f = l.getD k default := ⟨_, rfl⟩
      rw [← hf] at x1 x2 x3 HCp HTk
      clear hf s1 hfn
      obtain ⟨id, kind, args⟩ := f
      simp only at x1 x2 x3 HCp
      obtain ⟨an, han⟩ : ∃ an, an = args.length := ⟨_, rfl⟩
      rw [← han] at x3 HCp
      have HAn := Lib.hid han
      clear han
      obtain ⟨ln, hln⟩ : ∃ ln, ln = l.length := ⟨_, rfl⟩
      rw [← hln] at hkn hlt hk hl ⊢
      clear hln HF HN
      go_upto_region 6 with (go_at_call 32; refine (HCp.out).mono ?_; rintro e w5 ⟨ao1, c1, rfl, ho, hb⟩; have HO5 := Lib.hid (owns_mono ho HW.out.size); have HRo5 := Lib.hid (HRo.out.old hb); have HBl5 := Lib.hid (HW.out.trans (hb.mono HW.out.size)); clear ho hb)
      have hbn6 := below_own (w := w5) (.cells ([.int .i64 id, .int .i64 kind, .slice ao1 an c1] : List Value).toArray 37)
      have hbx6 := Box.new w5 37 [.int .i64 id, .int .i64 kind, .slice ao1 an c1]
      have H6 := Lib.hid hbn6
      have H7 := Lib.hid hbx6
      clear hbn6 hbx6
      generalize hW6 : World.alloc _ _ = W6
      have HB6 : Hid (Below w5.heap.size w5 W6) := by rw [← hW6]; exact H6.out
      have HX6 : Hid (Box W6 w5.heap.size 37 [.int .i64 id, .int .i64 kind, .slice ao1 an c1]) := by rw [← hW6]; exact H7.out
      clear hW6 H6 H7 HCp x1 x2 x3
      have HO6 := Lib.hid (owns_below HO5.out HB6.out)
      have HRo6 := Lib.hid (HRo5.out.old HB6.out)
      have HBl6 := Lib.hid (HBl5.out.trans (HB6.out.mono HBl5.out.size))
      have y0 := HX6.out.cell 0
      have y1 := HX6.out.cell 1
      have y2 := HX6.out.cell 2
      simp only [List.getElem?_cons_zero, List.getElem?_cons_succ] at y0 y1 y2
      clear HO5 HRo5 HBl5 HB6 HX6 HRo HW
      generalize w5.heap.size = fb at *
      go_wp2_with (at_builtin; have hbn := below_own (w := W6) (.cells #[.int .i64 id, .int .i64 kind, .slice ao1 an c1] 37); obtain ⟨ps, q1, q2, q3⟩ := HRo6.out.old hbn; have q4 := owns_below HO6.out hbn; have q2' := q2; rw [HLk.out] at q2'; have HQ := Lib.hid (And.intro q1 (And.intro q2 (And.intro q3 q4))); have HBl7 := Lib.hid (HBl6.out.trans (hbn.mono HBl6.out.size)); clear hbn q1 q3 q4 q2; refine wpList_append_apart _ rfl (.tmp 17) (.tmp 19) 44 rfl w.heap.size 37 i0 (.agg #[.int .i64 0, .int .i64 0, .slice none 0 0]) 3 40 Try.underlying44 hi hz0 hz1 hz2 rfl (by decide) _ k (cells3 ps) rfl q2' (some ⟨W6.heap.size, 0, none⟩) 1 1 [.int .i64 id, .int .i64 kind, .slice ao1 an c1] rfl rfl (fun h => by cases h) (fun ad h j u hu => by cases h; rw [Addr.add_lit, Nat.zero_add]; exact (Lib.cell_of_heap (alloc_at rfl _) j).trans (by simpa using hu)) (by intro u hu; simp at hu; rcases hu with rfl | rfl | rfl <;> rfl) (by unfold maxLen; omega) (by omega) HBl7.out.size ?_; intro v' w7 hown' hgrow' hor)
      obtain ⟨a7, c7, rfl⟩ := owns_slice hown'
      obtain ⟨q1, q2, q3, q4⟩ := HQ.out
      have hane : args.length = an := HAn.out.symm
      have hpush : RowF w.heap.size w7 (l.take k ++ [⟨id, kind, args⟩]) (.slice a7 (k + 1) c7) := RowF.push (f := ⟨id, kind, args⟩) (ao := ao1) (c := c1) q1 q2 q3 (by simp only; rw [hane]; exact q4) (by rw [HLk.out]; simp only; rw [hane]; exact hown') hgrow'
      have hbl8 := HBl7.out.grown hgrow' HBl7.out.size (fun j hj => (World.ownsRow.lt q2 j hj).1)
      rw [← HTk.out] at hpush
      have HP := Lib.hid hpush
      have HBl8 := Lib.hid hbl8
      refine ⟨⟨k + 1, a7, c7, by omega, by go_num, rfl, HP, HBl8⟩, ?_⟩
      simp [intOf]
      omega
    · obtain rfl : k = l.length := by omega
      have HRl : Hid (RowF w.heap.size wr l (.slice ao' l.length c')) := by
        have := HRo.out
        rwa [List.take_length] at this
      clear HRo HF HN
      go_wp2_with fail
      go_ret
      exact ⟨ao', c', rfl, HRl.out, HW.out⟩
end Go.Proofs.Ytajhngkdnkbfcaa
