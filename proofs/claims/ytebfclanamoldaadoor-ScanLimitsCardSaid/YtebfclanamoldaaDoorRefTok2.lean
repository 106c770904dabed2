/- The document's token behind a sign that asks for a name. -/
import Derived.Test.YtebfclanamoldaaDoorRefTok
namespace Go.Proofs.YtebfclanamoldaaDoor
open Go.RowKit

theorem lex2 (w : World) (cs : Array Value) (o : Obj) (x y z : Value) (h0 : cs[0]? = some x) (h1 : cs[1]? = some y) (h2 : cs[2]? = some z) : Lex3 ((w.alloc (.cells cs 41)).alloc o) w.heap.size x y z := by
  have h : ((w.alloc (.cells cs 41)).alloc o).heap[w.heap.size]? = some (.cells cs 41 (0, 0)) := (Below.heap_alloc _ _ _ (by simp)).trans (heap_alloc_new w _)
  exact ⟨(Lib.cell_of_heap h 0).trans h0, (Lib.cell_of_heap h 1).trans h1, (Lib.cell_of_heap h 2).trans h2⟩

set_option maxRecDepth 100000 in
set_option maxHeartbeats 4000000 in
theorem refTok_var (s : ByteArray) (hm : s.size ≤ 1000000) (a : Nat) (ha : a < s.size) (w : World) (hc : s[a].toNat = 63) :
    Calls Tryd.prog 19 #[.string s, .int .i64 a] w fun e w' => e = .returned (rtV (namedT 3 (s.data.toList.drop (a + 1))) a (a + 1 + ((s.data.toList.drop (a + 1)).takeWhile onB).length)) ∧ Below w.heap.size w w' := by
  have KL := Lib.hid (fun w => refLow_any s[a] w)
  rw [show lowB s[a] = false by unfold lowB; rw [hc]; rfl] at KL
  have KR := Lib.hid (fun w => refRun_any (a + 1) s hm ha w)
  have KN := Lib.hid (fun w => refNamed_tok (s.data.toList.drop (a + 1)) w (by have := takeWhile_len onB s (a + 1); omega))
  obtain ⟨E, hE⟩ : ∃ E, E = a + 1 + ((s.data.toList.drop (a + 1)).takeWhile onB).length := ⟨_, rfl⟩
  have hle := takeWhile_len onB s (a + 1)
  have hT : (⟨((s.data.toList.drop (a + 1)).takeWhile onB).toArray⟩ : ByteArray) = s.extract (a + 1) E := by
    rw [extract_eq, show E - (a + 1) = ((s.data.toList.drop (a + 1)).takeWhile onB).length by omega, takeWhile_take]
  rw [← hE, show ((a + 1 : Nat) : Int) = (a : Int) + 1 by omega] at KR
  rw [← hE]
  unfold namedT
  have hlen : a + 1 ≤ E ∧ E ≤ s.size := by omega
  generalize (s.data.toList.drop (a + 1)).takeWhile onB = t at KN hT ⊢
  generalize (s.data.toList.drop (a + 1)).dropWhile onB = rest
  rw [hT] at KN
  have i1 : (a : Int) + 1 ≤ (E : Int) := by omega
  have i2 : (E : Int) ≤ (s.size : Int) := by omega
  have i3 : (s.size : Int) ≤ 1000000 := by omega
  have i4 : ((a : Int) + 1).toNat = a + 1 := by omega
  have ha' : (a : Int) < (s.size : Int) := by omega
  have q63 : ((s[a].toNat : Int) == 63) = true := by rw [hc]; rfl
  have q39 : ((s[a].toNat : Int) == 39) = false := by rw [hc]; rfl
  obtain ⟨z, hz⟩ : ∃ z : ByteArray, z = s.extract (a + 1) E := ⟨_, rfl⟩
  rw [← hz] at hT KN
  have W1B : Hid (Below w.heap.size w ((w.alloc (.cells lexC 41)).alloc (.cells #[.int .u8 3, .string z, .int .i64 (a : Int)] 41))) := below_new (below_own _) _
  have HL4 : Hid (((w.alloc (.cells lexC 41)).alloc (.cells #[.int .u8 3, .string z, .int .i64 (a : Int)] 41)).heap[w.heap.size]? = some (.cells lexC 41 (0, 0))) := (Below.heap_alloc _ _ _ (by simp)).trans (heap_alloc_new w _)
  have HL9 : Hid (((w.alloc (.cells lexC 41)).alloc (.cells #[.int .u8 3, .string z, .int .i64 (a : Int)] 41)).heap[w.heap.size + 1]? = some (.cells #[.int .u8 3, .string z, .int .i64 (a : Int)] 41 (0, 0))) := by
    have := heap_alloc_new (w.alloc (.cells lexC 41)) (.cells #[.int .u8 3, .string z, .int .i64 (a : Int)] 41)
    rwa [World.size_alloc] at this
  have c0 : ((w.alloc (.cells lexC 41)).alloc (.cells #[.int .u8 3, .string z, .int .i64 (a : Int)] 41)).cell? ⟨w.heap.size, 0, none⟩ = some (.int .u8 0) := Lib.cell_of_heap HL4.out 0
  have c1 : ((w.alloc (.cells lexC 41)).alloc (.cells #[.int .u8 3, .string z, .int .i64 (a : Int)] 41)).cell? ⟨w.heap.size, 1, none⟩ = some (.string ⟨#[]⟩) := Lib.cell_of_heap HL4.out 1
  have c2 : ((w.alloc (.cells lexC 41)).alloc (.cells #[.int .u8 3, .string z, .int .i64 (a : Int)] 41)).cell? ⟨w.heap.size, 2, none⟩ = some (.int .i64 0) := Lib.cell_of_heap HL4.out 2
  have hz' : s.extract (a + 1) E = z := hz.symm
  cases hb : nameB t with
  | true =>
    rw [hb] at KN
    have hR : rtV (tkOf 3 t rest true) a E = .tuple #[.agg #[.int .u8 3, .string z, .int .i64 (a : Int)], .int .i64 (E : Int), .int .i64 0] := by
      rw [← hT]
      rfl
    rw [hR]
    clear hR hT hlen hE hle hc hm hz hb
    go_enter Tryd.func19, Tryd.ntmps19
    go_wp2_with (first
      | (go_at_call 25; refine (KL.out _).mono ?_; rintro e w' ⟨rfl, rfl⟩)
      | (go_at_call 26; refine (KR.out _).mono ?_; rintro e w' ⟨rfl, rfl⟩)
      | (go_at_call 28; refine (KN.out _).mono ?_; rintro e w' ⟨rfl, rfl⟩))
    obtain ⟨e0, e1, e2⟩ := lex2 w #[.int .u8 3, .string z, .int .i64 (a : Int)] (.cells #[.int .u8 3, .string z, .int .i64 (a : Int)] 41) _ _ _ rfl rfl rfl
    exact bodyPost_ret (v := .tuple #[.agg #[.int .u8 3, .string z, .int .i64 (a : Int)], .int .i64 (E : Int), .int .i64 0]) (by simp [results, Tryd.results19, go_sem, e0, e1, e2]) rfl ⟨rfl, below_new (below_own _) _⟩
  | false =>
    rw [hb] at KN
    show Calls _ _ _ _ fun e w' => e = .returned (.tuple #[.agg #[.int .u8 0, .string ⟨#[]⟩, .int .i64 0], .int .i64 0, .int .i64 201]) ∧ Below w.heap.size w w'
    clear hT hlen hE hle hc hm hz hb
    go_enter Tryd.func19, Tryd.ntmps19
    go_wp2_with (first
      | (go_at_call 25; refine (KL.out _).mono ?_; rintro e w' ⟨rfl, rfl⟩)
      | (go_at_call 26; refine (KR.out _).mono ?_; rintro e w' ⟨rfl, rfl⟩)
      | (go_at_call 28; refine (KN.out _).mono ?_; rintro e w' ⟨rfl, rfl⟩))
    obtain ⟨e0, e1, e2⟩ := lex2 w lexC (.cells #[.int .u8 3, .string z, .int .i64 (a : Int)] 41) _ _ _ rfl rfl rfl
    exact bodyPost_ret (v := .tuple #[.agg #[.int .u8 0, .string ⟨#[]⟩, .int .i64 0], .int .i64 0, .int .i64 201]) (by simp [results, Tryd.results19, go_sem, e0, e1, e2]) rfl ⟨rfl, below_new (below_own _) _⟩

set_option maxRecDepth 100000 in
set_option maxHeartbeats 4000000 in
theorem refTok_atom (s : ByteArray) (hm : s.size ≤ 1000000) (a : Nat) (ha : a < s.size) (w : World) (hc : s[a].toNat = 39) :
    Calls Tryd.prog 19 #[.string s, .int .i64 a] w fun e w' => e = .returned (rtV (namedT 5 (s.data.toList.drop (a + 1))) a (a + 1 + ((s.data.toList.drop (a + 1)).takeWhile onB).length)) ∧ Below w.heap.size w w' := by
  have KL := Lib.hid (fun w => refLow_any s[a] w)
  rw [show lowB s[a] = false by unfold lowB; rw [hc]; rfl] at KL
  have KR := Lib.hid (fun w => refRun_any (a + 1) s hm ha w)
  have KN := Lib.hid (fun w => refNamed_tok (s.data.toList.drop (a + 1)) w (by have := takeWhile_len onB s (a + 1); omega))
  obtain ⟨E, hE⟩ : ∃ E, E = a + 1 + ((s.data.toList.drop (a + 1)).takeWhile onB).length := ⟨_, rfl⟩
  have hle := takeWhile_len onB s (a + 1)
  have hT : (⟨((s.data.toList.drop (a + 1)).takeWhile onB).toArray⟩ : ByteArray) = s.extract (a + 1) E := by
    rw [extract_eq, show E - (a + 1) = ((s.data.toList.drop (a + 1)).takeWhile onB).length by omega, takeWhile_take]
  rw [← hE, show ((a + 1 : Nat) : Int) = (a : Int) + 1 by omega] at KR
  rw [← hE]
  unfold namedT
  have hlen : a + 1 ≤ E ∧ E ≤ s.size := by omega
  generalize (s.data.toList.drop (a + 1)).takeWhile onB = t at KN hT ⊢
  generalize (s.data.toList.drop (a + 1)).dropWhile onB = rest
  rw [hT] at KN
  have i1 : (a : Int) + 1 ≤ (E : Int) := by omega
  have i2 : (E : Int) ≤ (s.size : Int) := by omega
  have i3 : (s.size : Int) ≤ 1000000 := by omega
  have i4 : ((a : Int) + 1).toNat = a + 1 := by omega
  have ha' : (a : Int) < (s.size : Int) := by omega
  have q63 : ((s[a].toNat : Int) == 63) = false := by rw [hc]; rfl
  have q39 : ((s[a].toNat : Int) == 39) = true := by rw [hc]; rfl
  obtain ⟨z, hz⟩ : ∃ z : ByteArray, z = s.extract (a + 1) E := ⟨_, rfl⟩
  rw [← hz] at hT KN
  have W1B : Hid (Below w.heap.size w ((w.alloc (.cells lexC 41)).alloc (.cells #[.int .u8 3, .string z, .int .i64 (a : Int)] 41))) := below_new (below_own _) _
  have HL4 : Hid (((w.alloc (.cells lexC 41)).alloc (.cells #[.int .u8 3, .string z, .int .i64 (a : Int)] 41)).heap[w.heap.size]? = some (.cells lexC 41 (0, 0))) := (Below.heap_alloc _ _ _ (by simp)).trans (heap_alloc_new w _)
  have HL9 : Hid (((w.alloc (.cells lexC 41)).alloc (.cells #[.int .u8 3, .string z, .int .i64 (a : Int)] 41)).heap[w.heap.size + 1]? = some (.cells #[.int .u8 3, .string z, .int .i64 (a : Int)] 41 (0, 0))) := by
    have := heap_alloc_new (w.alloc (.cells lexC 41)) (.cells #[.int .u8 3, .string z, .int .i64 (a : Int)] 41)
    rwa [World.size_alloc] at this
  have c0 : ((w.alloc (.cells lexC 41)).alloc (.cells #[.int .u8 3, .string z, .int .i64 (a : Int)] 41)).cell? ⟨w.heap.size, 0, none⟩ = some (.int .u8 0) := Lib.cell_of_heap HL4.out 0
  have c1 : ((w.alloc (.cells lexC 41)).alloc (.cells #[.int .u8 3, .string z, .int .i64 (a : Int)] 41)).cell? ⟨w.heap.size, 1, none⟩ = some (.string ⟨#[]⟩) := Lib.cell_of_heap HL4.out 1
  have c2 : ((w.alloc (.cells lexC 41)).alloc (.cells #[.int .u8 3, .string z, .int .i64 (a : Int)] 41)).cell? ⟨w.heap.size, 2, none⟩ = some (.int .i64 0) := Lib.cell_of_heap HL4.out 2
  have hz' : s.extract (a + 1) E = z := hz.symm
  cases hb : nameB t with
  | true =>
    rw [hb] at KN
    have hR : rtV (tkOf 5 t rest true) a E = .tuple #[.agg #[.int .u8 5, .string z, .int .i64 (a : Int)], .int .i64 (E : Int), .int .i64 0] := by
      rw [← hT]
      rfl
    rw [hR]
    clear hR hT hlen hE hle hc hm hz hb
    go_enter Tryd.func19, Tryd.ntmps19
    go_wp2_with (first
      | (go_at_call 25; refine (KL.out _).mono ?_; rintro e w' ⟨rfl, rfl⟩)
      | (go_at_call 26; refine (KR.out _).mono ?_; rintro e w' ⟨rfl, rfl⟩)
      | (go_at_call 28; refine (KN.out _).mono ?_; rintro e w' ⟨rfl, rfl⟩))
    obtain ⟨e0, e1, e2⟩ := lex2 w #[.int .u8 5, .string z, .int .i64 (a : Int)] (.cells #[.int .u8 5, .string z, .int .i64 (a : Int)] 41) _ _ _ rfl rfl rfl
    exact bodyPost_ret (v := .tuple #[.agg #[.int .u8 5, .string z, .int .i64 (a : Int)], .int .i64 (E : Int), .int .i64 0]) (by simp [results, Tryd.results19, go_sem, e0, e1, e2]) rfl ⟨rfl, below_new (below_own _) _⟩
  | false =>
    rw [hb] at KN
    show Calls _ _ _ _ fun e w' => e = .returned (.tuple #[.agg #[.int .u8 0, .string ⟨#[]⟩, .int .i64 0], .int .i64 0, .int .i64 201]) ∧ Below w.heap.size w w'
    clear hT hlen hE hle hc hm hz hb
    go_enter Tryd.func19, Tryd.ntmps19
    go_wp2_with (first
      | (go_at_call 25; refine (KL.out _).mono ?_; rintro e w' ⟨rfl, rfl⟩)
      | (go_at_call 26; refine (KR.out _).mono ?_; rintro e w' ⟨rfl, rfl⟩)
      | (go_at_call 28; refine (KN.out _).mono ?_; rintro e w' ⟨rfl, rfl⟩))
    obtain ⟨e0, e1, e2⟩ := lex2 w lexC (.cells #[.int .u8 5, .string z, .int .i64 (a : Int)] 41) _ _ _ rfl rfl rfl
    exact bodyPost_ret (v := .tuple #[.agg #[.int .u8 0, .string ⟨#[]⟩, .int .i64 0], .int .i64 0, .int .i64 201]) (by simp [results, Tryd.results19, go_sem, e0, e1, e2]) rfl ⟨rfl, below_new (below_own _) _⟩
end Go.Proofs.YtebfclanamoldaaDoor
