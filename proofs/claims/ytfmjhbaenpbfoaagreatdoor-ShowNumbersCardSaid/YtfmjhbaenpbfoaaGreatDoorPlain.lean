/- The document's words for scan, as plain functions of lists of bytes: nothing of the program. -/
import Derived.Lib.Hide
namespace Go.Proofs.YtfmjhbaenpbfoaaGreatDoor

abbrev Bs := List UInt8
def lowB (c : UInt8) : Bool := decide (97 ≤ c.toNat) && decide (c.toNat ≤ 122)
def digB (c : UInt8) : Bool := decide (48 ≤ c.toNat) && decide (c.toNat ≤ 57)
def onB (c : UInt8) : Bool := lowB c || digB c || decide (c.toNat = 95)
def lowOnB (c : UInt8) : Bool := lowB c || decide (c.toNat = 95)
def blankB (c : UInt8) : Bool := decide (c.toNat = 9) || decide (c.toNat = 10) || decide (c.toNat = 13) || decide (c.toNat = 32)
def hashB (c : UInt8) : Bool := decide (c.toNat = 35)
def lineB (c : UInt8) : Bool := decide (c.toNat ≠ 10)

/-- Does a byte of the set stand next? -/
def nextB (P : UInt8 → Bool) : Bs → Bool
  | [] => false
  | c :: _ => P c

/-- What is left behind blanks and comments (true: within a comment). -/
def skipS : Bool → Bs → Bs
  | _, [] => []
  | true, c :: l => if lineB c then skipS true l else skipS false l
  | false, c :: l => if blankB c then skipS false l else if hashB c then skipS true l else c :: l

def wordsB : List Bs := [[102, 97, 99, 116], [114, 117, 108, 101], [115, 97, 108, 105, 101, 110, 99, 101], [110, 111, 116], [116, 101, 115, 116], [97, 115, 115, 101, 114, 116], [114, 101, 116, 114, 97, 99, 116], [115, 97, 121], [104, 97, 108, 116], [97, 110, 100], [111, 114]]
def signsB : List Bs := [[61, 62], [33, 61], [60, 61], [62, 61], [40], [41], [123], [125], [44], [59], [61], [60], [62], [43], [45], [42], [95]]

def numV : Nat → Bs → Nat
  | n, [] => n
  | n, c :: l => numV (10 * n + (c.toNat - 48)) l
def numB (t : Bs) : Bool := !t.isEmpty && t.all digB && decide (numV 0 t ≤ 9223372036854775807)
def nameB (t : Bs) : Bool := nextB lowB t && decide (t.length ≤ 24)

/-- A token, or a fault: the error (0: none), the kind, the text; and what is left. -/
structure Tk where
  err : Int
  kind : Int
  text : Bs
  rest : Bs
def tkBad (rest : Bs) (e : Int) : Tk := ⟨e, 0, [], rest⟩
def tkOf (k : Int) (t rest : Bs) (right : Bool) : Tk := if right then ⟨0, k, t, rest⟩ else tkBad rest 201

def wordT (l : Bs) : Tk := if wordsB.contains (l.takeWhile onB) then tkOf 1 (l.takeWhile onB) (l.dropWhile onB) true else tkOf 2 (l.takeWhile onB) (l.dropWhile onB) (nameB (l.takeWhile onB))
def namedT (k : Int) (l : Bs) : Tk := tkOf k (l.takeWhile onB) (l.dropWhile onB) (nameB (l.takeWhile onB))
def numberT (l : Bs) : Tk := tkOf 4 (l.takeWhile digB) (l.dropWhile digB) (numB (l.takeWhile digB) && !nextB lowOnB (l.dropWhile digB))
def signT (l : Bs) : Tk :=
  match signsB.find? (fun t => t.isPrefixOf l) with
  | some t => tkOf 6 t (l.drop t.length) true
  | none => tkBad l 200
/-- The token that stands next, blanks and comments gone by. -/
def tokT : Bs → Tk
  | [] => ⟨0, 7, [], []⟩
  | c :: l => if lowB c then wordT (c :: l) else if decide (c.toNat = 63) then namedT 3 l else if decide (c.toNat = 39) then namedT 5 l else if digB c then numberT (c :: l) else signT (c :: l)

/-- All tokens of what is left, by their places in a source of N bytes; or the first fault. -/
structure Lx where
  kind : Int
  text : Bs
  at' : Nat
inductive Scanned
  | ok (l : List Lx)
  | bad (err : Int) (at' : Nat)
def Scanned.cons (x : Lx) : Scanned → Scanned
  | .ok l => .ok (x :: l)
  | .bad e a => .bad e a
def scanF (N : Nat) : Nat → Bs → Scanned
  | 0, _ => .ok []
  | f + 1, l =>
    let t := tokT (skipS false l)
    let a := N - (skipS false l).length
    if t.err = 0 then (if t.kind = 7 then .ok [⟨7, [], a⟩] else (scanF N f t.rest).cons ⟨t.kind, t.text, a⟩) else .bad t.err a
def scanP (l : Bs) : Scanned := if l.length ≤ 16384 then scanF l.length (l.length + 1) l else .bad 3 0

theorem skipS_len (b : Bool) (l : Bs) : (skipS b l).length ≤ l.length := by
  induction l generalizing b with
  | nil => cases b <;> simp [skipS]
  | cons c l ih =>
    have h1 := ih true
    have h2 := ih false
    cases b <;> simp only [skipS, List.length_cons] <;> split
    · omega
    · split
      · omega
      · simp
    · omega
    · omega

theorem skipS_blank (l : Bs) : skipS false (l.dropWhile blankB) = skipS false l := by
  induction l with
  | nil => rfl
  | cons c l ih =>
    cases h : blankB c with
    | true => rw [List.dropWhile_cons_of_pos h, ih]; simp [skipS, h]
    | false => rw [List.dropWhile_cons_of_neg (by simp [h])]
theorem skipS_line (l : Bs) : skipS true l = skipS false (l.dropWhile lineB) := by
  induction l with
  | nil => rfl
  | cons c l ih =>
    cases h : lineB c with
    | true => rw [List.dropWhile_cons_of_pos h, ← ih]; simp [skipS, h]
    | false =>
      rw [List.dropWhile_cons_of_neg (by simp [h])]
      have hb : blankB c = true := by
        have : c.toNat = 10 := by simpa [lineB] using h
        simp [blankB, this]
      simp [skipS, h, hb]
theorem skipS_hash (c : UInt8) (l : Bs) (h : hashB c = true) : skipS false (c :: l) = skipS false ((c :: l).dropWhile lineB) := by
  have hc : c.toNat = 35 := by simpa [hashB] using h
  have hb : blankB c = false := by simp [blankB, hc]
  have hl : lineB c = true := by simp [lineB, hc]
  rw [List.dropWhile_cons_of_pos hl, ← skipS_line]
  simp [skipS, hb, h]
/-- Neither blank nor # stands next: nothing goes by. -/
theorem skipS_stop (l : Bs) (h1 : nextB blankB l = false) (h2 : nextB hashB l = false) : skipS false l = l := by
  cases l with
  | nil => rfl
  | cons c l =>
    have h1' : blankB c = false := h1
    have h2' : hashB c = false := h2
    simp [skipS, h1', h2']
theorem next_dropWhile (P : UInt8 → Bool) (l : Bs) : nextB P (l.dropWhile P) = false := by
  induction l with
  | nil => rfl
  | cons c l ih =>
    cases h : P c with
    | true => rw [List.dropWhile_cons_of_pos h]; exact ih
    | false => rw [List.dropWhile_cons_of_neg (by simp [h])]; exact h
theorem takeDrop_len (P : UInt8 → Bool) (l : Bs) : (l.takeWhile P).length + (l.dropWhile P).length = l.length := by
  have := congrArg List.length (List.takeWhile_append_dropWhile (p := P) (l := l))
  rwa [List.length_append] at this
theorem takeWhile_take (P : UInt8 → Bool) (l : Bs) : l.take (l.takeWhile P).length = l.takeWhile P := by
  have h := (List.takeWhile_append_dropWhile (p := P) (l := l)).symm
  calc l.take (l.takeWhile P).length = (l.takeWhile P ++ l.dropWhile P).take (l.takeWhile P).length := by rw [← h]
    _ = l.takeWhile P := by rw [List.take_left']; rfl
theorem dropWhile_drop (P : UInt8 → Bool) (l : Bs) : l.drop (l.takeWhile P).length = l.dropWhile P := by
  have h := (List.takeWhile_append_dropWhile (p := P) (l := l)).symm
  calc l.drop (l.takeWhile P).length = (l.takeWhile P ++ l.dropWhile P).drop (l.takeWhile P).length := by rw [← h]
    _ = l.dropWhile P := by rw [List.drop_left']; rfl
end Go.Proofs.YtfmjhbaenpbfoaaGreatDoor
