/- Plain facts on code: its pieces, its instructions, the machine that puts terms together from them, and how high its stack is. Nothing of the program. -/
import Derived.Test.YtdfanconjiiceaaDoorTmD
namespace Go.Proofs.YtdfanconjiiceaaDoor

/-- An instruction: a digit, a variable, a sign with a part, a sign between two, the beginning of a loop, its end. -/
inductive Ins where
  | dig (c : Int)
  | var (c : Int)
  | pre (c : Int)
  | two (c : Int)
  | beg (c v : Int)
  | fin (c : Int)

def ins1 (c : Int) : Option Ins :=
  if isD c = true then some (.dig c) else if isV c = true then some (.var c) else if isP c = true then some (.pre c)
  else if isB c = true then some (.two c) else if c = 93 ∨ c = 125 then some (.fin c) else none

/-- The instruction with a text. -/
def insOf (x : ByteArray) : Option Ins :=
  if x.size = 1 then ins1 (ba x 0)
  else if x.size = 2 ∧ (ba x 0 = 91 ∨ ba x 0 = 123) ∧ isL (ba x 1) = true then some (.beg (ba x 0) (ba x 1)) else none

/-- A loop that has begun, and the terms that wait outside of it (the last one first). -/
structure Out where
  c : Int
  v : Int
  over : Tm
  low : List Tm

/-- The machine: the terms within the innermost loop (the last one first), and the loops that have begun (the innermost first). -/
abbrev MS := List Tm × List Out

def step : Ins → MS → Option MS
  | .dig c, (ts, os) => some (.dig c :: ts, os)
  | .var c, (ts, os) => some (.var c :: ts, os)
  | .pre c, (x :: ts, os) => some (.pre c x :: ts, os)
  | .pre _, ([], _) => none
  | .two c, (y :: x :: ts, os) => some (.two c x y :: ts, os)
  | .two _, ([_], _) => none
  | .two _, ([], _) => none
  | .beg c v, (x :: ts, os) => some ([], ⟨c, v, x, ts⟩ :: os)
  | .beg _ _, ([], _) => none
  | .fin c, ([y], o :: os) => if o.c + 2 = c then some (.loop o.c o.v o.over y :: o.low, os) else none
  | .fin _, ([], _) => none
  | .fin _, (_ :: _ :: _, _) => none
  | .fin _, ([_], []) => none

def stepB (x : ByteArray) (m : MS) : Option MS := match insOf x with
  | none => none
  | some i => step i m

def runB : List ByteArray → MS → Option MS
  | [], m => some m
  | x :: l, m => match stepB x m with
    | none => none
    | some m' => runB l m'

theorem runB_append : ∀ (l k : List ByteArray) (m : MS), runB (l ++ k) m = match runB l m with | none => none | some m' => runB k m'
  | [], _, _ => rfl
  | x :: l, k, m => by
    simp only [List.cons_append, runB]
    cases stepB x m with
    | none => rfl
    | some m' => exact runB_append l k m'
theorem runB_snoc {l : List ByteArray} {x : ByteArray} {m m' : MS} (h : runB l m = some m') : runB (l ++ [x]) m = stepB x m' := by
  rw [runB_append, h]
  simp only [runB]
  cases stepB x m' <;> rfl
theorem runB_snoc_none {l : List ByteArray} {x : ByteArray} {m m' : MS} (h : runB l m = some m') (hx : stepB x m' = none) (k : List ByteArray) (hp : l ++ [x] <+: k) : runB k m = none := by
  obtain ⟨r, rfl⟩ := hp
  rw [runB_append, runB_snoc h, hx]

/-- The pieces of a text between spaces. -/
def cutF (s : ByteArray) : Nat → Nat → Nat → List ByteArray
  | 0, _, _ => []
  | f + 1, p, i => if i = s.size ∨ ba s i = 32 then s.extract p i :: cutF s f (i + 1) (i + 1) else cutF s f p (i + 1)
def cutB (s : ByteArray) : List ByteArray := cutF s (s.size + 1) 0 0

theorem cutF_len (s : ByteArray) : ∀ (f p i : Nat), (cutF s f p i).length ≤ f
  | 0, _, _ => Nat.le_refl _
  | f + 1, p, i => by
    unfold cutF
    split
    · have := cutF_len s f (i + 1) (i + 1); simp only [List.length_cons]; omega
    · have := cutF_len s f p (i + 1); omega
theorem cutB_len (s : ByteArray) : (cutB s).length ≤ s.size + 1 := cutF_len _ _ _ _
theorem cutF_yes {s : ByteArray} {f p i : Nat} (h : i = s.size ∨ ba s i = 32) : cutF s (f + 1) p i = s.extract p i :: cutF s f (i + 1) (i + 1) := by rw [cutF, if_pos h]
theorem cutF_no {s : ByteArray} {f p i : Nat} (h1 : i ≠ s.size) (h2 : ba s i ≠ 32) : cutF s (f + 1) p i = cutF s f p (i + 1) := by rw [cutF, if_neg (by rintro (h | h) <;> omega)]

/-- A piece that ends at a place. -/
theorem cutF_run {s : ByteArray} {p : Nat} : ∀ (k i f : Nat), (∀ j, j < k → i + j ≠ s.size ∧ ba s (i + j) ≠ 32) → cutF s (f + k) p i = cutF s f p (i + k)
  | 0, i, f, _ => rfl
  | k + 1, i, f, h => by
    rw [show f + (k + 1) = (f + k) + 1 from by omega, cutF_no (by have := (h 0 (by omega)).1; omega) (by have := (h 0 (by omega)).2; simpa using this), cutF_run k (i + 1) f (fun j hj => by
      have := h (j + 1) (by omega)
      rw [show i + 1 + j = i + (j + 1) from by omega]; exact this)]
    congr 1
    omega

/-- How high the stack of the machine is, and how many terms wait outside of the innermost loop. -/
def low : List Out → List Tm
  | [] => []
  | o :: os => low os ++ (o.low.reverse ++ [o.over])
def flatS (m : MS) : List Tm := low m.2 ++ m.1.reverse
def hgt (m : MS) : Nat := (flatS m).length
theorem hgt_eq (m : MS) : hgt m = (low m.2).length + m.1.length := by simp [hgt, flatS]

def grow : Ins → Int
  | .dig _ => 1
  | .var _ => 1
  | .two _ => -1
  | .fin _ => -1
  | _ => 0

theorem step_hgt {i : Ins} {m m' : MS} (h : step i m = some m') : (hgt m' : Int) = hgt m + grow i := by
  rw [hgt_eq, hgt_eq]
  obtain ⟨ts, os⟩ := m
  cases i with
  | dig c => cases h; simp [grow]; omega
  | var c => cases h; simp [grow]; omega
  | pre c =>
    cases ts with
    | nil => cases h
    | cons x ts => cases h; simp [grow]
  | two c =>
    cases ts with
    | nil => cases h
    | cons y ts =>
      cases ts with
      | nil => cases h
      | cons x ts => cases h; simp [grow]; omega
  | beg c v =>
    cases ts with
    | nil => cases h
    | cons x ts => cases h; simp [grow, low]
  | fin c =>
    cases ts with
    | nil => cases h
    | cons y ts =>
      cases ts with
      | cons x ts => cases h
      | nil =>
        cases os with
        | nil => cases h
        | cons o os =>
          simp only [step] at h
          split at h
          · cases h; simp [grow, low]; omega
          · cases h

/-- Within how many loops an instruction lies. -/
def levD : Ins → Int
  | .beg _ _ => 1
  | .fin _ => -1
  | _ => 0
theorem step_lev {i : Ins} {m m' : MS} (h : step i m = some m') : (m'.2.length : Int) = m.2.length + levD i := by
  obtain ⟨ts, os⟩ := m
  cases i with
  | dig c => cases h; simp [levD]
  | var c => cases h; simp [levD]
  | pre c =>
    cases ts with
    | nil => cases h
    | cons x ts => cases h; simp [levD]
  | two c =>
    cases ts with
    | nil => cases h
    | cons y ts =>
      cases ts with
      | nil => cases h
      | cons x ts => cases h; simp [levD]
  | beg c v =>
    cases ts with
    | nil => cases h
    | cons x ts => cases h; simp [levD]
  | fin c =>
    cases ts with
    | nil => cases h
    | cons y ts =>
      cases ts with
      | cons x ts => cases h
      | nil =>
        cases os with
        | nil => cases h
        | cons o os =>
          simp only [step] at h
          split at h
          · cases h; simp [levD]; omega
          · cases h

/-- The terms of the machine are terms, and their texts are not long. -/
def Out.Ok (o : Out) : Prop := (o.c = 91 ∨ o.c = 123) ∧ isL o.v = true ∧ o.over.Ok ∧ ∀ t ∈ o.low, t.Ok
def MOk (m : MS) : Prop := (∀ t ∈ m.1, t.Ok) ∧ ∀ o ∈ m.2, o.Ok
def Ins.Ok : Ins → Prop
  | .dig c => isD c = true
  | .var c => isV c = true
  | .pre c => isP c = true
  | .two c => isB c = true
  | .beg c v => (c = 91 ∨ c = 123) ∧ isL v = true
  | .fin c => c = 93 ∨ c = 125
theorem ins1_ok {c : Int} {i : Ins} (h : ins1 c = some i) : i.Ok := by
  unfold ins1 at h
  (repeat' split at h) <;> first | (cases h; assumption) | cases h
theorem insOf_ok {x : ByteArray} {i : Ins} (h : insOf x = some i) : i.Ok := by
  unfold insOf at h
  split at h
  · exact ins1_ok h
  · split at h
    · rename_i h2; cases h; exact ⟨h2.2.1, h2.2.2⟩
    · cases h
theorem step_ok {i : Ins} {m m' : MS} (hi : i.Ok) (hm : MOk m) (h : step i m = some m') : MOk m' := by
  obtain ⟨ts, os⟩ := m
  obtain ⟨h1, h2⟩ := hm
  cases i with
  | dig c => cases h; exact ⟨by simpa using ⟨hi, h1⟩, h2⟩
  | var c => cases h; exact ⟨by simpa using ⟨hi, h1⟩, h2⟩
  | pre c =>
    cases ts with
    | nil => cases h
    | cons x ts => cases h; simp only [List.mem_cons, forall_eq_or_imp] at h1; exact ⟨by simp only [List.mem_cons, forall_eq_or_imp]; exact ⟨⟨hi, h1.1⟩, h1.2⟩, h2⟩
  | two c =>
    cases ts with
    | nil => cases h
    | cons y ts =>
      cases ts with
      | nil => cases h
      | cons x ts => cases h; simp only [List.mem_cons, forall_eq_or_imp] at h1; exact ⟨by simp only [List.mem_cons, forall_eq_or_imp]; exact ⟨⟨hi, h1.2.1, h1.1⟩, h1.2.2⟩, h2⟩
  | beg c v =>
    cases ts with
    | nil => cases h
    | cons x ts => cases h; simp only [List.mem_cons, forall_eq_or_imp] at h1; exact ⟨by simp, by simp only [List.mem_cons, forall_eq_or_imp]; exact ⟨⟨hi.1, hi.2, h1.1, h1.2⟩, h2⟩⟩
  | fin c =>
    cases ts with
    | nil => cases h
    | cons y ts =>
      cases ts with
      | cons x ts => cases h
      | nil =>
        cases os with
        | nil => cases h
        | cons o os =>
          simp only [step] at h
          split at h
          · cases h
            simp only [List.mem_cons, forall_eq_or_imp] at h1 h2
            exact ⟨by simp only [List.mem_cons, forall_eq_or_imp]; exact ⟨⟨h2.1.1, h2.1.2.1, h2.1.2.2.1, h1.1⟩, h2.1.2.2.2⟩, h2.2⟩
          · cases h

def wts : List Tm → Nat
  | [] => 0
  | t :: l => t.txt.length + wts l
def wto : List Out → Nat
  | [] => 0
  | o :: os => o.over.txt.length + wts o.low + wto os
theorem step_wt {i : Ins} {m m' : MS} (h : step i m = some m') : wts m'.1 + wto m'.2 ≤ wts m.1 + wto m.2 + 6 := by
  obtain ⟨ts, os⟩ := m
  cases i with
  | dig c => cases h; simp [wts, Tm.txt]; omega
  | var c => cases h; simp [wts, Tm.txt]; omega
  | pre c =>
    cases ts with
    | nil => cases h
    | cons x ts => cases h; simp [wts, Tm.txt]; omega
  | two c =>
    cases ts with
    | nil => cases h
    | cons y ts =>
      cases ts with
      | nil => cases h
      | cons x ts => cases h; simp [wts, Tm.txt]; omega
  | beg c v =>
    cases ts with
    | nil => cases h
    | cons x ts => cases h; simp [wts, wto]
  | fin c =>
    cases ts with
    | nil => cases h
    | cons y ts =>
      cases ts with
      | cons x ts => cases h
      | nil =>
        cases os with
        | nil => cases h
        | cons o os =>
          simp only [step] at h
          split at h
          · cases h; simp [wts, wto, Tm.txt]; omega
          · cases h

/-- What is known of the machine behind some pieces. -/
structure Told7 (n : Nat) (m : MS) : Prop where
  ok : MOk m
  wt : wts m.1 + wto m.2 ≤ 6 * n
  hg : hgt m ≤ n
  lv : m.2.length ≤ n
theorem told7_nil : Told7 0 ([], []) := ⟨⟨by simp, by simp⟩, by simp [wts, wto], by simp [hgt, flatS, low], by simp⟩
theorem Told7.step {n : Nat} {m m' : MS} {x : ByteArray} (h : Told7 n m) (hs : stepB x m = some m') : Told7 (n + 1) m' := by
  unfold stepB at hs
  cases hi : insOf x with
  | none => rw [hi] at hs; cases hs
  | some i =>
    rw [hi] at hs
    have h1 := step_wt hs
    have h2 := step_hgt hs
    have h3 := step_lev hs
    refine ⟨step_ok (insOf_ok hi) h.ok hs, by have := h.wt; omega, ?_, ?_⟩
    · have := h.hg
      have : grow i ≤ 1 := by cases i <;> simp [grow]
      omega
    · have := h.lv
      have : levD i ≤ 1 := by cases i <;> simp [levD]
      omega
theorem runB_told : ∀ (l : List ByteArray) (n : Nat) (m m' : MS), Told7 n m → runB l m = some m' → Told7 (n + l.length) m'
  | [], n, m, m', h, hr => by cases hr; exact h
  | x :: l, n, m, m', h, hr => by
    simp only [runB] at hr
    cases hs : stepB x m with
    | none => rw [hs] at hr; cases hr
    | some m1 =>
      rw [hs] at hr
      have := runB_told l (n + 1) m1 m' (h.step hs) hr
      rw [show n + (x :: l).length = n + 1 + l.length from by simp; omega]
      exact this

/-- The term that the machine has at the end. -/
def whole : MS → Option Tm
  | ([t], []) => some t
  | _ => none

/-- The term of code. -/
def codeT (s : ByteArray) : Option Tm := if 200 < s.size then none else match runB (cutB s) ([], []) with
  | none => none
  | some m => match whole m with
    | none => none
    | some t => if t.txt.length ≤ 80 then some t else none

theorem whole_told {s : ByteArray} {m : MS} {t : Tm} (hs : s.size ≤ 200) (hr : runB (cutB s) ([], []) = some m) (hw : whole m = some t) : t.Ok ∧ t.txt.length ≤ 1206 := by
  have h := runB_told _ 0 _ _ told7_nil hr
  have hl := cutB_len s
  unfold whole at hw
  split at hw
  · cases hw
    refine ⟨h.ok.1 t (by simp), ?_⟩
    have := h.wt
    simp [wts, wto] at this
    omega
  · cases hw

/-- The heights and levels that are told along the pieces. -/
def htsB : List ByteArray → MS → List Int
  | [], _ => []
  | x :: l, m => match stepB x m with
    | none => []
    | some m' => (hgt m' : Int) :: htsB l m'
def lvsB : List ByteArray → MS → List Int
  | [], _ => []
  | x :: l, m => match stepB x m with
    | none => []
    | some m' => (min m.2.length m'.2.length : Nat) :: lvsB l m'
theorem htsB_snoc : ∀ (l : List ByteArray) (x : ByteArray) (m m1 m' : MS), runB l m = some m1 → stepB x m1 = some m' → htsB (l ++ [x]) m = htsB l m ++ [(hgt m' : Int)]
  | [], x, m, m1, m', h, hx => by cases h; simp [htsB, hx]
  | y :: l, x, m, m1, m', h, hx => by
    simp only [runB] at h
    cases hs : stepB y m with
    | none => rw [hs] at h; cases h
    | some m2 =>
      rw [hs] at h
      simp only [List.cons_append, htsB, hs]
      rw [htsB_snoc l x m2 m1 m' h hx]
theorem lvsB_snoc : ∀ (l : List ByteArray) (x : ByteArray) (m m1 m' : MS), runB l m = some m1 → stepB x m1 = some m' → lvsB (l ++ [x]) m = lvsB l m ++ [((min m1.2.length m'.2.length : Nat) : Int)]
  | [], x, m, m1, m', h, hx => by cases h; simp [lvsB, hx]
  | y :: l, x, m, m1, m', h, hx => by
    simp only [runB] at h
    cases hs : stepB y m with
    | none => rw [hs] at h; cases h
    | some m2 =>
      rw [hs] at h
      simp only [List.cons_append, lvsB, hs]
      rw [lvsB_snoc l x m2 m1 m' h hx]

end Go.Proofs.YtdfanconjiiceaaDoor
