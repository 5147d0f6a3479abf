/- 7 texts in one: CodT CodLn SCodL CValP InstI CodI FStp. -/
import Derived.Test.YtdfanconjiiceaaDoorCodP
import Derived.Test.YtdfanconjiiceaaDoorCode
import Derived.Test.YtdfanconjiiceaaDoorSLstL
import Derived.Test.YtdfanconjiiceaaDoorWhole
import Derived.Test.YtdfanconjiiceaaDoorSplitI
import Derived.Test.YtdfanconjiiceaaDoorTText
import Derived.Test.YtdfanconjiiceaaDoorPr
import Derived.Deep.AppendLies
import Derived.Test.YtdfanconjiiceaaDoorTmT
import Derived.Test.YtdfanconjiiceaaDoorOwnSt
import Derived.Test.YtdfanconjiiceaaDoorOne
import Derived.Test.YtdfanconjiiceaaDoorTTerm
import Derived.Test.YtdfanconjiiceaaDoorSTerm
namespace Go.Proofs.YtdfanconjiiceaaDoor
/- CodT -/
section

def mkB (x : List UInt8) : ByteArray := ⟨x.toArray⟩
theorem mkB_data (x : List UInt8) : (mkB x).data.toList = x := by simp [mkB]
theorem mkB_size (x : List UInt8) : (mkB x).size = x.length := by simp [mkB, ByteArray.size]
theorem mkB_of (s : ByteArray) : mkB s.data.toList = s := by cases s; simp [mkB]
theorem ba_list {s : ByteArray} {i : Nat} {c : UInt8} (h : s.data.toList[i]? = some c) : ba s i = (c.toNat : Int) := by
  have hl := (List.getElem?_eq_some_iff.1 h).1
  have hs : i < s.size := by simpa using hl
  rw [ba_in hs]
  have h2 := (List.getElem?_eq_some_iff.1 h).2
  rw [← h2]
  simp
  rfl
theorem ba_mk {x : List UInt8} {i : Nat} {c : UInt8} (h : x[i]? = some c) : ba (mkB x) i = (c.toNat : Int) := ba_list (by rw [mkB_data]; exact h)
theorem byt_nat {c : Int} (h0 : 0 ≤ c) (h1 : c ≤ 255) : ((byt c).toNat : Int) = c := by
  unfold byt
  rw [UInt8.toNat_ofNat']
  omega

/-- Pieces with single spaces between them. -/
def joinR : List (List UInt8) → List UInt8
  | [] => []
  | [x] => x
  | x :: y :: xs => x ++ 32 :: joinR (y :: xs)
theorem puts_R : ∀ (xs : List (List UInt8)) (l : List UInt8), l ≠ [] → xs ≠ [] → puts l xs = l ++ 32 :: joinR xs
  | [], _, _, h => absurd rfl h
  | [x], l, hl, _ => by
    show put l x = _
    rw [put_some hl]
    simp [joinR]
  | x :: y :: xs, l, hl, _ => by
    show puts (put l x) (y :: xs) = _
    have hp : put l x ≠ [] := by rw [put_some hl]; simp
    rw [puts_R (y :: xs) _ hp (by simp), put_some hl]
    simp [joinR]
theorem puts_join : ∀ (xs : List (List UInt8)), (∀ x ∈ xs, x ≠ []) → puts [] xs = joinR xs
  | [], _ => rfl
  | [x], _ => by show put [] x = _; rw [put_none]; rfl
  | x :: y :: xs, h => by
    show puts (put [] x) (y :: xs) = _
    rw [put_none, puts_R (y :: xs) x (h x (by simp)) (by simp)]
    rfl

/-- What the texts of instructions are made of. -/
def InsTxt (x : List UInt8) : Prop := x ≠ [] ∧ x.length ≤ 2 ∧ ∀ c ∈ x, c ≠ 32
theorem byt_ne {c : Int} (h0 : 33 ≤ c) (h1 : c ≤ 255) : byt c ≠ 32 := fun e => by
  have h := byt_nat (c := c) (by omega) h1
  rw [e] at h
  have : ((32 : UInt8).toNat : Int) = 32 := by decide
  omega
theorem sgn_bd {c : Int} (h : isD c = true ∨ isV c = true ∨ isP c = true ∨ isB c = true ∨ isL c = true) : 33 ≤ c ∧ c ≤ 253 := by
  rcases h with h | h | h | h | h
  · have := isD_ge h; omega
  · have : c = 97 ∨ c = 98 ∨ 118 ≤ c ∧ c ≤ 122 := by simpa [isV] using h
    omega
  · have : c = 83 ∨ c = 77 ∨ c = 73 ∨ c = 78 ∨ c = 82 ∨ c = 67 ∨ c = 80 := by simpa [isP] using h
    omega
  · have : c = 43 ∨ c = 42 ∨ c = 94 ∨ c = 45 ∨ c = 61 ∨ c = 60 ∨ c = 64 := by simpa [isB] using h
    omega
  · have := isL_ge h; omega
theorem instxt_one {c : Int} (h0 : 33 ≤ c) (h1 : c ≤ 255) : InsTxt [byt c] := ⟨by simp, by simp, fun d hd => by rw [List.mem_singleton.1 hd]; exact byt_ne h0 h1⟩
theorem instxt_two {c v : Int} (h0 : 33 ≤ c) (h1 : c ≤ 255) (h2 : 33 ≤ v) (h3 : v ≤ 255) : InsTxt [byt c, byt v] := ⟨by simp, by simp, fun d hd => by
  rcases List.mem_cons.1 hd with rfl | hd
  · exact byt_ne h0 h1
  · rw [List.mem_singleton.1 hd]; exact byt_ne h2 h3⟩
theorem ins_txt : ∀ {t : Tm}, t.Ok → ∀ x ∈ t.ins, InsTxt x
  | .dig c, ho, x, hx => by
    have := sgn_bd (.inl ho)
    rw [List.mem_singleton.1 hx]; exact instxt_one this.1 (by omega)
  | .var c, ho, x, hx => by
    have := sgn_bd (.inr (.inl ho))
    rw [List.mem_singleton.1 hx]; exact instxt_one this.1 (by omega)
  | .pre c s, ho, x, hx => by
    have := sgn_bd (.inr (.inr (.inl ho.1)))
    simp only [Tm.ins, List.mem_append, List.mem_singleton] at hx
    rcases hx with hx | rfl
    · exact ins_txt ho.2 x hx
    · exact instxt_one this.1 (by omega)
  | .two c s t, ho, x, hx => by
    have := sgn_bd (.inr (.inr (.inr (.inl ho.1))))
    simp only [Tm.ins, List.mem_append, List.mem_singleton] at hx
    rcases hx with hx | hx | rfl
    · exact ins_txt ho.2.1 x hx
    · exact ins_txt ho.2.2 x hx
    · exact instxt_one this.1 (by omega)
  | .loop c v s t, ho, x, hx => by
    have h2 := sgn_bd (.inr (.inr (.inr (.inr ho.2.1))))
    have hc := ho.1
    simp only [Tm.ins, List.mem_append, List.mem_singleton] at hx
    rcases hx with hx | rfl | hx | rfl
    · exact ins_txt ho.2.2.1 x hx
    · exact instxt_two (by omega) (by omega) h2.1 (by omega)
    · exact ins_txt ho.2.2.2 x hx
    · exact instxt_one (by omega) (by omega)

/-- Pieces that are joined are cut apart again. -/
theorem cut_join {s : ByteArray} : ∀ (xs : List (List UInt8)) (p : Nat), xs ≠ [] → (∀ x ∈ xs, ∀ c ∈ x, c ≠ 32) → s.data.toList.drop p = joinR xs → p ≤ s.size → cutF s (s.size + 1 - p) p p = xs.map mkB
  | [], _, h, _, _, _ => absurd rfl h
  | x :: xs, p, _, hno, hd, hp => by
    have hsz : s.data.toList.length = s.size := by simp
    have hlen : (joinR (x :: xs)).length = s.size - p := by rw [← hd, List.length_drop, hsz]
    have hxl : x.length ≤ s.size - p := by
      rw [← hlen]
      cases xs with
      | nil => simp [joinR]
      | cons y ys => simp [joinR]
    have hat : ∀ j, j < x.length → s.data.toList[p + j]? = x[j]? := fun j hj => by
      rw [← List.getElem?_drop, hd]
      cases xs with
      | nil => rfl
      | cons y ys => simp only [joinR]; rw [List.getElem?_append_left hj]
    have hrun : cutF s (s.size + 1 - (p + x.length) + x.length) p p = cutF s (s.size + 1 - (p + x.length)) p (p + x.length) :=
      cutF_run x.length p _ (fun j hj => by
        obtain ⟨c, hc⟩ : ∃ c, x[j]? = some c := ⟨_, List.getElem?_eq_getElem hj⟩
        refine ⟨by omega, ?_⟩
        rw [ba_list ((hat j hj).trans hc)]
        have := hno x (by simp) c (List.mem_of_getElem? hc)
        intro e
        apply this
        have h32 : c.toNat = 32 := by omega
        exact UInt8.toNat_inj.1 (by rw [h32]; rfl))
    rw [show s.size + 1 - p = s.size + 1 - (p + x.length) + x.length from by omega, hrun, show s.size + 1 - (p + x.length) = (s.size - (p + x.length)) + 1 from by omega]
    have hext : s.extract p (p + x.length) = mkB x := by
      apply ByteArray.ext
      apply Array.toList_inj.1
      rw [mkB_data]
      apply List.ext_getElem?
      intro j
      rw [ByteArray.data_extract, Array.toList_extract]
      simp only [List.extract_eq_take_drop, List.getElem?_take, List.getElem?_drop]
      by_cases hj : j < x.length
      · rw [if_pos (by omega)]; exact hat j hj
      · rw [if_neg (by omega), List.getElem?_eq_none (by omega)]
    cases xs with
    | nil =>
      have he : p + x.length = s.size := by simp only [joinR] at hlen; omega
      rw [cutF_yes (.inl he), hext, show s.size - (p + x.length) = 0 from by omega]
      simp [cutF]
    | cons y ys =>
      have hl2 : (joinR (x :: y :: ys)).length = x.length + ((joinR (y :: ys)).length + 1) := by simp [joinR]
      have h32 : s.data.toList[p + x.length]? = some 32 := by
        rw [← List.getElem?_drop, hd]
        simp [joinR]
      rw [cutF_yes (.inr (by rw [ba_list h32]; rfl)), hext]
      have hd2 : s.data.toList.drop (p + x.length + 1) = joinR (y :: ys) := by
        rw [show p + x.length + 1 = p + (x.length + 1) from by omega, ← List.drop_drop, hd]
        simp [joinR]
      have ih := cut_join (s := s) (y :: ys) (p + x.length + 1) (by simp) (fun z hz => hno z (List.mem_cons_of_mem _ hz)) hd2 (by omega)
      rw [show s.size + 1 - (p + x.length + 1) = s.size - (p + x.length) from by omega] at ih
      rw [ih]
      rfl
theorem cutB_join (xs : List (List UInt8)) (h0 : xs ≠ []) (hno : ∀ x ∈ xs, ∀ c ∈ x, c ≠ 32) : cutB (mkB (joinR xs)) = xs.map mkB := by
  have := cut_join (s := mkB (joinR xs)) xs 0 h0 hno (by rw [mkB_data]; rfl) (Nat.zero_le _)
  exact this
theorem ins_nonempty (t : Tm) : t.ins ≠ [] := by
  obtain ⟨xs, x, h, _⟩ := ins_last t
  rw [h]; simp
theorem codeL_R {t : Tm} (ho : t.Ok) : codeL t = joinR t.ins := puts_join _ (fun x hx => (ins_txt ho x hx).1)
theorem cutB_code {t : Tm} (ho : t.Ok) : cutB (mkB (codeL t)) = t.ins.map mkB := by
  rw [codeL_R ho]
  exact cutB_join _ (ins_nonempty t) (fun x hx => (ins_txt ho x hx).2.2)

/-- What an instruction's text is read as. -/
theorem insOf_one {c : Int} {i : Ins} (h0 : 0 ≤ c) (h1 : c ≤ 255) (h : ins1 c = some i) : insOf (mkB [byt c]) = some i := by
  unfold insOf
  rw [if_pos (by rw [mkB_size]; rfl), ba_mk (x := [byt c]) (i := 0) (c := byt c) rfl, byt_nat h0 h1]
  exact h
theorem insOf_two {c v : Int} (hc : c = 91 ∨ c = 123) (hv : isL v = true) : insOf (mkB [byt c, byt v]) = some (.beg c v) := by
  have h2 := isL_ge hv
  unfold insOf
  rw [if_neg (by rw [mkB_size]; simp), ba_mk (x := [byt c, byt v]) (i := 0) (c := byt c) rfl, ba_mk (x := [byt c, byt v]) (i := 1) (c := byt v) rfl, byt_nat (by omega) (by omega), byt_nat (by omega) (by omega)]
  rw [if_pos ⟨by rw [mkB_size]; rfl, hc, hv⟩]
theorem ins1_dig {c : Int} (h : isD c = true) : ins1 c = some (.dig c) := by unfold ins1; rw [if_pos h]
theorem ins1_var {c : Int} (h : isV c = true) : ins1 c = some (.var c) := by
  have : c = 97 ∨ c = 98 ∨ 118 ≤ c ∧ c ≤ 122 := by simpa [isV] using h
  unfold ins1; rw [if_neg (by simp [isD]; omega), if_pos h]
theorem ins1_pre {c : Int} (h : isP c = true) : ins1 c = some (.pre c) := by
  have : c = 83 ∨ c = 77 ∨ c = 73 ∨ c = 78 ∨ c = 82 ∨ c = 67 ∨ c = 80 := by simpa [isP] using h
  unfold ins1; rw [if_neg (by simp [isD]; omega), if_neg (by simp [isV]; omega), if_pos h]
theorem ins1_two {c : Int} (h : isB c = true) : ins1 c = some (.two c) := by
  have : c = 43 ∨ c = 42 ∨ c = 94 ∨ c = 45 ∨ c = 61 ∨ c = 60 ∨ c = 64 := by simpa [isB] using h
  unfold ins1; rw [if_neg (by simp [isD]; omega), if_neg (by simp [isV]; omega), if_neg (by simp [isP]; omega), if_pos h]
theorem ins1_fin {c : Int} (h : c = 93 ∨ c = 125) : ins1 c = some (.fin c) := by
  rcases h with rfl | rfl <;> rfl

theorem runB_one {x : ByteArray} {i : Ins} {m : MS} (h : insOf x = some i) : runB [x] m = step i m := by
  simp only [runB, stepB, h]
  cases step i m <;> rfl
/-- The instructions of a term put it onto the stack. -/
theorem run_ins : ∀ {t : Tm}, t.Ok → ∀ (ts : List Tm) (os : List Out), runB (t.ins.map mkB) (ts, os) = some (t :: ts, os)
  | .dig c, ho, ts, os => by
    have := sgn_bd (.inl ho)
    show runB [mkB [byt c]] _ = _
    rw [runB_one (insOf_one (by omega) (by omega) (ins1_dig ho))]
    rfl
  | .var c, ho, ts, os => by
    have := sgn_bd (.inr (.inl ho))
    show runB [mkB [byt c]] _ = _
    rw [runB_one (insOf_one (by omega) (by omega) (ins1_var ho))]
    rfl
  | .pre c s, ho, ts, os => by
    have := sgn_bd (.inr (.inr (.inl ho.1)))
    simp only [Tm.ins, List.map_append, List.map_cons, List.map_nil]
    rw [runB_append, run_ins ho.2 ts os]
    simp only
    rw [runB_one (insOf_one (by omega) (by omega) (ins1_pre ho.1))]
    rfl
  | .two c s t, ho, ts, os => by
    have := sgn_bd (.inr (.inr (.inr (.inl ho.1))))
    simp only [Tm.ins, List.map_append, List.map_cons, List.map_nil]
    rw [runB_append, run_ins ho.2.1 ts os]
    simp only
    rw [runB_append, run_ins ho.2.2 (s :: ts) os]
    simp only
    rw [runB_one (insOf_one (by omega) (by omega) (ins1_two ho.1))]
    rfl
  | .loop c v s t, ho, ts, os => by
    have hc := ho.1
    simp only [Tm.ins, List.map_append, List.map_cons, List.map_nil]
    rw [runB_append, run_ins ho.2.2.1 ts os]
    simp only
    rw [runB_append, runB_one (insOf_two hc ho.2.1)]
    simp only [step]
    rw [runB_append, run_ins ho.2.2.2 [] _]
    simp only
    rw [runB_one (insOf_one (c := c + 2) (i := .fin (c + 2)) (by omega) (by omega) (ins1_fin (by omega)))]
    simp [step]
theorem codeT_code {t : Tm} (ho : t.Ok) (hl : t.txt.length ≤ 80) (hc : (codeL t).length ≤ 200) : codeT (mkB (codeL t)) = some t := by
  unfold codeT
  rw [if_neg (by rw [mkB_size]; omega), cutB_code ho, run_ins ho [] []]
  simp only [whole]
  rw [if_pos hl]

/-- A term has an instruction for each term within it, and one more for each loop. -/
theorem ins_count (t : Tm) : t.ins.length = t.size + t.ins.countP (fun x => decide (x.length = 2)) := by
  induction t with
  | dig c => simp [Tm.ins, Tm.size]
  | var c => simp [Tm.ins, Tm.size]
  | pre c s ih => simp [Tm.ins, Tm.size, List.countP_append]; omega
  | two c s t ih1 ih2 => simp [Tm.ins, Tm.size, List.countP_append]; omega
  | loop c v s t ih1 ih2 => simp [Tm.ins, Tm.size, List.countP_append]; omega

/-- What the machine's terms are made of: all pieces so far. -/
def insO : List Out → List (List UInt8)
  | [] => []
  | o :: os => insO os ++ (insK o.low.reverse ++ (o.over.ins ++ [[byt o.c, byt o.v]]))
def insM (m : MS) : List (List UInt8) := insO m.2 ++ insK m.1.reverse
theorem insK_app (a b : List Tm) : insK (a ++ b) = insK a ++ insK b := by
  induction a with
  | nil => rfl
  | cons t a ih => simp [insK, ih]
theorem insK_one (t : Tm) : insK [t] = t.ins := by simp [insK]
theorem piece_one {x : ByteArray} (hs : x.size = 1) : x.data.toList = [byt (ba x 0)] := by
  have hl : x.data.toList.length = 1 := by simpa using hs
  obtain ⟨c, hc⟩ : ∃ c, x.data.toList = [c] := List.length_eq_one_iff.1 hl
  rw [ba_list (show x.data.toList[0]? = some c by rw [hc]; rfl), hc]
  congr 1
  unfold byt
  simp
theorem piece_two {x : ByteArray} (hs : x.size = 2) : x.data.toList = [byt (ba x 0), byt (ba x 1)] := by
  have hl : x.data.toList.length = 2 := by simpa using hs
  obtain ⟨c, d, hc⟩ : ∃ c d, x.data.toList = [c, d] := by
    match hx : x.data.toList, hl with
    | [c, d], _ => exact ⟨c, d, rfl⟩
  rw [ba_list (show x.data.toList[0]? = some c by rw [hc]; rfl), ba_list (show x.data.toList[1]? = some d by rw [hc]; rfl), hc]
  unfold byt
  simp
/-- The text of an instruction. -/
def Ins.txt : Ins → List UInt8
  | .dig c => [byt c]
  | .var c => [byt c]
  | .pre c => [byt c]
  | .two c => [byt c]
  | .beg c v => [byt c, byt v]
  | .fin c => [byt c]
theorem insOf_txt {x : ByteArray} {i : Ins} (h : insOf x = some i) : x.data.toList = i.txt := by
  unfold insOf at h
  by_cases h1 : x.size = 1
  · rw [if_pos h1] at h
    rw [piece_one h1]
    unfold ins1 at h
    (repeat' split at h) <;> first | (cases h; rfl) | cases h
  · rw [if_neg h1] at h
    split at h
    · rename_i h2
      cases h
      rw [piece_two h2.1]
      rfl
    · cases h
theorem step_insM {i : Ins} {m m' : MS} (h : step i m = some m') : insM m' = insM m ++ [i.txt] := by
  obtain ⟨ts, os⟩ := m
  cases i with
  | dig c => cases h; simp [insM, insK_app, insK_one, Tm.ins, Ins.txt]
  | var c => cases h; simp [insM, insK_app, insK_one, Tm.ins, Ins.txt]
  | pre c =>
    cases ts with
    | nil => cases h
    | cons x ts => cases h; simp [insM, insK_app, insK_one, Tm.ins, Ins.txt]
  | two c =>
    cases ts with
    | nil => cases h
    | cons y ts =>
      cases ts with
      | nil => cases h
      | cons x ts => cases h; simp [insM, insK_app, insK, Tm.ins, Ins.txt]
  | beg c v =>
    cases ts with
    | nil => cases h
    | cons x ts => cases h; simp [insM, insO, insK_app, insK, Ins.txt]
  | fin c =>
    cases ts with
    | nil => cases h
    | cons y ts =>
      cases ts with
      | cons x ts => cases h
      | nil =>
        cases os with
        | nil => cases h
        | cons o os =>
          simp only [step] at h
          split at h
          · rename_i hc
            cases h
            simp [insM, insO, insK_app, insK_one, Tm.ins, Ins.txt, hc]
          · cases h
theorem run_insM : ∀ (l : List ByteArray) (m m' : MS), runB l m = some m' → insM m' = insM m ++ l.map (fun x => x.data.toList)
  | [], m, m', h => by cases h; simp
  | x :: l, m, m', h => by
    simp only [runB] at h
    cases hs : stepB x m with
    | none => rw [hs] at h; cases h
    | some m1 =>
      rw [hs] at h
      have h2 := hs
      unfold stepB at h2
      cases hi : insOf x with
      | none => rw [hi] at h2; cases h2
      | some i =>
        rw [hi] at h2
        rw [run_insM l m1 m' h, step_insM h2, ← insOf_txt hi]
        simp
/-- What is cut apart is joined again. -/
theorem join_cut {s : ByteArray} : ∀ (f p i : Nat), f = s.size + 1 - i → p ≤ i → i ≤ s.size → joinR ((cutF s f p i).map fun x => x.data.toList) = s.data.toList.drop p ∧ cutF s f p i ≠ []
  | 0, p, i, hf, _, hi => by omega
  | f + 1, p, i, hf, hpi, hi => by
    have hsz : s.data.toList.length = s.size := by simp
    have hext : (s.extract p i).data.toList = (s.data.toList.drop p).take (i - p) := by
      rw [ByteArray.data_extract, Array.toList_extract, List.extract_eq_take_drop]
    by_cases hy : i = s.size ∨ ba s i = 32
    · rw [cutF_yes hy]
      by_cases he : i = s.size
      · subst he
        have hf0 : f = 0 := by omega
        subst hf0
        refine ⟨?_, by simp⟩
        simp only [cutF, List.map_cons, List.map_nil, joinR]
        rw [hext, List.take_of_length_le (by rw [List.length_drop, hsz]; omega)]
      · have h32 := hy.resolve_left he
        obtain ⟨ih, hne⟩ := join_cut (s := s) f (i + 1) (i + 1) (by omega) (Nat.le_refl _) (by omega)
        refine ⟨?_, by simp⟩
        cases hq : cutF s f (i + 1) (i + 1) with
        | nil => exact absurd hq hne
        | cons y ys =>
          rw [hq] at ih
          simp only [List.map_cons, joinR] at ih ⊢
          rw [ih, hext]
          have hc : s.data.toList[i]? = some 32 := by
            obtain ⟨c, hc⟩ : ∃ c, s.data.toList[i]? = some c := ⟨_, List.getElem?_eq_getElem (by omega)⟩
            have := ba_list hc
            rw [h32] at this
            rw [hc]
            congr 1
            exact UInt8.toNat_inj.1 (by have : ((32 : UInt8).toNat : Int) = 32 := by decide
                                        omega)
          have e1 : s.data.toList.drop p = (s.data.toList.drop p).take (i - p) ++ (s.data.toList.drop p).drop (i - p) := (List.take_append_drop _ _).symm
          rw [List.drop_drop, show p + (i - p) = i from by omega] at e1
          have e2 : s.data.toList[i]'(by omega) = 32 := (List.getElem?_eq_some_iff.1 hc).2
          have e3 : s.data.toList.drop i = 32 :: s.data.toList.drop (i + 1) := by rw [List.drop_eq_getElem_cons (by omega), e2]
          rw [e3] at e1
          exact e1.symm
    · have h1 : i ≠ s.size := fun e => hy (.inl e)
      have h2 : ba s i ≠ 32 := fun e => hy (.inr e)
      rw [cutF_no h1 h2]
      exact join_cut f p (i + 1) (by omega) (by omega) (by omega)
theorem joinR_cut (s : ByteArray) : joinR ((cutB s).map fun x => x.data.toList) = s.data.toList := by
  have := (join_cut (s := s) (s.size + 1) 0 0 (by omega) (Nat.le_refl _) (Nat.zero_le _)).1
  simpa [cutB] using this
/-- Code is the code of its term. -/
theorem code_codeT {s : ByteArray} {t : Tm} (h : codeT s = some t) : mkB (codeL t) = s ∧ t.Ok ∧ t.txt.length ≤ 80 ∧ t.ins = (cutB s).map (fun x => x.data.toList) := by
  unfold codeT at h
  by_cases hs : 200 < s.size
  · rw [if_pos hs] at h; cases h
  · rw [if_neg hs] at h
    cases hr : runB (cutB s) ([], []) with
    | none => rw [hr] at h; cases h
    | some m =>
      rw [hr] at h
      simp only at h
      cases hw : whole m with
      | none => rw [hw] at h; cases h
      | some t' =>
        rw [hw] at h
        simp only at h
        split at h
        · rename_i hl
          cases h
          have hm : m = ([t], []) := by
            unfold whole at hw
            split at hw
            · cases hw; rfl
            · cases hw
          subst hm
          have ho := (whole_told (by omega) hr hw).1
          have hi := run_insM _ _ _ hr
          have e : t.ins = (cutB s).map (fun x => x.data.toList) := by simpa [insM, insO, insK] using hi
          refine ⟨?_, ho, hl, e⟩
          rw [codeL_R ho, e, joinR_cut, mkB_of]
        · cases h
end

/- CodLn -/
section

/-- How long code is. -/
def wt7 : List (List UInt8) → Nat
  | [] => 0
  | x :: xs => x.length + 1 + wt7 xs
theorem wt7_app (a b : List (List UInt8)) : wt7 (a ++ b) = wt7 a + wt7 b := by
  induction a with
  | nil => simp [wt7]
  | cons x a ih => simp only [List.cons_append, wt7, ih]; omega
theorem joinR_len : ∀ (xs : List (List UInt8)), xs ≠ [] → (joinR xs).length + 1 = wt7 xs
  | [], h => absurd rfl h
  | [x], _ => by simp [joinR, wt7]
  | x :: y :: xs, _ => by
    have := joinR_len (y :: xs) (by simp)
    simp only [joinR, List.length_append, List.length_cons, wt7] at this ⊢
    omega
theorem wt7_ins (t : Tm) : wt7 t.ins ≤ 2 * t.txt.length := by
  induction t with
  | dig c => simp [Tm.ins, wt7, Tm.txt]
  | var c => simp [Tm.ins, wt7, Tm.txt]
  | pre c s ih => simp [Tm.ins, wt7_app, wt7, Tm.txt]; omega
  | two c s t ih1 ih2 => simp [Tm.ins, wt7_app, wt7, Tm.txt]; omega
  | loop c v s t ih1 ih2 => simp [Tm.ins, wt7_app, wt7, Tm.txt]; omega
theorem codeL_len {t : Tm} (ho : t.Ok) (hl : t.txt.length ≤ 80) : (codeL t).length ≤ 159 := by
  have h1 := joinR_len t.ins (ins_nonempty t)
  have h2 := wt7_ins t
  rw [codeL_R ho]
  omega
end

/- SCodL -/
section
open Go.RowKit

theorem ins_pos (t : Tm) : 0 < t.ins.length := by
  obtain ⟨xs, x, h, _⟩ := ins_last t
  rw [h]; simp

theorem slst_any : ∀ (n : Nat) (t : Tm) (S : Nat → Prop) (a b : Int) (A : Option Addr) (k c : Nat) (w : World), t.size ≤ n → n ≤ 1000 → t.Ok → SN w S t (a, b, .slice A k c) →
    Calls Tryd.prog 11 #[.agg #[.int .u8 a, .int .u8 b, .slice A k c]] w (LstP t w)
  | 0, t, _, _, _, _, _, _, _, hn, _, _, _ => by have := t.size_pos; omega
  | n + 1, .dig d, S, a, b, A, k, c, w, hn, hb, ho, h => by
    obtain ⟨h1, h2, hr, _⟩ := h
    simp only at h1 h2 hr
    subst h2
    obtain rfl := own_len hr
    exact slst_leaf _ a b A c w rfl
  | n + 1, .var d, S, a, b, A, k, c, w, hn, hb, ho, h => by
    obtain ⟨h1, h2, hr, _⟩ := h
    simp only at h1 h2 hr
    subst h2
    obtain rfl := own_len hr
    exact slst_leaf _ a b A c w rfl
  | n + 1, .pre d s, S, a, b, A, k, c, w, hn, hb, ho, h => by
    obtain ⟨h1, h2, ⟨y1, y2, y3⟩, hr, _, hs⟩ := h
    simp only at h1 h2 hr
    subst h1 h2
    obtain rfl := own_len hr
    obtain ⟨A2, k2, c2, h3⟩ := hs.form
    simp only at h3
    subst h3
    have hl := (ins_len s).1
    simp only [Tm.size] at hn
    exact slst_pre _ s a 0 y1 y2 A A2 c k2 c2 w rfl (by omega) hr (fun u hu => slst_any n s S y1 y2 A2 k2 c2 u (by omega) (by omega) ho.2 (hs.grown hu))
  | n + 1, .two d s t, S, a, b, A, k, c, w, hn, hb, ho, h => by
    obtain ⟨h1, h2, ⟨y1, y2, y3⟩, ⟨z1, z2, z3⟩, hr, _, hs, ht⟩ := h
    simp only at h1 h2 hr
    subst h1 h2
    obtain rfl := own_len hr
    obtain ⟨A2, k2, c2, h3⟩ := hs.form
    obtain ⟨A3, k3, c3, h4⟩ := ht.form
    simp only at h3 h4
    subst h3 h4
    have hl := (ins_len s).1
    have hl2 := (ins_len t).1
    simp only [Tm.size] at hn
    exact slst_two _ s t a y1 y2 z1 z2 A A2 A3 c k2 c2 k3 c3 w rfl (by omega) (by omega) (ins_pos t) hr (fun u hu => slst_any n s S y1 y2 A2 k2 c2 u (by omega) (by omega) ho.2.1 (hs.grown hu)) (fun u hu => slst_any n t S z1 z2 A3 k3 c3 u (by omega) (by omega) ho.2.2 (ht.grown hu))
  | n + 1, .loop d v s t, S, a, b, A, k, c, w, hn, hb, ho, h => by
    obtain ⟨h1, h2, ⟨y1, y2, y3⟩, ⟨z1, z2, z3⟩, hr, _, hs, ht⟩ := h
    simp only at h1 h2 hr
    subst h1 h2
    obtain rfl := own_len hr
    obtain ⟨A2, k2, c2, h3⟩ := hs.form
    obtain ⟨A3, k3, c3, h4⟩ := ht.form
    simp only at h3 h4
    subst h3 h4
    have hl := (ins_len s).1
    have hl2 := (ins_len t).1
    simp only [Tm.size] at hn
    have hv : b ≠ 0 := by
      have := isL_ge ho.2.1
      omega
    exact slst_loop _ s t a b y1 y2 z1 z2 A A2 A3 c k2 c2 k3 c3 w ho.1 hv rfl (by omega) (by omega) (ins_pos t) hr (fun u hu => slst_any n s S y1 y2 A2 k2 c2 u (by omega) (by omega) ho.2.2.1 (hs.grown hu)) (fun u hu => slst_any n t S z1 z2 A3 k3 c3 u (by omega) (by omega) ho.2.2.2 (ht.grown hu))
end

/- CValP -/
section
section
open Go.RowKit Go.Shelf
attribute [local go_sem] Oper.semAt_some

/-- An instruction's three numbers. -/
def ri3 (x : ByteArray) : Int × Int × Int := if x.size = 1 ∧ kd (ba x 0) ≠ 5 then (kd (ba x 0), ba x 0, 0)
  else if x.size = 2 ∧ kd (ba x 0) = 5 ∧ isL (ba x 1) = true then (5, ba x 0, ba x 1) else (0, 0, 0)
theorem riV_eq (x : ByteArray) : riV x = .agg #[.int .i64 (ri3 x).1, .int .u8 (ri3 x).2.1, .int .u8 (ri3 x).2.2] := by
  unfold riV ri3
  split
  · rfl
  · split <;> rfl
def cellsI (x : ByteArray) : List Value := [.int .i64 (ri3 x).1, .int .u8 (ri3 x).2.1, .int .u8 (ri3 x).2.2]
def flatI (l : List ByteArray) : List Value := l.flatMap cellsI
theorem flatI_snoc (l : List ByteArray) (x : ByteArray) : flatI (l ++ [x]) = flatI l ++ cellsI x := by simp [flatI]
theorem flatI_len (l : List ByteArray) : (flatI l).length = l.length * 3 := by
  induction l with
  | nil => rfl
  | cons x l ih => simp only [flatI, List.flatMap_cons, List.length_append] at ih ⊢; rw [ih]; simp [cellsI]; omega

theorem infoIns : (Tryd.prog.info? 59).map (fun i => (i.zero, i.size, i.bytes)) = some (some (.agg #[.int .i64 0, .int .u8 0, .int .u8 0]), 3, 16) := by kernel_rfl

/-- The types of the reader's blocks. -/
def RT (T : TypeId) : Prop := NT T ∨ XT T
theorem own_keepT {w w' : World} {base n size : Nat} {e : TypeId} {v : Value} {xs : List Value} (h : w.ownsRow base e size v n xs) (hk : ∀ (k : Nat) (cs : Array Value) (fr : Nat × Nat), w.heap[k]? = some (.cells cs e fr) → w'.heap[k]? = some (.cells cs e fr)) : w'.ownsRow base e size v n xs :=
  own_keep h (fun g hg => by obtain ⟨cs, hcs⟩ := own_heap h hg; rw [hcs]; exact hk g cs _ hcs)
theorem TS.keepT {w w' : World} {n0 : Nat} {L : List Nat} {ts : List Tm} {v : Value} {vs : List Value} (h : TS w n0 L ts v vs) (hk : ∀ (k : Nat) (cs : Array Value) (T : TypeId) (fr : Nat × Nat), RT T → w.heap[k]? = some (.cells cs T fr) → w'.heap[k]? = some (.cells cs T fr)) : TS w' n0 L ts v vs :=
  ⟨own_keepT h.1 (fun k cs fr => hk k cs _ fr (.inr (.inl rfl))), All2.mono (fun t v ht => PT.keepT (fun b xs T fr _ hT hh => hk b xs T fr (.inl hT) hh) (fun _ hb _ => hb) t v ht) _ _ h.2⟩
theorem OS.keepT {w w' : World} {n0 : Nat} {L : List Nat} (hk : ∀ (k : Nat) (cs : Array Value) (T : TypeId) (fr : Nat × Nat), RT T → w.heap[k]? = some (.cells cs T fr) → w'.heap[k]? = some (.cells cs T fr)) : ∀ {os : List Out} {ps : List Pnd}, OS w n0 L os ps → OS w' n0 L os ps
  | [], [], _ => trivial
  | _ :: _, _ :: _, ⟨h1, h2⟩ => ⟨⟨h1.base, hk _ _ _ _ (.inl (.inr (.inr rfl))) h1.heap, PT.keepT (fun b xs T fr _ hT hh => hk b xs T fr (.inl hT) hh) (fun _ hb _ => hb) _ _ h1.over, h1.row.keepT hk⟩, OS.keepT hk h2⟩
  | [], _ :: _, h => h.elim
  | _ :: _, [], h => h.elim
theorem RS.keepT {w w' : World} {n0 b : Nat} {m : MS} {v0 v1 : Value} {vs : List Value} {ps : List Pnd} (h : RS w n0 b m v0 v1 vs ps) (hk : ∀ (k : Nat) (cs : Array Value) (T : TypeId) (fr : Nat × Nat), RT T → w.heap[k]? = some (.cells cs T fr) → w'.heap[k]? = some (.cells cs T fr)) : RS w' n0 b m v0 v1 vs ps :=
  ⟨h.base, hk _ _ _ _ (.inr (.inr (.inr (.inl rfl)))) h.box, h.cur.keepT hk, own_keepT h.row (fun k cs fr => hk k cs _ fr (.inr (.inr (.inl rfl)))), OS.keepT hk h.outs, h.nodup, h.apart⟩

/-- The blocks that rounds may write. -/
def XC (g : Nat) (k : Nat) (T : TypeId) : Prop := g ≤ k ∧ (XT T ∨ T = 59 ∨ T = 53)

/-- Between two rounds. -/
structure RdI (w : World) (g : Nat) (pre : List ByteArray) (W : World) : Prop where
  gr : w.grownBy W none
  r0 : W.heap[g]? = some (.cells #[.slice none 0 0, .nilIface] 53 (0, 0))
  r1 : W.heap[g + 1]? = some (.cells #[.bool false] 4 (0, 0))
  pr : ∃ iv, W.heap[g + 2]? = some (.cells #[iv, .nilIface] 53 (0, 0)) ∧ W.ownsRow g 59 3 iv pre.length (flatI pre)
  rs : ∃ m v0 v1 vs ps, runB pre ([], []) = some m ∧ RS W g (g + 3) m v0 v1 vs ps
/-- A round has found that it is no code. -/
structure RdX (w : World) (g : Nat) (s : ByteArray) (W : World) : Prop where
  gr : w.grownBy W none
  r0 : W.heap[g]? = some (.cells #[.slice none 0 0, .nilIface] 53 (0, 0))
  r1 : W.heap[g + 1]? = some (.cells #[.bool false] 4 (0, 0))
  no : runB (cutB s) ([], []) = none

theorem RdI.keep {w W W' : World} {g : Nat} {pre : List ByteArray} (h : RdI w g pre W) (hg : w.grownBy W' none) (hk : ∀ (k : Nat) (cs : Array Value) (T : TypeId) (fr : Nat × Nat), (RT T ∨ T = 53 ∨ T = 4 ∨ T = 59) → W.heap[k]? = some (.cells cs T fr) → W'.heap[k]? = some (.cells cs T fr)) : RdI w g pre W' := by
  obtain ⟨iv, hp, ho⟩ := h.pr
  obtain ⟨m, v0, v1, vs, ps, hm, hr⟩ := h.rs
  exact ⟨hg, hk _ _ _ _ (.inr (.inl rfl)) h.r0, hk _ _ _ _ (.inr (.inr (.inl rfl))) h.r1, ⟨iv, hk _ _ _ _ (.inr (.inl rfl)) hp, own_keepT ho (fun k cs fr => hk k cs _ fr (.inr (.inr (.inr rfl))))⟩, m, v0, v1, vs, ps, hm, hr.keepT (fun k cs T fr hT => hk k cs T fr (.inl hT))⟩
theorem RdX.keep {w W W' : World} {g : Nat} {s : ByteArray} (h : RdX w g s W) (hg : w.grownBy W' none) (hk : ∀ (k : Nat) (cs : Array Value) (T : TypeId) (fr : Nat × Nat), (T = 53 ∨ T = 4) → W.heap[k]? = some (.cells cs T fr) → W'.heap[k]? = some (.cells cs T fr)) : RdX w g s W' :=
  ⟨hg, hk _ _ _ _ (.inl rfl) h.r0, hk _ _ _ _ (.inr rfl) h.r1, h.no⟩
theorem cells_kept {W W' : World} {row : Option Nat} (hg : W.grownBy W' row) (hr : ∀ r, row = some r → ∃ o : Obj, W.heap[r]? = some o ∧ o.isCells = false) (k : Nat) (cs : Array Value) (T : TypeId) (fr : Nat × Nat) (h : W.heap[k]? = some (.cells cs T fr)) : W'.heap[k]? = some (.cells cs T fr) :=
  (hg.block k (blk_lt h) (fun e => by
    obtain ⟨o, ho, hc⟩ := hr k e.symm
    rw [h] at ho; cases ho; cases hc)).trans h
theorem rdI_own (w : World) (g : Nat) (hg : w.heap.size = g) {B : Nat} (hB : g ≤ B) : OwnFrom B (RdI w g) := fun pre A C row hs hgr hr =>
  hs.keep (gr_ownF hs.gr hgr (fun k e => by have := (hr k e).1; omega)) (fun k cs T fr _ h => cells_kept hgr (fun r e => (hr r e).2) k cs T fr h)
theorem rdX_own (w : World) (g : Nat) (s : ByteArray) (hg : w.heap.size = g) {B : Nat} (hB : g ≤ B) : OwnFrom B (fun (_ : List ByteArray) W => RdX w g s W) := fun pre A C row hs hgr hr =>
  hs.keep (gr_ownF hs.gr hgr (fun k e => by have := (hr k e).1; omega)) (fun k cs T fr _ h => cells_kept hgr (fun r e => (hr r e).2) k cs T fr h)
theorem rdI_box (w : World) (g b0 : Nat) (hg : w.heap.size = g) (hb : g ≤ b0) : ∀ pre A u v, A.heap[b0]? = some (.cells #[u] 9 (0, 0)) → RdI w g pre A → RdI w g pre (A.setCell ⟨b0, 0, none⟩ v) := fun pre A u v hA h =>
  h.keep (gr_ownF h.gr (gr_set A b0 0 v) (fun k e => by cases e; omega)) (fun k cs T fr hT hk => (Below.heap_setCell _ _ _ _ (fun e => by
    have e' : k = b0 := by simpa using e
    rw [← e', hk] at hA
    cases hA
    rcases hT with (e | e) | e | e | e
    · rcases e with e | e | e <;> exact absurd e (by decide)
    · rcases e with e | e | e | e <;> exact absurd e (by decide)
    all_goals exact absurd e (by decide))).trans hk)

theorem chgX_keeps {g : Nat} {V V' : World} (h : Chg (WX g V) V V') : KeepsK (XC g) V V' :=
  ⟨h.size, fun k o hk ho => (h.same k (Array.getElem?_eq_some_iff.1 hk).1 (fun ⟨h1, cs, T, fr, h2, h3⟩ => by
    rw [hk] at h2
    exact ho cs T fr (Option.some.inj h2) ⟨h1, .inl h3⟩)).trans hk⟩
theorem gr_chgX {w V V' : World} {g : Nat} (h : w.grownBy V none) (hg : w.heap.size = g) (hc : Chg (WX g V) V V') : w.grownBy V' none :=
  ⟨hc.os.trans h.os, hc.tape.trans h.tape, hc.output.trans h.output, Nat.le_trans h.size hc.size, fun k hk _ => (hc.same k (Nat.lt_of_lt_of_le hk h.size) (fun hw => by have := hw.1; omega)).trans (h.block k hk (by simp))⟩
theorem chgX_cells {g : Nat} {V V' : World} (h : Chg (WX g V) V V') {k : Nat} {cs : Array Value} {T : TypeId} {fr : Nat × Nat} (hk : V.heap[k]? = some (.cells cs T fr)) (hT : ¬ XT T) : V'.heap[k]? = some (.cells cs T fr) :=
  (h.same k (blk_lt hk) (fun ⟨_, cs', T', fr', h2, h3⟩ => by rw [hk] at h2; cases h2; exact hT h3)).trans hk
theorem not_xt_prog : ¬ XT 53 := by rintro (h | h | h | h) <;> exact absurd h (by decide)
theorem not_xt_bool : ¬ XT 4 := by rintro (h | h | h | h) <;> exact absurd h (by decide)
theorem not_xt_ins : ¬ XT 59 := by rintro (h | h | h | h) <;> exact absurd h (by decide)

theorem KeepsK.ofChg {X : Nat → TypeId → Prop} {wr : Nat → Prop} {V V' : World} (h : Chg wr V V') (hw : ∀ k, wr k → ∃ cs T fr, V.heap[k]? = some (.cells cs T fr) ∧ X k T) : KeepsK X V V' :=
  ⟨h.size, fun k o hk ho => (h.same k (Array.getElem?_eq_some_iff.1 hk).1 (fun e => by
    obtain ⟨cs, T, fr, h2, h3⟩ := hw k e
    rw [hk] at h2
    exact ho cs T fr (Option.some.inj h2) h3)).trans hk⟩
theorem chg_cells {wr : Nat → Prop} {V V' : World} (h : Chg wr V V') {k : Nat} {cs : Array Value} {T : TypeId} {fr : Nat × Nat} (hk : V.heap[k]? = some (.cells cs T fr)) (hw : wr k → False) : V'.heap[k]? = some (.cells cs T fr) := (h.same k (blk_lt hk) hw).trans hk

/-- The two results' boxes, behind the mark's block. -/
theorem res_boxes {V : World} {g D : Nat} {a b r : Value} (h0 : V.heap[g]? = some (.cells #[a, b] 53 (0, 0))) (h1 : V.heap[g + 1]? = some (.cells #[r] 4 (0, 0))) (hD : g + 2 ≤ D) (o : Obj) :
    (V.putObj D o).cell? ⟨g, 0, none⟩ = some a ∧ (V.putObj D o).cell? ⟨g, 1, none⟩ = some b ∧ (V.putObj D o).cell? ⟨g + 1, 0, none⟩ = some r :=
  ⟨cell_of_row _ g 0 _ _ (0, 0) ((World.putObj_heap_other (by omega)).trans h0), cell_of_row _ g 1 _ _ (0, 0) ((World.putObj_heap_other (by omega)).trans h0), cell_of_row _ (g + 1) 0 _ _ (0, 0) ((World.putObj_heap_other (by omega)).trans h1)⟩

/-- What is put into the results' boxes. -/
def putR (V : World) (g : Nat) (a b r : Value) : World := ((V.setCell ⟨g, 0, none⟩ a).setCell ⟨g, 1, none⟩ b).setCell ⟨g + 1, 0, none⟩ r
theorem putR_same {V : World} {g k : Nat} {a b r : Value} (h0 : k ≠ g) (h1 : k ≠ g + 1) : (putR V g a b r).heap[k]? = V.heap[k]? :=
  (Below.heap_setCell _ _ _ _ h1).trans ((Below.heap_setCell _ _ _ _ h0).trans (Below.heap_setCell _ _ _ _ h0))
theorem putR_res {V : World} {g : Nat} {a0 b0 r0 a b r : Value} (hp : Pr V g 53 a0 b0) (hb : V.heap[g + 1]? = some (.cells #[r0] 4 (0, 0))) :
    (putR V g a b r).heap[g]? = some (.cells #[a, b] 53 (0, 0)) ∧ (putR V g a b r).heap[g + 1]? = some (.cells #[r] 4 (0, 0)) := by
  refine ⟨(Below.heap_setCell _ _ _ _ (by simp)).trans ((hp.set0 a).set1 b), ?_⟩
  have h1 : (((V.setCell ⟨g, 0, none⟩ a).setCell ⟨g, 1, none⟩ b)).heap[g + 1]? = some (.cells #[r0] 4 (0, 0)) := (Below.heap_setCell _ _ _ _ (by simp)).trans ((Below.heap_setCell _ _ _ _ (by simp)).trans hb)
  unfold putR
  simp [World.setCell, Array.getElem?_modify] at h1 ⊢
  simp [h1]
theorem putR_gr {w V : World} {g : Nat} {a b r : Value} (h : w.grownBy V none) (hg : w.heap.size = g) : w.grownBy (putR V g a b r) none :=
  gr_ownF (gr_ownF (gr_ownF h (gr_set V g 0 _) (fun k e => by cases e; omega)) (gr_set _ g 1 _) (fun k e => by cases e; omega)) (gr_set _ (g + 1) 0 _) (fun k e => by cases e; omega)
theorem putObj_cells {V : World} {D k : Nat} {o : Obj} {ds : Option (List Deferred)} {cs : Array Value} {T : TypeId} {fr : Nat × Nat} (hD : V.heap[D]? = some (.deferred ds)) (h : V.heap[k]? = some (.cells cs T fr)) : (V.putObj D o).heap[k]? = some (.cells cs T fr) :=
  (World.putObj_heap_other (fun e => by subst e; rw [hD] at h; cases h)).trans h

/-- How readCode ends. -/
def ReadP (s : ByteArray) (w : World) (e : Ending) (w' : World) : Prop := w.grownBy w' none ∧ match codeT s with
  | some t => ∃ iv xv, e = .returned (.tuple #[.agg #[iv, xv], .bool true]) ∧ w'.ownsRow w.heap.size 59 3 iv (cutB s).length (flatI (cutB s)) ∧ PT w' (fun _ => True) t xv
  | none => e = .returned (.tuple #[.agg #[.slice none 0 0, .nilIface], .bool false])

set_option maxRecDepth 100000 in
set_option maxHeartbeats 1000000 in
theorem readc_long (s : ByteArray) (w : World) (hs : 200 < s.size) :
    Calls Tryd.prog 15 #[.string s] w (ReadP s w) := by
  have hr : codeT s = none := by unfold codeT; rw [if_pos hs]
  have HR := Lib.hid hr
  have hd : (((s.size : Nat) : Int) > 200) := by omega
  obtain ⟨n, hn⟩ : ∃ n, s.size = n := ⟨_, rfl⟩
  rw [hn] at hs hd
  clear hr
  go_enter Tryd.func15, Tryd.ntmps15
  go_wp2_with fail
  refine bodyPost_ret (v := .tuple #[.agg #[.slice none 0 0, .nilIface], .bool false]) (by simp [results, Tryd.results15, go_sem]) rfl ?_
  refine ⟨(World.grownBy_alloc _ _ _).trans (World.grownBy_alloc _ _ _), ?_⟩
  rw [HR.out]

theorem readP_none {s : ByteArray} {w w' : World} {e : Ending} (hr : codeT s = none) (hg : w.grownBy w' none) (he : e = .returned (.tuple #[.agg #[.slice none 0 0, .nilIface], .bool false])) : ReadP s w e w' := by
  unfold ReadP; rw [hr]; exact ⟨hg, he⟩
theorem readP_some {s : ByteArray} {t : Tm} {w w' : World} {e : Ending} {iv xv : Value} (hr : codeT s = some t) (hg : w.grownBy w' none) (he : e = .returned (.tuple #[.agg #[iv, xv], .bool true]))
    (ho : w'.ownsRow w.heap.size 59 3 iv (cutB s).length (flatI (cutB s))) (hp : PT w' (fun _ => True) t xv) : ReadP s w e w' := by
  unfold ReadP; rw [hr]; exact ⟨hg, iv, xv, he, ho, hp⟩

set_option maxRecDepth 100000 in
set_option maxHeartbeats 4000000 in
theorem readc_in (s : ByteArray) (w : World) (hs : s.size ≤ 200) :
    Calls Tryd.prog 15 #[.string s] w (ReadP s w) := by
  obtain ⟨i0, hi0, hz0, hz1, hz2⟩ : ∃ i : TypeInfo, Tryd.prog.info? 59 = some i ∧ i.zero = some (.agg #[.int .i64 0, .int .u8 0, .int .u8 0]) ∧ i.size = 3 ∧ i.bytes = 16 := by
    obtain ⟨i, hi, hzz⟩ := Option.map_eq_some_iff.1 infoIns
    simp only [Prod.mk.injEq] at hzz
    exact ⟨i, hi, hzz.1, hzz.2.1, hzz.2.2⟩
  obtain ⟨g, hg⟩ : ∃ g, w.heap.size = g := ⟨_, rfl⟩
  have hd : ¬ (((s.size : Nat) : Int) > 200) := by omega
  obtain ⟨sz, hsz⟩ : ∃ n, s.size = n := ⟨_, rfl⟩
  have HSZ := Lib.hid hsz
  obtain ⟨w1, hw1⟩ : ∃ z, w.alloc (.cells #[.slice none 0 0, .nilIface] 53) = z := ⟨_, rfl⟩
  obtain ⟨w2, hw2⟩ : ∃ z, w1.alloc (.cells #[.bool false] 4) = z := ⟨_, rfl⟩
  obtain ⟨w3, hw3⟩ : ∃ z, w2.alloc (.cells #[.slice none 0 0, .nilIface] 53) = z := ⟨_, rfl⟩
  obtain ⟨w4, hw4⟩ : ∃ z, w3.alloc (.cells #[.slice none 0 0, .slice none 0 0] 85) = z := ⟨_, rfl⟩
  have z1 : w1.heap.size = g + 1 := by rw [← hw1, ← hg]; simp
  have z2 : w2.heap.size = g + 2 := by rw [← hw2]; simp [z1]
  have z3 : w3.heap.size = g + 3 := by rw [← hw3]; simp [z2]
  have z4 : w4.heap.size = g + 4 := by rw [← hw4]; simp [z3]
  have HSP := Lib.hid (split_call s w4)
  rw [z4] at HSP
  have HZ := Lib.hid (And.intro z1 (And.intro z2 (And.intro z3 z4)))
  rw [hsz] at hd
  refine (callsIn_wide (n := 3)).1 ?_
  refine callsIn_of_wp_marks Tryd.func15 rfl trivial ?_ rfl
  simp only [Tryd.ntmps15, List.size_toArray, List.length_cons, List.length_nil, Nat.reduceAdd, Nat.reduceSub, Array.replicate_succ, Array.replicate_zero, List.push_toArray, List.append_toArray, List.nil_append, List.cons_append]
  gi_wp2_with (refine ⟨trivial, ?_⟩; gi_at_call 28; refine (callsIn_wide.2 HSP.out).mono ?_; clear HSP; rintro e w5 ⟨rfl, hg5, hs5⟩)
  have hz5 : g + 7 ≤ w5.heap.size := by
    have := hs5.k
    have := blk_lt this
    omega
  have g1 : w.grownBy w1 none := by rw [← hw1]; exact World.grownBy_alloc _ _ _
  have g2 : w1.grownBy w2 none := by rw [← hw2]; exact World.grownBy_alloc _ _ _
  have g3 : w2.grownBy w3 none := by rw [← hw3]; exact World.grownBy_alloc _ _ _
  have g4 : w3.grownBy w4 none := by rw [← hw4]; exact World.grownBy_alloc _ _ _
  have b1 : w1.heap[g]? = some (.cells #[.slice none 0 0, .nilIface] 53 (0, 0)) := by rw [← hw1, ← hg]; exact heap_alloc_new _ _
  have b2 : w2.heap[g + 1]? = some (.cells #[.bool false] 4 (0, 0)) := by rw [← hw2, ← z1]; exact heap_alloc_new _ _
  have b3 : w3.heap[g + 2]? = some (.cells #[.slice none 0 0, .nilIface] 53 (0, 0)) := by rw [← hw3, ← z2]; exact heap_alloc_new _ _
  have b4 : w4.heap[g + 3]? = some (.cells #[.slice none 0 0, .slice none 0 0] 85 (0, 0)) := by rw [← hw4, ← z3]; exact heap_alloc_new _ _
  have gA := g4.trans hg5
  have gB := g3.trans gA
  have gC := g2.trans gB
  have h0 : RdI w g [] w5 := ⟨g1.trans gC, (gC.block _ (by omega) (by simp)).trans b1, (gB.block _ (by omega) (by simp)).trans b2, ⟨.slice none 0 0, (gA.block _ (by omega) (by simp)).trans b3, ⟨rfl, .inl ⟨rfl, rfl⟩⟩⟩,
    ([], []), .slice none 0 0, .slice none 0 0, [], [], rfl, by omega, (hg5.block _ (by omega) (by simp)).trans b4, ⟨⟨rfl, .inl ⟨rfl, rfl⟩⟩, trivial⟩, ⟨rfl, .inl ⟨rfl, rfl⟩⟩, trivial, List.nodup_nil, List.pairwise_cons.2 ⟨fun _ h => by simp at h, List.Pairwise.nil⟩⟩
  have HZ5 := Lib.hid hz5
  have HSL := Lib.hid hs
  clear hw1 hw2 hw3 hw4 z1 z2 z3 z4 HZ g1 g2 g3 g4 b1 b2 b3 b4 gA gB gC hg5 hsz hs hd
  have hX0 : ¬ XC g (g + 4) 9 := by rintro ⟨_, (h | h | h | h) | h | h⟩ <;> exact absurd h (by decide)
  have hX1 : ¬ XC g (g + 4 + 1) 9 := by rintro ⟨_, (h | h | h | h) | h | h⟩ <;> exact absurd h (by decide)
  have hX2 : ¬ XC g (g + 4 + 2) 3 := by rintro ⟨_, (h | h | h | h) | h | h⟩ <;> exact absurd h (by decide)
  refine range_ownB strK (X := XC g) (zs := cutB s) (gf := 55) (lb := #[.pointer (some ⟨g + 4 + 1, 0, none⟩), .pointer (some ⟨g + 4, 0, none⟩), .pointer (some ⟨g + 4 + 2, 0, none⟩)]) (b0 := g + 4) (tb := 9) rfl (enters_of Tryd.func55 (by kernel_rfl) rfl) (by omega)
    (split_iter (XC g) (g + 4) s w5 hs5 (by have := HSL.out; omega) hX0 hX1 hX2) (RdI w g) (fun _ W => RdX w g s W) (rdI_own w g hg (by omega)) (rdX_own w g s hg (by omega)) (rdI_box w g (g + 4) hg (by omega)) h0 (fun _ => rfl)
    (fun x => { tmps := #[.string s, undef, .pointer (some ⟨g, 0, none⟩), .pointer (some ⟨g + 1, 0, none⟩), .pointer (some ⟨g + 2, 0, none⟩), .pointer (some ⟨g + 3, 0, none⟩), .string x, undef, undef, undef, .string s, .int .i64 (sz : Nat), .bool false, undef, .string s, .func (.func 55) #[] #[.pointer (some ⟨g + 4 + 1, 0, none⟩), .pointer (some ⟨g + 4, 0, none⟩), .pointer (some ⟨g + 4 + 2, 0, none⟩)], .string x, undef, undef, undef, undef, undef, undef, undef, undef, undef, undef, undef, undef, undef, undef, undef, undef, undef, undef, undef, undef, undef, undef, undef, undef, undef, undef, undef, undef], defers := [] }) ?assign ?body ?done ?stop
  case assign =>
    intro l m x V K hK
    simp only [strK]
    gi_wp2
    exact hK
  case body =>
    rintro l1 m1 pre x V hl1 hr1 hI hpre
    obtain ⟨hgr, hr0, hr1', ⟨iv, hp, ho⟩, m, v0, v1, vs, ps, hm, hrs⟩ := hI
    obtain ⟨A6, k6, c6, rfl⟩ := own_form ho
    obtain rfl := own_len ho
    have hlen : pre.length + 1 ≤ 201 := by
      have h1 := hpre.length_le
      have h2 := cutB_len s
      have := HSL.out
      simp only [List.length_append, List.length_cons, List.length_nil] at h1
      omega
    have htd := runB_told pre 0 _ _ told7_nil hm
    rw [Nat.zero_add] at htd
    have hsV := hgr.size
    obtain ⟨⟨k3, c3, x3⟩, h3⟩ : ∃ q, ri3 x = q := ⟨_, rfl⟩
    have hrv := riV_eq x
    rw [h3] at hrv
    have HRI := Lib.hid (read_any x V)
    have HT := Lib.hid (fun V2 (hg2 : V.grownBy V2 none) => take_any g (g + 3) pre.length x m v0 v1 vs ps V2 (hrs.grown hg2) htd (by omega) (by have := hg2.size; omega))
    rw [hrv] at HRI HT
    have HP := Lib.hid hp
    have HR0 := Lib.hid hr0
    have HR1 := Lib.hid hr1'
    have HO := Lib.hid ho
    have HM := Lib.hid hm
    have HGR := Lib.hid hgr
    have HPRE := Lib.hid hpre
    have H3 := Lib.hid h3
    clear hgr hr0 hr1' hp ho hm hrs hpre h3 hrv
    cases hst : stepB x m with
    | none =>
      have HST := Lib.hid hst
      rw [hst] at HT
      clear hst
      gi_wp2_with (first
        | (refine ⟨trivial, fun h => (by cases h), ?_⟩; refine (CallsIn.inRound l1 (callsIn_wide.2 HRI.out)).mono ?_; clear HRI; rintro e V1 ⟨rfl, hg1⟩; have hg2 := hg1.trans (World.grownBy_alloc V1 (.cells #[.int .i64 k3, .int .u8 c3, .int .u8 x3] 59) none); have HTC := Lib.hid (HT.out _ hg2); have HG2 := Lib.hid hg2; have hb3 := c3_new V1 (.int .i64 k3) (.int .u8 c3) (.int .u8 x3) 59; have t0 := hb3.c0; have t1 := hb3.c1; have t2 := hb3.c2; have HB3 := Lib.hid hb3; clear hg1 hg2 HT hb3)
        | (refine ⟨trivial, fun h => (by cases h), ?_⟩; refine (CallsIn.inRound l1 (callsIn_wide.2 HTC.out)).mono ?_; clear HTC; rintro e V3 ⟨hc3, rfl⟩
           have hpr : Pr V3 g 53 (.slice none 0 0) .nilIface := chgX_cells hc3 ((HG2.out.block _ (blk_lt HR0.out) (by simp)).trans HR0.out) not_xt_prog
           have hbl : V3.heap[g + 1]? = some (.cells #[.bool false] 4 (0, 0)) := chgX_cells hc3 ((HG2.out.block _ (blk_lt HR1.out) (by simp)).trans HR1.out) not_xt_bool
           have p0 := hpr.c0; have p1 := hpr.c1; have p2 := hpr.f 0; have p3 := hpr.f 1
           have p4 : V3.cell? ⟨g + 1, 0, none⟩ = some (.bool false) := cell_of_row V3 (g + 1) 0 _ _ (0, 0) hbl
           have p5 : V3.frozen? ⟨g + 1, 0, none⟩ = false := by simp [World.frozen?, hbl]
           have HC3 := Lib.hid hc3; have HPR := Lib.hid hpr; have HBL := Lib.hid hbl
           clear hc3 hpr hbl))
      have hno := runB_snoc_none HM.out HST.out _ HPRE.out
      have hcf : Chg (fun k => k = g ∨ k = g + 1) V3 (((V3.setCell ⟨g, 0, none⟩ (.slice none 0 0)).setCell ⟨g, 1, none⟩ .nilIface).setCell ⟨g + 1, 0, none⟩ (.bool false)) :=
        ((Chg.row (wr := fun k => k = g ∨ k = g + 1) (gr_set V3 g 0 _) (fun k hk => .inl (by simpa using hk.symm))).trans (Chg.row (wr := fun k => k = g ∨ k = g + 1) (gr_set _ g 1 _) (fun k hk => .inl (by simpa using hk.symm))) (fun _ _ e => e) (fun _ _ e => e)).trans
          (Chg.row (wr := fun k => k = g ∨ k = g + 1) (gr_set _ (g + 1) 0 _) (fun k hk => .inr (by simpa using hk.symm))) (fun _ _ e => e) (fun _ _ e => e)
      have hk3 : KeepsK (XC g) V V3 := (KeepsK.grown HG2.out).trans (chgX_keeps HC3.out)
      have hkf : KeepsK (fun _ _ => True) V3 (((V3.setCell ⟨g, 0, none⟩ (.slice none 0 0)).setCell ⟨g, 1, none⟩ .nilIface).setCell ⟨g + 1, 0, none⟩ (.bool false)) :=
        KeepsK.ofChg hcf (fun k e => by rcases e with rfl | rfl; exact ⟨_, _, _, HPR.out, trivial⟩; exact ⟨_, _, _, HBL.out, trivial⟩)
      refine ⟨⟨Nat.le_trans hk3.size hkf.size, fun k o hB hk ho => (hkf.from w5.heap.size).same k o hB ((hk3.from w5.heap.size).same k o hB hk ho) ho⟩, ?_, ?_, ?_, hno⟩
      · exact gr_ownF (gr_ownF (gr_ownF (gr_chgX (HGR.out.trans HG2.out) hg HC3.out) (gr_set V3 g 0 _) (fun k e => by cases e; omega)) (gr_set _ g 1 _) (fun k e => by cases e; omega)) (gr_set _ (g + 1) 0 _) (fun k e => by cases e; omega)
      · exact (Below.heap_setCell _ _ _ _ (by simp)).trans ((HPR.out.set0 _).set1 _)
      · have h1 : (((V3.setCell ⟨g, 0, none⟩ (.slice none 0 0)).setCell ⟨g, 1, none⟩ .nilIface)).heap[g + 1]? = some (.cells #[.bool false] 4 (0, 0)) := (Below.heap_setCell _ _ _ _ (by simp)).trans ((Below.heap_setCell _ _ _ _ (by simp)).trans HBL.out)
        simp [World.setCell, Array.getElem?_modify] at h1 ⊢
        simp [h1]
    | some m' =>
      have HST := Lib.hid hst
      rw [hst] at HT
      clear hst
      have hbm := told_low (htd.step HST.out)
      gi_wp2_with (first
        | (refine ⟨trivial, fun h => (by cases h), ?_⟩; refine (CallsIn.inRound l1 (callsIn_wide.2 HRI.out)).mono ?_; clear HRI; rintro e V1 ⟨rfl, hg1⟩; have hg2 := hg1.trans (World.grownBy_alloc V1 (.cells #[.int .i64 k3, .int .u8 c3, .int .u8 x3] 59) none); have HTC := Lib.hid (HT.out _ hg2); have HG2 := Lib.hid hg2; have hb3 := c3_new V1 (.int .i64 k3) (.int .u8 c3) (.int .u8 x3) 59; have t0 := hb3.c0; have t1 := hb3.c1; have t2 := hb3.c2; have HB3 := Lib.hid hb3; clear hg1 hg2 HT hb3)
        | (refine ⟨trivial, fun h => (by cases h), ?_⟩; refine (CallsIn.inRound l1 (callsIn_wide.2 HTC.out)).mono ?_; clear HTC; rintro e V3 ⟨hc3, rfl, w0, w1', vs', ps', hrs3⟩
           have hpr : Pr V3 (g + 2) 53 (.slice A6 pre.length c6) .nilIface := chgX_cells hc3 ((HG2.out.block _ (blk_lt HP.out) (by simp)).trans HP.out) not_xt_prog
           have hb3 : C3 V3 V1.heap.size (.int .i64 k3) (.int .u8 c3) (.int .u8 x3) 59 := chgX_cells hc3 HB3.out not_xt_ins
           have p0 := hpr.c0; have p2 := hpr.f 0
           have q0 := hb3.c0; have q1 := hb3.c1; have q2 := hb3.c2
           have hrow : V3.ownsRow g 59 3 (.slice A6 pre.length c6) pre.length (flatI pre) := own_keep (own_keep HO.out (fun k hk => HG2.out.block k (HO.out.lt k hk).2 (by simp))) (fun k hk => by
             have hl := HO.out.lt k hk
             obtain ⟨cs, hcs⟩ := own_heap HO.out hk
             have e2 := (HG2.out.block k hl.2 (by simp)).trans hcs
             exact (chgX_cells hc3 e2 not_xt_ins).trans e2.symm)
           have HROW := Lib.hid hrow
           have hrow4 := hrow.alloc (.cells #[.int .i64 k3, .int .u8 c3, .int .u8 x3] 59)
           have HNL := Lib.hid (fun (j : Nat) (u : Value) (hj : ([.int .i64 k3, .int .u8 c3, .int .u8 x3] : List Value)[j]? = some u) => (World.news_of_block (cs := #[.int .i64 k3, .int .u8 c3, .int .u8 x3]) (heap_alloc_new V3 (.cells #[.int .i64 k3, .int .u8 c3, .int .u8 x3] 59)) j u hj : (V3.alloc (.cells #[.int .i64 k3, .int .u8 c3, .int .u8 x3] 59)).cell? ((⟨V3.heap.size, 0, none⟩ : Addr).add j) = some u))
           have hsz3 : g ≤ V3.heap.size := Nat.le_trans (Nat.le_trans (by omega) HG2.out.size) hc3.size
           have HC3 := Lib.hid hc3; have HPR := Lib.hid hpr; have HRS := Lib.hid hrs3
           clear hc3 hpr hb3 hrow hrs3)
        | (gi_at_builtin; refine wpListIn_append_own _ rfl _ _ 51 rfl g 59 i0 (.agg #[.int .i64 0, .int .u8 0, .int .u8 0]) 3 16 Tryd.underlying51 hi0 hz0 hz1 hz2 rfl (by decide) (.slice A6 pre.length c6) pre.length _ rfl hrow4 ⟨V3.heap.size, 0, none⟩ 1 1 [.int .i64 k3, .int .u8 c3, .int .u8 x3] rfl rfl HNL.out (by simp [Value.oneCell']) (by simp only [maxLen]; omega) (by omega) (by simp; omega) ?_
           intro v8 V5 hown8 hgr8 _
           obtain ⟨A8, k8, c8, rfl⟩ := own_form hown8
           have hnb : ∀ (k : Nat) (cs : Array Value) (T : TypeId) (fr : Nat × Nat), T ≠ 59 → V3.heap[k]? = some (.cells cs T fr) → V5.heap[k]? = some (.cells cs T fr) := fun k cs T fr hT hk => by
             refine (hgr8.block k (by have := blk_lt hk; simp; omega) (fun e => own_not HROW.out hk hT e.symm)).trans ((Below.heap_alloc _ _ _ (blk_lt hk)).trans hk)
           have hp5 : Pr V5 (g + 2) 53 (.slice A6 pre.length c6) .nilIface := hnb _ _ _ _ (by decide) HPR.out
           have r0 := hp5.c0; have r2 := hp5.f 0
           have HNB := Lib.hid hnb; have HP5 := Lib.hid hp5; have HO8 := Lib.hid hown8; have HGR8 := Lib.hid hgr8; have HROW4 := Lib.hid hrow4
           clear hnb hp5 hown8 hgr8 hrow4))
      have hk3 : KeepsK (XC g) V V3 := (KeepsK.grown HG2.out).trans (chgX_keeps HC3.out)
      have hk5 : KeepsK (XC g) (V3.alloc (.cells #[.int .i64 k3, .int .u8 c3, .int .u8 x3] 59)) V5 :=
        KeepsK.ofChg (Chg.row (wr := fun k => (Value.slice A6 pre.length c6).ownBlock = some k) HGR8.out (fun k e => e)) (fun k e => by
          obtain ⟨cs, hcs⟩ := own_heap HROW4.out e
          exact ⟨cs, _, _, hcs, (HROW4.out.lt k e).1, .inr (.inl rfl)⟩)
      have hk6 : KeepsK (XC g) V5 (V5.setCell ⟨g + 2, 0, none⟩ (.slice A8 k8 c8)) := KeepsK.grownX (gr_set V5 (g + 2) 0 _) HP5.out ⟨by omega, .inr (.inr rfl)⟩
      have h36 : ∀ (k : Nat) (cs : Array Value) (T : TypeId) (fr : Nat × Nat), T ≠ 59 → k ≠ g + 2 → V3.heap[k]? = some (.cells cs T fr) → (V5.setCell ⟨g + 2, 0, none⟩ (.slice A8 k8 c8)).heap[k]? = some (.cells cs T fr) := fun k cs T fr hT hk h => (Below.heap_setCell _ _ _ _ hk).trans (HNB.out k cs T fr hT h)
      refine ⟨((hk3.trans (KeepsK.alloc _ _)).trans hk5).trans hk6, ?_, ?_, ?_, ⟨.slice A8 k8 c8, HP5.out.set0 _, ?_⟩, m', w0, w1', vs', ps', (runB_snoc HM.out).trans HST.out, HRS.out.keepT (fun k cs T fr hT h => h36 k cs T fr ?_ ?_ h)⟩
      · exact gr_ownF (gr_ownF ((gr_chgX (HGR.out.trans HG2.out) hg HC3.out).trans (World.grownBy_alloc V3 _ none)) HGR8.out (fun k e => by have := (HROW4.out.lt k e).1; omega)) (gr_set V5 (g + 2) 0 _) (fun k e => by cases e; omega)
      · exact h36 _ _ _ _ (by decide) (by omega) (chgX_cells HC3.out ((HG2.out.block _ (blk_lt HR0.out) (by simp)).trans HR0.out) not_xt_prog)
      · exact h36 _ _ _ _ (by decide) (by omega) (chgX_cells HC3.out ((HG2.out.block _ (blk_lt HR1.out) (by simp)).trans HR1.out) not_xt_bool)
      · rw [flatI_snoc, List.length_append, show cellsI x = [.int .i64 k3, .int .u8 c3, .int .u8 x3] by unfold cellsI; rw [H3.out]]
        exact own_keep HO8.out (fun k hk => Below.heap_setCell _ _ _ _ (fun e => own_not HO8.out HP5.out (by decide) (by rw [hk]; simpa using e)))
      · rintro rfl
        rcases hT with (e | e | e) | e | e | e | e <;> exact absurd e (by decide)
      · rintro rfl
        have := HPR.out
        unfold Pr at this
        rw [h] at this
        cases this
        rcases hT with (e | e | e) | e | e | e | e <;> exact absurd e (by decide)
  case done =>
    rintro D V hD hI hK
    obtain ⟨hgr, hr0, hr1', ⟨iv, hp, ho⟩, m, v0, v1, vs, ps, hm, hrs⟩ := hI
    obtain ⟨A6, k6, c6, rfl⟩ := own_form ho
    obtain rfl := own_len ho
    have hlen : (cutB s).length ≤ 201 := by have := cutB_len s; have := HSL.out; omega
    have htd := runB_told _ 0 _ _ told7_nil hm
    rw [Nat.zero_add] at htd
    have htl := told_low htd
    have hw := whole_any g (g + 3) m v0 v1 vs ps V hrs (by omega) (by omega)
    have HP := Lib.hid hp
    have HR0 := Lib.hid hr0
    have HR1 := Lib.hid hr1'
    have HO := Lib.hid ho
    have HM := Lib.hid hm
    have HGR := Lib.hid hgr
    have HK := Lib.hid hK
    obtain ⟨nc, hnc⟩ : ∃ n, (cutB s).length = n := ⟨_, rfl⟩
    have HNC := Lib.hid hnc
    rw [hnc] at HP HO
    have hcode : codeT s = match whole m with | none => none | some t => if t.txt.length ≤ 80 then some t else none := by
      unfold codeT
      rw [if_neg (by have := HSL.out; omega), hm]
      rfl
    have HCODE := Lib.hid hcode
    clear hp hr0 hr1' ho hm hgr hrs htd hK hcode hnc htl
    cases hwh : whole m with
    | none =>
      rw [hwh] at hw HCODE
      have HW : Hid (Calls Tryd.prog 31 #[.pointer (some ⟨g + 3, 0, none⟩)] V fun e V1 => Chg (WX g V) V V1 ∧ ∃ x : Value, (x = .nilIface ∨ ∃ ty pv, x = .iface ty pv) ∧ e = .returned (.tuple #[x, .bool false])) := Lib.hid (hw.mono (fun e V1 h => ⟨h.1, h.2.choose, h.2.choose_spec.1, h.2.choose_spec.2.1⟩))
      clear hw
      gi_wp2_with (refine ⟨trivial, ?_⟩; gi_at_call 31; refine (callsIn_wide.2 HW.out).mono ?_; clear HW; rintro e V1 ⟨hc, x, hx, rfl⟩
                   have hpr : Pr V1 g 53 (.slice none 0 0) .nilIface := chgX_cells hc HR0.out not_xt_prog
                   have hbl : V1.heap[g + 1]? = some (.cells #[.bool false] 4 (0, 0)) := chgX_cells hc HR1.out not_xt_bool
                   have p0 := hpr.c0; have p1 := hpr.c1; have p2 := hpr.f 0; have p3 := hpr.f 1
                   have p4 : V1.cell? ⟨g + 1, 0, none⟩ = some (.bool false) := cell_of_row V1 (g + 1) 0 _ _ (0, 0) hbl
                   have p5 : V1.frozen? ⟨g + 1, 0, none⟩ = false := by simp [World.frozen?, hbl]
                   have HC := Lib.hid hc; have HPR := Lib.hid hpr; have HBL := Lib.hid hbl
                   clear hc hpr hbl
                   rcases hx with rfl | ⟨ty, pv, rfl⟩)
      all_goals
        refine ⟨trivial, ?_⟩
        gi_wp2
        obtain ⟨V2, hV2⟩ : ∃ z, ((V1.setCell ⟨g, 0, none⟩ (.slice none 0 0)).setCell ⟨g, 1, none⟩ .nilIface).setCell ⟨g + 1, 0, none⟩ (.bool false) = z := ⟨_, rfl⟩
        have hK2 : V2.heap[D]? = some (.deferred (some [])) := by
          rw [← hV2]
          refine (Below.heap_setCell _ _ _ _ (by simp; omega)).trans ((Below.heap_setCell _ _ _ _ (by simp; omega)).trans ((Below.heap_setCell _ _ _ _ (by simp; omega)).trans ?_))
          refine (HC.out.same _ (Array.getElem?_eq_some_iff.1 HK.out).1 (fun ⟨_, cs, T, fr, h2, _⟩ => ?_)).trans HK.out
          rw [HK.out] at h2; cases h2
        have hp2 : V2.heap[g]? = some (.cells #[.slice none 0 0, .nilIface] 53 (0, 0)) := by rw [← hV2]; exact (Below.heap_setCell _ _ _ _ (by simp)).trans ((HPR.out.set0 _).set1 _)
        have hb2 : V2.heap[g + 1]? = some (.cells #[.bool false] 4 (0, 0)) := by
          have h1 : (((V1.setCell ⟨g, 0, none⟩ (.slice none 0 0)).setCell ⟨g, 1, none⟩ .nilIface)).heap[g + 1]? = some (.cells #[.bool false] 4 (0, 0)) := (Below.heap_setCell _ _ _ _ (by simp)).trans ((Below.heap_setCell _ _ _ _ (by simp)).trans HBL.out)
          rw [← hV2]
          simp [World.setCell, Array.getElem?_modify] at h1 ⊢
          simp [h1]
        have hgf : w.grownBy V2 none := by
          rw [← hV2]
          exact gr_ownF (gr_ownF (gr_ownF (gr_chgX HGR.out hg HC.out) (gr_set V1 g 0 _) (fun k e => by cases e; omega)) (gr_set _ g 1 _) (fun k e => by cases e; omega)) (gr_set _ (g + 1) 0 _) (fun k e => by cases e; omega)
        rw [hV2]
        clear hV2 p0 p1 p2 p3 p4 p5
        obtain ⟨m0, m1, m2⟩ := res_boxes hp2 hb2 (show g + 2 ≤ D by omega) (.deferred none)
        refine ⟨by simp, .inl ⟨_, _, rfl, run_takeDeferred hK2, ?_⟩⟩
        exact ⟨.tuple #[.agg #[.slice none 0 0, .nilIface], .bool false], by simp [results, Tryd.results15, go_sem, m0, m1, m2], readP_none HCODE.out (gr_ownF hgf (grownBy_putObj' V2 D _) (fun k e => by cases e; omega)) rfl⟩
    | some t =>
      rw [hwh] at hw HCODE
      obtain ⟨hto, htl⟩ := whole_told HSL.out HM.out hwh
      have HW : Hid (Calls Tryd.prog 31 #[.pointer (some ⟨g + 3, 0, none⟩)] V fun e V1 => Chg (WX g V) V V1 ∧ ∃ ty pv, PT V1 (fun _ => True) t (.iface ty pv) ∧ e = .returned (.tuple #[.iface ty pv, .bool true])) := Lib.hid (hw.mono (fun e V1 h => by
        obtain ⟨h1, x, _, h3, h4⟩ := h
        have h5 := h4 t rfl
        obtain ⟨ty, pv, rfl⟩ := h5.iface
        exact ⟨h1, ty, pv, h5, h3⟩))
      have HTO := Lib.hid hto
      clear hw hto
      obtain ⟨tl, htl2⟩ : ∃ n, t.txt.length = n := ⟨_, rfl⟩
      have HTL := Lib.hid htl2
      have hbs : (bytesOf t.txt).size = tl := by rw [← htl2]; rfl
      have hcd : codeT s = if tl ≤ 80 then some t else none := by rw [← htl2]; exact HCODE.out
      have HCD := Lib.hid hcd
      rw [htl2] at htl
      clear htl2 hcd HCODE
      by_cases h80 : tl ≤ 80
      · have hd80 : ¬ ((80 : Int) < ((tl : Nat) : Int)) := by omega
        gi_wp2_with (first
          | (refine ⟨trivial, ?_⟩; gi_at_call 31; refine (callsIn_wide.2 HW.out).mono ?_; clear HW; rintro e V1 ⟨hc, ty, pv, hpt, rfl⟩
             have HTX := Lib.hid (textof_any t _ ty pv V1 HTO.out hpt (by have := HTL.out; omega))
             have HC := Lib.hid hc; have HPT := Lib.hid hpt
             clear hc hpt)
          | (refine ⟨trivial, ?_⟩; gi_at_call 32; refine (callsIn_wide.2 HTX.out).mono ?_; clear HTX; rintro e V2 ⟨rfl, hg2⟩
             have hpr : Pr V2 g 53 (.slice none 0 0) .nilIface := Pr.grown (chgX_cells HC.out HR0.out not_xt_prog) hg2 (by simp)
             have hpp : Pr V2 (g + 2) 53 (.slice A6 nc c6) .nilIface := Pr.grown (chgX_cells HC.out HP.out not_xt_prog) hg2 (by simp)
             have hb1 : V1.heap[g + 1]? = some (.cells #[.bool false] 4 (0, 0)) := chgX_cells HC.out HR1.out not_xt_bool
             have hbl : V2.heap[g + 1]? = some (.cells #[.bool false] 4 (0, 0)) := (hg2.block _ (blk_lt hb1) (by simp)).trans hb1
             have p0 := hpr.c0; have p1 := hpr.c1; have p2 := hpr.f 0; have p3 := hpr.f 1
             have p4 : V2.cell? ⟨g + 1, 0, none⟩ = some (.bool false) := cell_of_row V2 (g + 1) 0 _ _ (0, 0) hbl
             have p5 : V2.frozen? ⟨g + 1, 0, none⟩ = false := by simp [World.frozen?, hbl]
             have p6 := hpp.c0; have p7 := hpp.c1; have p8 := hpp.f 1
             have hdk : V2.heap[D]? = some (.deferred (some [])) := by
               have h1 : V1.heap[D]? = some (.deferred (some [])) := (HC.out.same _ (Array.getElem?_eq_some_iff.1 HK.out).1 (fun ⟨_, cs, T, fr, h2, _⟩ => by rw [HK.out] at h2; cases h2)).trans HK.out
               exact (hg2.block _ (Array.getElem?_eq_some_iff.1 h1).1 (by simp)).trans h1
             have hrow : V2.ownsRow g 59 3 (.slice A6 nc c6) nc (flatI (cutB s)) := own_keep HO.out (fun k hk => by
               obtain ⟨cs, hcs⟩ := own_heap HO.out hk
               have h1 := chgX_cells HC.out hcs not_xt_ins
               exact ((hg2.block _ (blk_lt h1) (by simp)).trans h1).trans hcs.symm)
             have HPR := Lib.hid hpr; have HPP := Lib.hid hpp; have HBL := Lib.hid hbl; have HDK := Lib.hid hdk; have HRW := Lib.hid hrow; have HP2 := Lib.hid (HPT.out.grown hg2); have HG2 := Lib.hid ((gr_chgX HGR.out hg HC.out).trans hg2)
             clear hpr hpp hb1 hbl hdk hrow hg2))
        have hn : ∀ {k : Nat} {cs : Array Value} {T : TypeId} {fr : Nat × Nat}, T ≠ 53 → T ≠ 4 → V2.heap[k]? = some (.cells cs T fr) → (putR (V2.setCell ⟨g + 2, 1, none⟩ (.iface ty pv)) g (.slice A6 nc c6) (.iface ty pv) (.bool true)).heap[k]? = some (.cells cs T fr) := fun {k cs T fr} h1 h2 h => by
          refine (putR_same ?_ ?_).trans ((Below.heap_setCell _ _ _ _ ?_).trans h)
          · rintro rfl; have := HPR.out; unfold Pr at this; rw [h] at this; cases this; exact h1 rfl
          · rintro rfl; have := HBL.out; rw [h] at this; cases this; exact h2 rfl
          · rintro rfl; have := HPP.out; unfold Pr at this; rw [h] at this; cases this; exact h1 rfl
        have hpr3 : Pr (V2.setCell ⟨g + 2, 1, none⟩ (.iface ty pv)) g 53 (.slice none 0 0) .nilIface := (Below.heap_setCell _ _ _ _ (by simp)).trans HPR.out
        have hbl3 : (V2.setCell ⟨g + 2, 1, none⟩ (.iface ty pv)).heap[g + 1]? = some (.cells #[.bool false] 4 (0, 0)) := (Below.heap_setCell _ _ _ _ (by simp)).trans HBL.out
        obtain ⟨e0, e1⟩ := putR_res (a := .slice A6 nc c6) (b := .iface ty pv) (r := .bool true) hpr3 hbl3
        have hgf : w.grownBy (putR (V2.setCell ⟨g + 2, 1, none⟩ (.iface ty pv)) g (.slice A6 nc c6) (.iface ty pv) (.bool true)) none := putR_gr (gr_ownF HG2.out (gr_set V2 (g + 2) 1 _) (fun k e => by cases e; omega)) hg
        have hdk : (putR (V2.setCell ⟨g + 2, 1, none⟩ (.iface ty pv)) g (.slice A6 nc c6) (.iface ty pv) (.bool true)).heap[D]? = some (.deferred (some [])) := (putR_same (by omega) (by omega)).trans ((Below.heap_setCell _ _ _ _ (by simp; omega)).trans HDK.out)
        have hrow := own_keepT HRW.out (fun k cs fr h => hn (by decide) (by decide) h)
        have hpt := PT.keepT (S' := fun _ => True) (fun b' xs T fr _ hT h => hn (by rcases hT with e | e | e <;> rw [e] <;> decide) (by rcases hT with e | e | e <;> rw [e] <;> decide) h) (fun _ _ _ => trivial) _ _ HP2.out
        clear hn hpr3 hbl3 p0 p1 p2 p3 p4 p5 p6 p7 p8
        change bodyPostM _ _ _ _ _ _ _ (putR (V2.setCell ⟨g + 2, 1, none⟩ (.iface ty pv)) g (.slice A6 nc c6) (.iface ty pv) (.bool true))
        generalize putR (V2.setCell ⟨g + 2, 1, none⟩ (.iface ty pv)) g (.slice A6 nc c6) (.iface ty pv) (.bool true) = V3 at e0 e1 hgf hdk hrow hpt ⊢
        obtain ⟨m0, m1, m2⟩ := res_boxes e0 e1 (show g + 2 ≤ D by omega) (.deferred none)
        refine ⟨by simp, .inl ⟨_, _, rfl, run_takeDeferred hdk, ?_⟩⟩
        refine ⟨.tuple #[.agg #[.slice A6 nc c6, .iface ty pv], .bool true], by simp [results, Tryd.results15, go_sem, m0, m1, m2], readP_some (HCD.out.trans (if_pos h80)) (gr_ownF hgf (grownBy_putObj' V3 D _) (fun k e => by cases e; omega)) rfl ?_ ?_⟩
        · rw [HNC.out, hg]
          exact own_keepT hrow (fun k cs fr h => putObj_cells hdk h)
        · exact PT.keepT (fun b' xs T fr _ _ h => putObj_cells hdk h) (fun _ _ _ => trivial) _ _ hpt
      · have hd80 : ((80 : Int) < ((tl : Nat) : Int)) := by omega
        gi_wp2_with (first
          | (refine ⟨trivial, ?_⟩; gi_at_call 31; refine (callsIn_wide.2 HW.out).mono ?_; clear HW; rintro e V1 ⟨hc, ty, pv, hpt, rfl⟩
             have HTX := Lib.hid (textof_any t _ ty pv V1 HTO.out hpt (by have := HTL.out; omega))
             have HC := Lib.hid hc; have HPT := Lib.hid hpt
             clear hc hpt)
          | (refine ⟨trivial, ?_⟩; gi_at_call 32; refine (callsIn_wide.2 HTX.out).mono ?_; clear HTX; rintro e V2 ⟨rfl, hg2⟩
             have hpr : Pr V2 g 53 (.slice none 0 0) .nilIface := Pr.grown (chgX_cells HC.out HR0.out not_xt_prog) hg2 (by simp)
             have hpp : Pr V2 (g + 2) 53 (.slice A6 nc c6) .nilIface := Pr.grown (chgX_cells HC.out HP.out not_xt_prog) hg2 (by simp)
             have hb1 : V1.heap[g + 1]? = some (.cells #[.bool false] 4 (0, 0)) := chgX_cells HC.out HR1.out not_xt_bool
             have hbl : V2.heap[g + 1]? = some (.cells #[.bool false] 4 (0, 0)) := (hg2.block _ (blk_lt hb1) (by simp)).trans hb1
             have p0 := hpr.c0; have p1 := hpr.c1; have p2 := hpr.f 0; have p3 := hpr.f 1
             have p4 : V2.cell? ⟨g + 1, 0, none⟩ = some (.bool false) := cell_of_row V2 (g + 1) 0 _ _ (0, 0) hbl
             have p5 : V2.frozen? ⟨g + 1, 0, none⟩ = false := by simp [World.frozen?, hbl]
             have p6 := hpp.c0; have p7 := hpp.c1; have p8 := hpp.f 1
             have hdk : V2.heap[D]? = some (.deferred (some [])) := by
               have h1 : V1.heap[D]? = some (.deferred (some [])) := (HC.out.same _ (Array.getElem?_eq_some_iff.1 HK.out).1 (fun ⟨_, cs, T, fr, h2, _⟩ => by rw [HK.out] at h2; cases h2)).trans HK.out
               exact (hg2.block _ (Array.getElem?_eq_some_iff.1 h1).1 (by simp)).trans h1
             have hrow : V2.ownsRow g 59 3 (.slice A6 nc c6) nc (flatI (cutB s)) := own_keep HO.out (fun k hk => by
               obtain ⟨cs, hcs⟩ := own_heap HO.out hk
               have h1 := chgX_cells HC.out hcs not_xt_ins
               exact ((hg2.block _ (blk_lt h1) (by simp)).trans h1).trans hcs.symm)
             have HPR := Lib.hid hpr; have HPP := Lib.hid hpp; have HBL := Lib.hid hbl; have HDK := Lib.hid hdk; have HRW := Lib.hid hrow; have HP2 := Lib.hid (HPT.out.grown hg2); have HG2 := Lib.hid ((gr_chgX HGR.out hg HC.out).trans hg2)
             clear hpr hpp hb1 hbl hdk hrow hg2))
        obtain ⟨e0, e1⟩ := putR_res (a := .slice none 0 0) (b := .nilIface) (r := .bool false) HPR.out HBL.out
        have hgf : w.grownBy (putR V2 g (.slice none 0 0) .nilIface (.bool false)) none := putR_gr HG2.out hg
        have hdk : (putR V2 g (.slice none 0 0) .nilIface (.bool false)).heap[D]? = some (.deferred (some [])) := (putR_same (by omega) (by omega)).trans HDK.out
        clear p0 p1 p2 p3 p4 p5 p6 p7 p8
        change bodyPostM _ _ _ _ _ _ _ (putR V2 g (.slice none 0 0) .nilIface (.bool false))
        generalize putR V2 g (.slice none 0 0) .nilIface (.bool false) = V3 at e0 e1 hgf hdk ⊢
        obtain ⟨m0, m1, m2⟩ := res_boxes e0 e1 (show g + 2 ≤ D by omega) (.deferred none)
        refine ⟨by simp, .inl ⟨_, _, rfl, run_takeDeferred hdk, ?_⟩⟩
        exact ⟨.tuple #[.agg #[.slice none 0 0, .nilIface], .bool false], by simp [results, Tryd.results15, go_sem, m0, m1, m2], readP_none (HCD.out.trans (if_neg h80)) (gr_ownF hgf (grownBy_putObj' V3 D _) (fun k e => by cases e; omega)) rfl⟩
  case stop =>
    rintro D pre V hD _ hI hK
    gi_wp2
    obtain ⟨m0, m1, m2⟩ := res_boxes hI.r0 hI.r1 (show g + 2 ≤ D by omega) (.deferred none)
    have hgf := hI.gr
    have hcode : codeT s = none := by
      unfold codeT
      rw [if_neg (by have := HSL.out; omega), hI.no]
    refine ⟨by simp, .inl ⟨_, _, rfl, run_takeDeferred hK, ?_⟩⟩
    exact ⟨.tuple #[.agg #[.slice none 0 0, .nilIface], .bool false], by simp [results, Tryd.results15, go_sem, m0, m1, m2], readP_none hcode (gr_ownF hgf (grownBy_putObj' V D _) (fun k e => by cases e; omega)) rfl⟩

theorem readc_any (s : ByteArray) (w : World) : Calls Tryd.prog 15 #[.string s] w (ReadP s w) := by
  rcases Nat.lt_or_ge 200 s.size with h | h
  · exact readc_long s w h
  · exact readc_in s w h
end

/-- The number of an instruction's kind. -/
def kn : Ins → Int
  | .dig _ => 1
  | .var _ => 2
  | .pre _ => 3
  | .two _ => 4
  | .beg _ _ => 5
  | .fin _ => 6
theorem ri3_ins {x : ByteArray} {i : Ins} (h : insOf x = some i) : (ri3 x).1 = kn i := by
  have h1 := riV_of x
  rw [h] at h1
  simp only at h1
  rw [riV_eq] at h1
  cases i <;> (simp only [Ins.val, insT, Value.agg.injEq] at h1; simp at h1; exact h1.1)

theorem codeT_ran {s : ByteArray} {t : Tm} (h : codeT s = some t) : s.size ≤ 200 ∧ ∃ m, runB (cutB s) ([], []) = some m := by
  unfold codeT at h
  by_cases hs : 200 < s.size
  · rw [if_pos hs] at h; cases h
  · rw [if_neg hs] at h
    refine ⟨by omega, ?_⟩
    cases hr : runB (cutB s) ([], []) with
    | none => rw [hr] at h; cases h
    | some m => exact ⟨m, rfl⟩

section
open Go.RowKit
theorem flatI_at : ∀ (l : List ByteArray) (j : Nat) (x : ByteArray), l[j]? = some x → (flatI l)[j * 3]? = some (.int .i64 (ri3 x).1) ∧ (flatI l)[j * 3 + 1]? = some (.int .u8 (ri3 x).2.1) ∧ (flatI l)[j * 3 + 2]? = some (.int .u8 (ri3 x).2.2)
  | [], j, x, h => by simp at h
  | y :: l, 0, x, h => by simp at h; subst h; exact ⟨rfl, rfl, rfl⟩
  | y :: l, j + 1, x, h => by
    have := flatI_at l j x (by simpa using h)
    have e1 : (j + 1) * 3 = j * 3 + 1 + 1 + 1 := by omega
    rw [e1]
    exact this
theorem irow3 {w : World} {base : Nat} {A : Option Addr} {k c : Nat} {xs : List ByteArray} (h : w.ownsRow base 59 3 (.slice A k c) xs.length (flatI xs)) :
    k = xs.length ∧ k ≤ c ∧ (0 < k → ∃ g, A = some ⟨g, 0, none⟩ ∧ g < w.heap.size ∧ ∀ (j : Nat) (x : ByteArray), xs[j]? = some x → w.cell? ⟨g, j * 3, none⟩ = some (.int .i64 (ri3 x).1) ∧ w.cell? ⟨g, j * 3 + 1, none⟩ = some (.int .u8 (ri3 x).2.1) ∧ w.cell? ⟨g, j * 3 + 2, none⟩ = some (.int .u8 (ri3 x).2.2)) := by
  rcases h.2 with ⟨hv, hn⟩ | ⟨g, cap, cur, hv, _, hg, hnc, hcm, hcs, htake⟩
  · cases hv
    exact ⟨by omega, by omega, fun h => by omega⟩
  · cases hv
    refine ⟨rfl, hnc, fun _ => ⟨g, rfl, (Array.getElem?_eq_some_iff.1 hg).1, fun j x hj => ?_⟩⟩
    have hjl : j < xs.length := by
      rcases Nat.lt_or_ge j xs.length with h | h
      · exact h
      · rw [List.getElem?_eq_none h] at hj; cases hj
    have hf := flatI_at xs j x hj
    have hc : ∀ i, i < xs.length * 3 → w.cell? ⟨g, i, none⟩ = (flatI xs)[i]? := fun i hi => by
      rw [cell_of_row w g i _ _ (0, 0) hg, ← htake, List.getElem?_take, if_pos hi]
      simp
    exact ⟨(hc _ (by omega)).trans hf.1, (hc _ (by omega)).trans hf.2.1, (hc _ (by omega)).trans hf.2.2⟩
end
end

/- InstI -/
section
open Go.RowKit

theorem take_snocI {α : Type} {l : List α} {j : Nat} {x : α} (h : l[j]? = some x) : l.take (j + 1) = l.take j ++ [x] := by rw [List.take_add_one, h]; rfl
theorem infoStI : (Tryd.prog.info? 9).map (fun i => (i.zero, i.size, i.bytes)) = some (some (.string .empty), 1, 16) := by kernel_rfl

/-- The text of what was read. -/
def itext (x : ByteArray) : ByteArray := if (ri3 x).1 = 5 then strOfNums [(ri3 x).2.1, (ri3 x).2.2] else one (ri3 x).2.1
theorem byt_ba {x : ByteArray} {i : Nat} (h : i < x.size) : byt (ba x i) = x.data.toList[i]'(by simpa using h) := by
  rw [ba_in h]
  unfold byt
  simp
  rfl
theorem one_of {x : ByteArray} (h : x.size = 1) : one (ba x 0) = x := by
  have hb := byt_ba (x := x) (i := 0) (by omega)
  have hl : x.data.toList.length = 1 := by simpa using h
  apply ByteArray.ext
  apply Array.toList_inj.1
  rw [one_data, hb]
  apply List.ext_getElem (by simp [hl])
  intro i h1 h2
  obtain rfl : i = 0 := by simp at h1; omega
  rfl
theorem two_of {x : ByteArray} (h : x.size = 2) : strOfNums [ba x 0, ba x 1] = x := by
  have hb := byt_ba (x := x) (i := 0) (by omega)
  have hb1 := byt_ba (x := x) (i := 1) (by omega)
  have hl : x.data.toList.length = 2 := by simpa using h
  apply ByteArray.ext
  apply Array.toList_inj.1
  rw [strOfNums_data]
  apply List.ext_getElem (by simp [hl])
  intro i h1 h2
  have : i = 0 ∨ i = 1 := by simp at h1; omega
  rcases this with rfl | rfl
  · exact hb
  · exact hb1
theorem itext_is {x : ByteArray} {i : Ins} (h : insOf x = some i) : itext x = x := by
  have hk := ri3_ins h
  unfold insOf at h
  unfold itext
  by_cases h1 : x.size = 1
  · rw [if_pos h1] at h
    have h5 : (ri3 x).1 ≠ 5 := by
      rw [hk]
      unfold ins1 at h
      (repeat' split at h) <;> first | (cases h; simp [kn]) | cases h
    rw [if_neg h5]
    unfold ri3 at h5 ⊢
    by_cases hd : kd (ba x 0) ≠ 5
    · rw [if_pos ⟨h1, hd⟩]; exact one_of h1
    · exfalso
      unfold kd at hd
      unfold ins1 at h
      (repeat' split at h) <;> (try simp_all) <;> omega
  · rw [if_neg h1] at h
    by_cases h2 : x.size = 2 ∧ (ba x 0 = 91 ∨ ba x 0 = 123) ∧ isL (ba x 1) = true
    · rw [if_pos h2] at h
      cases h
      rw [if_pos (by rw [hk]; rfl)]
      have hk5 : kd (ba x 0) = 5 := by rcases h2.2.1 with e | e <;> rw [e] <;> decide
      unfold ri3
      rw [if_neg (by omega), if_pos ⟨h2.1, hk5, h2.2.2⟩]
      exact two_of h2.1
    · rw [if_neg h2] at h; cases h
theorem runB_ins : ∀ (l : List ByteArray) (m m' : MS), runB l m = some m' → ∀ x ∈ l, ∃ i, insOf x = some i
  | [], _, _, _, x, hx => by simp at hx
  | y :: l, m, m', h, x, hx => by
    simp only [runB] at h
    cases hs : stepB y m with
    | none => rw [hs] at h; cases h
    | some m1 =>
      rw [hs] at h
      rcases List.mem_cons.1 hx with rfl | hx
      · unfold stepB at hs
        cases hi : insOf x with
        | none => rw [hi] at hs; cases hs
        | some i => exact ⟨i, rfl⟩
      · exact runB_ins l m1 m' h x hx

theorem conv_two (w : World) (a b : Int) (k : Nat) (hk : w.heap.size = k) : (convert 44 9 (.slice (some ⟨k, 0, none⟩) 2 2)).run Tryd.prog (w.alloc (.cells #[.int .u8 a, .int .u8 b] 5)) = .ok (.string (strOfNums [a, b])) (w.alloc (.cells #[.int .u8 a, .int .u8 b] 5)) := by
  subst hk
  refine run_convert_bytes_arg (P := Tryd.prog) _ 44 5 Tryd.underlying44 Tryd.underlying5 w.heap.size 0 2 2 [a, b] rfl ?_ 9 Tryd.underlying9
  intro i hi
  have : i = 0 ∨ i = 1 := by omega
  rcases this with rfl | rfl
  · exact cell_of_row _ _ 0 _ _ (0, 0) (heap_alloc_new _ _)
  · exact cell_of_row _ _ 1 _ _ (0, 0) (heap_alloc_new _ _)

set_option maxHeartbeats 1000000 in
theorem instext_any (x : ByteArray) (k c v : Int) (hk : (ri3 x).1 = k) (hc : (ri3 x).2.1 = c) (hv : (ri3 x).2.2 = v) (w : World) :
    Calls Tryd.prog 16 #[.agg #[.int .i64 k, .int .u8 c, .int .u8 v]] w fun e w' => e = .returned (.string (itext x)) ∧ w.grownBy w' none := by
  obtain ⟨w1, hw1⟩ : ∃ z, w.alloc (.cells #[.int .i64 k, .int .u8 c, .int .u8 v] 59) = z := ⟨_, rfl⟩
  have hx : C3 w1 w.heap.size (.int .i64 k) (.int .u8 c) (.int .u8 v) 59 := by rw [← hw1]; exact c3_new _ _ _ _ _
  have g1 : w.grownBy w1 none := by rw [← hw1]; exact World.grownBy_alloc _ _ _
  have x0 := hx.c0
  have x1 := hx.c1
  have x2 := hx.c2
  have HG1 := Lib.hid g1
  obtain ⟨z, hz⟩ : ∃ z, itext x = z := ⟨_, rfl⟩
  rw [hz]
  unfold itext at hz
  rw [hk, hc, hv] at hz
  clear hx g1 hk hc hv
  by_cases h5 : k = 5
  · subst h5
    rw [if_pos rfl] at hz
    have hcv := conv_two w1 c v w1.heap.size rfl
    rw [hz] at hcv
    clear hz
    go_enter Tryd.func16, Tryd.ntmps16
    go_wp2_with fail
    go_ret
    exact ⟨rfl, HG1.out.trans (World.grownBy_alloc _ _ _)⟩
  · rw [if_neg h5] at hz
    have e5 : (k == 5) = false := by simpa using h5
    have hcv := conv_byte w1 c w1.heap.size rfl
    rw [hz] at hcv
    clear hz
    go_enter Tryd.func16, Tryd.ntmps16
    go_wp2_with fail
    go_ret
    exact ⟨rfl, HG1.out.trans (World.grownBy_alloc _ _ _)⟩

/-- What InstructionsOf answers. -/
def instA (s : ByteArray) : List ByteArray := match codeT s with
  | some _ => cutB s
  | none => []
theorem instA_len (s : ByteArray) : (instA s).length ≤ 201 := by
  cases h : codeT s with
  | none => unfold instA; rw [h]; simp
  | some t => unfold instA; rw [h]; have := cutB_len s; have := (codeT_ran h).1; simp only; omega
def InsP (ss : List ByteArray) (w : World) (e : Ending) (w' : World) : Prop := ∃ u, e = .returned u ∧ w.grownBy w' none ∧ OwnS w' w.heap.size u ss

set_option maxRecDepth 100000 in
set_option maxHeartbeats 2000000 in
theorem inst_impl (s : ByteArray) (w : World) :
    Calls Tryd.prog 9 #[.string s] w (InsP (instA s) w) := by
  obtain ⟨i0, hi0, hz0, hz1, hz2⟩ := info_parts infoStI
  have H := Lib.hid (readc_any s w)
  unfold InsP
  cases hc : codeT s with
  | none =>
    have HC := Lib.hid hc
    have HA : Hid (instA s = []) := Lib.hid (by unfold instA; rw [hc])
    clear hc
    go_enter Tryd.func9, Tryd.ntmps9
    go_wp2_with fail
    refine H.out.mono ?_
    intro e w1 hp
    obtain ⟨hg, hp⟩ := hp
    rw [HC.out] at hp
    obtain rfl := hp
    have hx := Pr.new w1 53 (.slice none 0 0) .nilIface
    have x0 := hx.c0
    have HG := Lib.hid (hg.trans (World.grownBy_alloc w1 (.cells #[.slice none 0 0, .nilIface] 53) none))
    clear hg hx
    go_wp2_with fail
    go_loopw [5, 16] (fun o i wr => o = .slice none 0 0 ∧ i = .int .i64 0 ∧ Hid (w.grownBy wr none)) (fun _ _ _ => 0)
    case atStart => exact ⟨rfl, rfl, HG⟩
    case round =>
      obtain ⟨rfl, rfl, hgr⟩ := hrel
      go_wp2_with fail
      go_ret
      refine ⟨_, rfl, hgr.out, ?_⟩
      rw [HA.out]
      exact ⟨rfl, .inl ⟨rfl, rfl⟩⟩
  | some t =>
    have HC := Lib.hid hc
    have HA : Hid (instA s = cutB s) := Lib.hid (by unfold instA; rw [hc])
    have hran := codeT_ran hc
    have HLE := Lib.hid (show (cutB s).length ≤ 201 by have := cutB_len s; omega)
    have HIN : Hid (∀ x ∈ cutB s, itext x = x) := Lib.hid (by
      obtain ⟨m, hm⟩ := hran.2
      intro x hx
      obtain ⟨i, hi⟩ := runB_ins _ _ _ hm x hx
      exact itext_is hi)
    clear hc hran
    go_enter Tryd.func9, Tryd.ntmps9
    go_wp2_with fail
    refine H.out.mono ?_
    intro e w1 hp
    obtain ⟨hg, hp⟩ := hp
    rw [HC.out] at hp
    obtain ⟨iv, xv, rfl, h1, h2⟩ := hp
    obtain ⟨A1, k, c1, rfl⟩ := own_form h1
    obtain ⟨ty, pv, rfl⟩ := h2.iface
    obtain ⟨w2, hw2⟩ : ∃ z, w1.alloc (.cells #[.slice A1 k c1, .iface ty pv] 53) = z := ⟨_, rfl⟩
    have g2 : w1.grownBy w2 none := by rw [← hw2]; exact World.grownBy_alloc _ _ _
    have hx : Pr w2 w1.heap.size 53 (.slice A1 k c1) (.iface ty pv) := by rw [← hw2]; exact Pr.new _ _ _ _
    have x0 := hx.c0
    obtain ⟨hk, hkc, hrow⟩ := irow3 h1
    have HK := Lib.hid hk
    have hk2 : k ≤ 201 := by have := HLE.out; omega
    have HROW := Lib.hid hrow
    have HG1 := Lib.hid hg
    have HG2 := Lib.hid g2
    clear hg h1 h2 hk hrow g2 hx
    go_wp2_with fail
    go_loopw [5, 16] (fun o i wr => ∃ j : Nat, j ≤ k ∧ i = .int .i64 j ∧ Hid (wr.ownsRow w2.heap.size 9 1 o j (strV ((cutB s).take j))) ∧ Hid (w2.grownBy wr none)) (fun _ i _ => k - (intOf i).toNat)
    case atStart => exact ⟨0, Nat.zero_le _, rfl, Lib.hid ⟨rfl, .inl ⟨rfl, rfl⟩⟩, Lib.hid (gr_refl _ _)⟩
    case round =>
      obtain ⟨j0, hj, rfl, hown, hgr⟩ := hrel
      obtain ⟨A5, j, c5, rfl⟩ := own_form hown.out
      obtain rfl := own_len hown.out
      by_cases hlt : j < k
      · obtain ⟨g, rfl, hg1, hcell⟩ := HROW.out (by omega)
        obtain ⟨x, hx⟩ : ∃ x, (cutB s)[j]? = some x := ⟨_, List.getElem?_eq_getElem (by have := HK.out; omega)⟩
        obtain ⟨q0, q1, q2⟩ := hcell j x hx
        have hgw := HG2.out.trans hgr.out
        have c0 := hgw.cell q0 (by simp)
        have c1 := hgw.cell q1 (by simp)
        have c2 := hgw.cell q2 (by simp)
        have HTK := Lib.hid (take_snocI hx)
        have HXI := Lib.hid (HIN.out x (List.mem_of_getElem? hx))
        obtain ⟨kk, hkk⟩ : ∃ q, (ri3 x).1 = q := ⟨_, rfl⟩
        obtain ⟨sg, hsg⟩ : ∃ q, (ri3 x).2.1 = q := ⟨_, rfl⟩
        obtain ⟨vr, hvr⟩ : ∃ q, (ri3 x).2.2 = q := ⟨_, rfl⟩
        have HT := Lib.hid (fun u => instext_any x kk sg vr hkk hsg hvr u)
        rw [HXI.out] at HT
        rw [hkk] at c0
        rw [hsg] at c1
        rw [hvr] at c2
        have HLT := Lib.hid hown.out.1
        clear hcell q0 q1 q2 hx hkk hsg hvr hgw x0
        go_wp2_with fail
        refine (HT.out _).mono ?_
        rintro e w3 ⟨rfl, hg3⟩
        have hg3' := (World.grownBy_alloc wr (.cells #[.int .i64 kk, .int .u8 sg, .int .u8 vr] 59) none).trans hg3
        have hown2 := own_keep hown.out (fun b hb => hg3'.block b (hown.out.lt b hb).2 (by simp))
        have own1 := hown2.alloc (.cells #[.string x] 9)
        have HG3 := Lib.hid (hgr.out.trans hg3')
        have HSZ := Lib.hid HG3.out.size
        clear hg3 hg3' hown2 c0 c1 c2
        go_wp2_with (at_builtin; refine wpList_append_own_at _ rfl _ _ 32 rfl w2.heap.size 9 i0 (.string .empty) 1 16 Tryd.underlying32 hi0 hz0 hz1 hz2 rfl (by decide) _ _ _ rfl own1 ⟨w3.heap.size, 0, none⟩ 1 1 [.string x] rfl rfl ?a1 ?a2 ?a3 ?a4 ?a5 ?_)
        case a1 => exact cell_one_new _ _ _
        case a2 => simp [Value.oneCell']
        case a3 => simp only [maxLen]; omega
        case a4 => omega
        case a5 => have := HSZ.out; rw [World.size_alloc]; omega
        intro v8 w8 hown8 hg8 _ _
        have HO8 := Lib.hid hown8
        have HG9 := Lib.hid (gr_ownF (HG3.out.trans (World.grownBy_alloc w3 (.cells #[.string x] 9) none)) hg8 (fun b hb => (own1.lt b hb).1))
        obtain ⟨A8, k8, c8, rfl⟩ := own_form hown8
        clear hown8 hg8 own1
        go_wp2_with fail
        go_roundw
        case rel => exact ⟨j + 1, by omega, by go_num, Lib.hid (by rw [HTK.out, strV_snoc]; exact HO8.out), HG9⟩
        case measure => simp [intOf]; omega
      · have hjk : j = k := by omega
        have HJ := Lib.hid hjk
        clear hjk
        go_wp2_with fail
        go_ret
        refine ⟨_, rfl, HG1.out.trans (HG2.out.trans hgr.out), ?_⟩
        have h4 := hown.out
        have e1 : (cutB s).take j = cutB s := by rw [HJ.out, HK.out, List.take_length]
        rw [e1] at h4
        rw [HA.out]
        unfold OwnS
        rw [← HK.out, ← HJ.out]
        exact own_base h4 (Nat.le_trans HG1.out.size HG2.out.size)
end

/- CodI -/
section
open Go.RowKit

theorem gr_below {w1 w2 w3 : World} (h : w1.grownBy w2 none) (hb : Below w1.heap.size w2 w3) : w1.grownBy w3 none :=
  ⟨hb.os.trans h.os, hb.tape.trans h.tape, hb.output.trans h.output, Nat.le_trans h.size hb.size, fun k hk _ => (hb.block k hk).trans (h.block k hk (by simp))⟩

set_option maxRecDepth 100000 in
set_option maxHeartbeats 2000000 in
theorem cod_impl (s : ByteArray) (w : World) : Calls Tryd.prog 8 #[.string s] w (CodP s w) := by
  have H := Lib.hid (term_any s w)
  unfold CodP codeV
  cases hr : readT s with
  | none =>
    have HR := Lib.hid hr
    simp only
    clear hr
    go_enter Tryd.func8, Tryd.ntmps8
    go_wp2_with fail
    refine H.out.mono ?_
    intro e w1 hp
    unfold TermPost at hp
    rw [HR.out] at hp
    obtain ⟨rfl, hg⟩ := hp
    have HG := Lib.hid hg
    clear hg
    go_wp2_with fail
    go_ret2
    exact ⟨rfl, HG.out⟩
  | some t =>
    have HR := Lib.hid hr
    have hok := readT_some hr
    have HOK := Lib.hid (And.intro hok.2.2.1 hok.2.2.2)
    simp only
    obtain ⟨z, hz⟩ : ∃ z : ByteArray, ⟨(codeL t).toArray⟩ = z := ⟨_, rfl⟩
    have HZ := Lib.hid hz
    rw [hz]
    clear hr hok hz
    go_enter Tryd.func8, Tryd.ntmps8
    go_wp2_with fail
    refine H.out.mono ?_
    intro e w1 hp
    unfold TermPost at hp
    rw [HR.out] at hp
    obtain ⟨v, rfl, hg, ha⟩ := hp
    obtain ⟨ty, pv, rfl⟩ := ha.iface
    have HG := Lib.hid hg
    have hg2 := World.grownBy_alloc w1 (.cells #[.pointer none, .slice none 0 0] CW) none
    have hwb : WB (w1.alloc (.cells #[.pointer none, .slice none 0 0] CW)) w1.heap.size w1.heap.size [] := Lib.fresh_isBuilder CW U8 w1
    have hpt : PT (w1.alloc (.cells #[.pointer none, .slice none 0 0] CW)) (fun k => k < w1.heap.size) t (.iface ty pv) := ha.keep (fun k _ hk => hg2.block k hk (by simp)) (fun _ _ hk => hk) t _
    have HC := Lib.hid (wt_any t.size t (.iface ty pv) w1.heap.size w1.heap.size [] _ (Nat.le_refl _) HOK.out.1 hpt hwb (by have := HOK.out.2; simp; omega))
    have HG2 := Lib.hid hg2
    clear hg ha hg2 hwb hpt
    go_wp2_with fail
    refine HC.out.mono ?_
    rintro e w3 ⟨rfl, hw3, hb3, -⟩
    have HS := Lib.hid (bstr_any w1.heap.size w1.heap.size (codeL t) w3 hw3 (codeL_ne t))
    rw [HZ.out] at HS
    have HB3 := Lib.hid hb3
    clear hw3 hb3
    go_wp2_with fail
    refine HS.out.mono ?_
    rintro e w4 ⟨rfl, hb4⟩
    have HB4 := Lib.hid hb4
    clear hb4
    go_wp2_with fail
    go_ret2
    exact ⟨rfl, HG.out.trans (gr_below HG2.out (HB3.out.trans HB4.out))⟩
end

/- FStp -/
section
open Go.RowKit

def fstpA (s : ByteArray) : Int := match readT s with
  | some t => (t.ins.length : Int)
  | none => -1

set_option maxHeartbeats 1000000 in
theorem fstpL_any (t : Tm) (S : Nat → Prop) (a b : Int) (A : Option Addr) (k c : Nat) (w : World) (hsz : t.size ≤ 1000) (ho : t.Ok) (h : SN w S t (a, b, .slice A k c)) :
    Calls Tryd.prog 7 #[.agg #[.int .u8 a, .int .u8 b, .slice A k c]] w fun e w' => e = .returned (.int .i64 (t.ins.length : Int)) ∧ w.grownBy w' none := by
  obtain ⟨w2, hw2⟩ : ∃ z, w.alloc (.cells #[.int .u8 a, .int .u8 b, .slice A k c] 26) = z := ⟨_, rfl⟩
  have g2 : w.grownBy w2 none := by rw [← hw2]; exact World.grownBy_alloc _ _ _
  have hx : C3 w2 w.heap.size (.int .u8 a) (.int .u8 b) (.slice A k c) 26 := by rw [← hw2]; exact c3_new _ _ _ _ _
  have x0 := hx.c0
  have x1 := hx.c1
  have x2 := hx.c2
  have HL := Lib.hid (slst_any t.size t _ a b A k c w2 (Nat.le_refl _) hsz ho (h.grown g2))
  have HG := Lib.hid g2
  have HW := Lib.hid hw2
  clear h g2 hx hw2
  go_enter Tryd.func7, Tryd.ntmps7
  go_wp2_with fail
  rw [HW.out]
  go_wp2_with fail
  refine HL.out.mono ?_
  rintro e w3 ⟨v, rfl, hg3, ho3⟩
  obtain ⟨A3, k3, c3, rfl⟩ := own_form ho3
  obtain rfl := own_len ho3
  have HG3 := Lib.hid (HG.out.trans hg3)
  clear hg3 ho3 x0 x1 x2
  go_wp2_with fail
  go_ret
  exact ⟨rfl, HG3.out⟩

set_option maxHeartbeats 1000000 in
theorem fstp_spec (s : ByteArray) (hs : s.size ≤ 1048576) (w : World) : Calls Tryd.prog 4 #[.string s] w fun e w' => e = .returned (.int .i64 (fstpA s)) ∧ w.grownBy w' none := by
  have H := Lib.hid (sterm_any s hs w)
  unfold fstpA
  cases hr : readT s with
  | none =>
    have HR := Lib.hid hr
    simp only
    clear hr
    go_enter Tryd.func4, Tryd.ntmps4
    go_wp2_with fail
    refine H.out.mono ?_
    intro e w1 hp
    unfold STermPost at hp
    rw [HR.out] at hp
    obtain ⟨rfl, hg⟩ := hp
    have HG := Lib.hid (hg.trans (World.grownBy_alloc w1 (.cells #[.int .u8 0, .int .u8 0, .slice none 0 0] 26) none))
    clear hg
    go_wp2_with fail
    go_ret
    exact ⟨rfl, HG.out⟩
  | some t =>
    have HR := Lib.hid hr
    have hok := readT_some hr
    have HOK := Lib.hid (And.intro hok.2.2.1 hok.2.2.2)
    simp only
    obtain ⟨n, hn⟩ : ∃ n, t.ins.length = n := ⟨_, rfl⟩
    have HN := Lib.hid hn
    rw [hn]
    clear hr hok hn
    go_enter Tryd.func4, Tryd.ntmps4
    go_wp2_with fail
    refine H.out.mono ?_
    intro e w1 hp
    unfold STermPost at hp
    rw [HR.out] at hp
    obtain ⟨a, b, A, k, c, rfl, hg, ha⟩ := hp
    obtain ⟨w2, hw2⟩ : ∃ z, w1.alloc (.cells #[.int .u8 a, .int .u8 b, .slice A k c] 26) = z := ⟨_, rfl⟩
    have g2 : w1.grownBy w2 none := by rw [← hw2]; exact World.grownBy_alloc _ _ _
    have hx : C3 w2 w1.heap.size (.int .u8 a) (.int .u8 b) (.slice A k c) 26 := by rw [← hw2]; exact c3_new _ _ _ _ _
    have x0 := hx.c0
    have x1 := hx.c1
    have x2 := hx.c2
    have HL := Lib.hid (fstpL_any t _ a b A k c w2 (by have := HOK.out.2; omega) HOK.out.1 (ha.grown g2))
    rw [HN.out] at HL
    have HG := Lib.hid (hg.trans g2)
    have HW := Lib.hid hw2
    clear hg ha g2 hx hw2
    go_wp2_with fail
    rw [HW.out]
    go_wp2_with fail
    refine HL.out.mono ?_
    rintro e w3 ⟨rfl, hg3⟩
    have HG3 := Lib.hid (HG.out.trans hg3)
    clear hg3 x0 x1 x2
    go_wp2_with fail
    go_ret
    exact ⟨rfl, HG3.out⟩

set_option maxHeartbeats 1000000 in
theorem fstp_impl (s : ByteArray) (w : World) : Calls Tryd.prog 5 #[.string s] w fun e w' => e = .returned (.int .i64 (fstpA s)) ∧ w.grownBy w' none := by
  have H := Lib.hid (cod_impl s w)
  unfold CodP codeV at H
  unfold fstpA
  cases hr : readT s with
  | none =>
    rw [hr] at H
    simp only at H ⊢
    clear hr
    go_enter Tryd.func5, Tryd.ntmps5
    go_wp2_with fail
    refine H.out.mono ?_
    rintro e w1 ⟨rfl, hg1⟩
    have HG1 := Lib.hid hg1
    clear hg1
    go_wp2_with fail
    go_ret
    exact ⟨rfl, HG1.out⟩
  | some t =>
    have hok := readT_some hr
    have htl := readT_len hr
    have ho := hok.2.2.1
    have hl : t.txt.length ≤ 80 := by omega
    have hc := codeL_len ho hl
    have hct := codeT_code ho hl (by omega)
    have hi : instA (mkB (codeL t)) = t.ins.map mkB := by unfold instA; rw [hct]; exact cutB_code ho
    have HI := Lib.hid (fun w => inst_impl (mkB (codeL t)) w)
    rw [hi] at HI
    rw [hr] at H
    simp only at H ⊢
    have hz : (⟨(codeL t).toArray⟩ : ByteArray) = mkB (codeL t) := rfl
    rw [hz] at H
    generalize mkB (codeL t) = z at H HI
    obtain ⟨n, hn⟩ : ∃ n, t.ins.length = n := ⟨_, rfl⟩
    have HN := Lib.hid hn
    rw [hn]
    clear hr hok htl ho hl hc hct hi hz hn
    go_enter Tryd.func5, Tryd.ntmps5
    go_wp2_with fail
    refine H.out.mono ?_
    rintro e w1 ⟨rfl, hg1⟩
    have HG1 := Lib.hid hg1
    clear hg1
    go_wp2_with fail
    refine (HI.out _).mono ?_
    rintro e w2 ⟨u, rfl, hg2, ho2⟩
    obtain ⟨A2, k2, c2, rfl⟩ := own_form ho2
    have hk2 := own_len ho2
    rw [List.length_map, HN.out] at hk2
    subst hk2
    have HG2 := Lib.hid hg2
    clear hg2 ho2
    go_wp2_with fail
    go_ret
    exact ⟨rfl, HG1.out.trans HG2.out⟩
end

end Go.Proofs.YtdfanconjiiceaaDoor
