/- The law FnExactInstructionsOf: for every text both functions answer alike, what is answered owns its memory, and the argument reads as it did. No condition but the library's own tables. -/
import Derived.Test.YtfaeolnmkdjhaaaDoorCVal
import Derived.Test.YtfaeolnmkdjhaaaDoorGr
import Derived.Test.YtfaeolnmkdjhaaaDoorPr
import Derived.IntWalk
import Derived.Below
import Derived.Test.YtfaeolnmkdjhaaaDoorOwn
import Derived.Test.YtfaeolnmkdjhaaaDoorSTxtA
import Derived.Laws.OwnMore
import Derived.Test.YtfaeolnmkdjhaaaDoorOne
import Derived.ProofKit
import Derived.Test.YtfaeolnmkdjhaaaDoorTie
import Derived.Test.YtfaeolnmkdjhaaaDoorCards
import Derived.Lay
import Derived.OpenShut
import Derived.Stop.Joined
namespace Go.Proofs.YtfaeolnmkdjhaaaDoor
section

/-- The number of an instruction's kind. -/
def kn : Ins → Int
  | .dig _ => 1
  | .var _ => 2
  | .pre _ => 3
  | .two _ => 4
  | .beg _ _ => 5
  | .fin _ => 6
theorem ri3_ins {x : ByteArray} {i : Ins} (h : insOf x = some i) : (ri3 x).1 = kn i := by
  have h1 := riV_of x
  rw [h] at h1
  simp only at h1
  rw [riV_eq] at h1
  cases i <;> (simp only [Ins.val, insT, Value.agg.injEq] at h1; simp at h1; exact h1.1)

/-- What a kind adds to the height. -/
def gk (k : Int) : Int := if k = 1 ∨ k = 2 then 1 else if k = 4 ∨ k = 6 then -1 else 0
theorem gk_kn (i : Ins) : gk (kn i) = grow i := by cases i <;> simp [gk, kn, grow]
theorem gk_bd (k : Int) : -1 ≤ gk k ∧ gk k ≤ 1 := by unfold gk; split <;> (try split) <;> omega

/-- The heights, by kinds. -/
def sumsG : Int → List ByteArray → List Int
  | _, [] => []
  | h, x :: l => (h + gk (ri3 x).1) :: sumsG (h + gk (ri3 x).1) l
/-- The height behind some instructions. -/
def hAt (h : Int) : List ByteArray → Int
  | [] => h
  | x :: l => hAt (h + gk (ri3 x).1) l
theorem hAt_snoc (h : Int) (l : List ByteArray) (x : ByteArray) : hAt h (l ++ [x]) = hAt h l + gk (ri3 x).1 := by
  induction l generalizing h with
  | nil => rfl
  | cons y l ih => exact ih _
theorem hAt_bd (h : Int) (l : List ByteArray) : h - l.length ≤ hAt h l ∧ hAt h l ≤ h + l.length := by
  induction l generalizing h with
  | nil => simp [hAt]
  | cons y l ih =>
    have h1 := ih (h + gk (ri3 y).1)
    have h2 := gk_bd (ri3 y).1
    simp only [hAt, List.length_cons]
    omega
theorem sumsG_snoc (h : Int) (l : List ByteArray) (x : ByteArray) : sumsG h (l ++ [x]) = sumsG h l ++ [hAt h l + gk (ri3 x).1] := by
  induction l generalizing h with
  | nil => rfl
  | cons y l ih => simp only [List.cons_append, sumsG, hAt, ih]
theorem sumsG_len (h : Int) (l : List ByteArray) : (sumsG h l).length = l.length := by
  induction l generalizing h with
  | nil => rfl
  | cons y l ih => simp only [sumsG, List.length_cons, ih]
theorem hts_sums : ∀ (l : List ByteArray) (m m' : MS), runB l m = some m' → sumsG (hgt m) l = htsB l m
  | [], _, _, _ => rfl
  | x :: l, m, m', h => by
    simp only [runB] at h
    cases hs : stepB x m with
    | none => rw [hs] at h; cases h
    | some m1 =>
      rw [hs] at h
      have h2 := hs
      unfold stepB at h2
      cases hi : insOf x with
      | none => rw [hi] at h2; cases h2
      | some i =>
        rw [hi] at h2
        have h3 := step_hgt h2
        simp only [sumsG, htsB, hs]
        rw [ri3_ins hi, gk_kn, ← h3, hts_sums l m1 m' h]

/-- The level of an instruction, and the level behind it, by its kind. -/
def lk (k l : Int) : Int := if k = 6 then l - 1 else l
def lb2 (k l : Int) : Int := if k = 5 then lk k l + 1 else lk k l
def lvsG : Int → List ByteArray → List Int
  | _, [] => []
  | h, x :: l => lk (ri3 x).1 h :: lvsG (lb2 (ri3 x).1 h) l
def lAt (h : Int) : List ByteArray → Int
  | [] => h
  | x :: l => lAt (lb2 (ri3 x).1 h) l
theorem lAt_snoc (h : Int) (l : List ByteArray) (x : ByteArray) : lAt h (l ++ [x]) = lb2 (ri3 x).1 (lAt h l) := by
  induction l generalizing h with
  | nil => rfl
  | cons y l ih => exact ih _
theorem lb2_bd (k l : Int) : l - 1 ≤ lb2 k l ∧ lb2 k l ≤ l + 1 := by unfold lb2 lk; split <;> split <;> omega
theorem lAt_bd (h : Int) (l : List ByteArray) : h - l.length ≤ lAt h l ∧ lAt h l ≤ h + l.length := by
  induction l generalizing h with
  | nil => simp [lAt]
  | cons y l ih =>
    have h1 := ih (lb2 (ri3 y).1 h)
    have h2 := lb2_bd (ri3 y).1 h
    simp only [lAt, List.length_cons]
    omega
theorem lvsG_snoc (h : Int) (l : List ByteArray) (x : ByteArray) : lvsG h (l ++ [x]) = lvsG h l ++ [lk (ri3 x).1 (lAt h l)] := by
  induction l generalizing h with
  | nil => rfl
  | cons y l ih => simp only [List.cons_append, lvsG, lAt, ih]
theorem lvsG_len (h : Int) (l : List ByteArray) : (lvsG h l).length = l.length := by
  induction l generalizing h with
  | nil => rfl
  | cons y l ih => simp only [lvsG, List.length_cons, ih]
theorem lk_kn (i : Ins) (a b : Nat) (h : (b : Int) = a + levD i) : lk (kn i) a = ((min a b : Nat) : Int) ∧ lb2 (kn i) a = b := by
  cases i <;> simp only [levD] at h <;> simp only [lb2, lk, kn] <;> (constructor <;> simp <;> omega)
theorem lvs_sums : ∀ (l : List ByteArray) (m m' : MS), runB l m = some m' → lvsG m.2.length l = lvsB l m
  | [], _, _, _ => rfl
  | x :: l, m, m', h => by
    simp only [runB] at h
    cases hs : stepB x m with
    | none => rw [hs] at h; cases h
    | some m1 =>
      rw [hs] at h
      have h2 := hs
      unfold stepB at h2
      cases hi : insOf x with
      | none => rw [hi] at h2; cases h2
      | some i =>
        rw [hi] at h2
        have h3 := lk_kn i m.2.length m1.2.length (step_lev h2)
        simp only [lvsG, lvsB, hs]
        rw [ri3_ins hi, h3.1, h3.2, lvs_sums l m1 m' h]

/-- What HeightsOf and LevelsAt answer. -/
def htA (s : ByteArray) : List Int := match codeT s with
  | some _ => htsB (cutB s) ([], [])
  | none => []
def lvA (s : ByteArray) : List Int := match codeT s with
  | some _ => lvsB (cutB s) ([], [])
  | none => []
theorem codeT_ran {s : ByteArray} {t : Tm} (h : codeT s = some t) : s.size ≤ 200 ∧ ∃ m, runB (cutB s) ([], []) = some m := by
  unfold codeT at h
  by_cases hs : 200 < s.size
  · rw [if_pos hs] at h; cases h
  · rw [if_neg hs] at h
    refine ⟨by omega, ?_⟩
    cases hr : runB (cutB s) ([], []) with
    | none => rw [hr] at h; cases h
    | some m => exact ⟨m, rfl⟩
theorem htA_sums {s : ByteArray} {t : Tm} (h : codeT s = some t) : htA s = sumsG 0 (cutB s) := by
  obtain ⟨_, m, hm⟩ := codeT_ran h
  unfold htA
  rw [h]
  exact (hts_sums _ _ _ hm).symm
theorem lvA_sums {s : ByteArray} {t : Tm} (h : codeT s = some t) : lvA s = lvsG 0 (cutB s) := by
  obtain ⟨_, m, hm⟩ := codeT_ran h
  unfold lvA
  rw [h]
  exact (lvs_sums _ _ _ hm).symm
theorem htA_len (s : ByteArray) : (htA s).length ≤ 201 := by
  cases h : codeT s with
  | none => unfold htA; rw [h]; simp
  | some t => rw [htA_sums h, sumsG_len]; have := cutB_len s; have := (codeT_ran h).1; omega
theorem lvA_len (s : ByteArray) : (lvA s).length ≤ 201 := by
  cases h : codeT s with
  | none => unfold lvA; rw [h]; simp
  | some t => rw [lvA_sums h, lvsG_len]; have := cutB_len s; have := (codeT_ran h).1; omega
end

section
open Go.RowKit

/-- The slice's cells are these ints. -/
def Ints (w : World) (A : Option Addr) (zs : List Int) : Prop :=
  0 < zs.length → ∃ b off, A = some ⟨b, off, none⟩ ∧ b < w.heap.size ∧ ∀ (j : Nat) (z : Int), zs[j]? = some z → w.cell? ⟨b, off + j, none⟩ = some (.int .i64 z)
theorem Ints.grown {w w' : World} {A : Option Addr} {zs : List Int} {row : Option Nat} (h : Ints w A zs) (hg : w.grownBy w' row) (hne : ∀ b off, A = some ⟨b, off, none⟩ → some b ≠ row) : Ints w' A zs := fun hl => by
  obtain ⟨b, off, rfl, hb, hc⟩ := h hl
  exact ⟨b, off, rfl, Nat.lt_of_lt_of_le hb hg.size, fun j z hj => hg.cell (hc j z hj) (hne b off rfl)⟩
theorem Ints.at_ {w : World} {A : Option Addr} {zs : List Int} {j : Nat} (h : Ints w A zs) (hj : j < zs.length) : ∃ b off, A = some ⟨b, off, none⟩ ∧ w.cell? ⟨b, off + j, none⟩ = some (.int .i64 zs[j]) := by
  obtain ⟨b, off, hA, _, hc⟩ := h (by omega)
  exact ⟨b, off, hA, hc j _ (List.getElem?_eq_getElem hj)⟩
theorem Ints.of_own {w : World} {base e : Nat} {A : Option Addr} {k c : Nat} {zs : List Int} (h : w.ownsRow base e 1 (.slice A k c) zs.length (zs.map (Value.int .i64))) : Ints w A zs := fun hl => by
  rcases h.2 with ⟨hv, hn⟩ | ⟨g, cap, cur, hv, _, hg, hnc, _, hcs, htake⟩
  · omega
  · cases hv
    refine ⟨g, 0, rfl, (Array.getElem?_eq_some_iff.1 hg).1, fun j z hj => ?_⟩
    have hjl : j < zs.length := by
      rcases Nat.lt_or_ge j zs.length with h | h
      · exact h
      · rw [List.getElem?_eq_none h] at hj; cases hj
    rw [Nat.zero_add, cell_of_row w g j _ _ (0, 0) hg]
    have : (cur.toList.take (zs.length * 1))[j]? = some (.int .i64 z) := by rw [htake, List.getElem?_map, hj]; rfl
    rw [List.getElem?_take, if_pos (by omega)] at this
    simpa using this

set_option maxHeartbeats 400000 in
theorem eqi_any (A B : Option Addr) (c d : Nat) (zs : List Int) (w : World) (h : Ints w A zs) (h2 : Ints w B zs) (hn : zs.length ≤ 1048576) :
    Calls Tryd.prog 20 #[.slice A zs.length c, .slice B zs.length d] w fun e w' => e = .returned (.bool true) ∧ w.grownBy w' none := by
  have HS := Lib.hid h
  have HS2 := Lib.hid h2
  obtain ⟨n, hnn⟩ : ∃ n, zs.length = n := ⟨_, rfl⟩
  have HN := Lib.hid hnn
  rw [hnn] at hn ⊢
  clear h h2 hnn
  have hnn : ((n : Int) != (n : Int)) = false := by simp
  go_enter Tryd.func20, Tryd.ntmps20
  go_wp2_with fail
  clear hnn
  go_loopw [5] (fun i wr => ∃ j : Nat, j ≤ n ∧ i = .int .i64 j ∧ Hid (w.grownBy wr none)) (fun i _ => n - (intOf i).toNat)
  case atStart => exact ⟨0, Nat.zero_le _, rfl, Lib.hid (gr_refl _ _)⟩
  case round =>
    obtain ⟨j, hj, rfl, hgr⟩ := hrel
    by_cases hlt : j < n
    · have hjz : j < zs.length := by have := HN.out; omega
      obtain ⟨b, off, rfl, hcell⟩ := (HS.out.grown hgr.out (by simp)).at_ hjz
      obtain ⟨b2, off2, rfl, hcell2⟩ := (HS2.out.grown hgr.out (by simp)).at_ hjz
      generalize zs[j] = z at hcell hcell2
      have hj0 : (0 : Int) ≤ (j : Int) := by omega
      have hj1 : (j : Int) < (n : Int) := by omega
      have hzz : (z != z) = false := by simp
      go_wp2_with fail
      go_quiet (fail)
      go_wp2_with fail
      go_roundw
      case rel => exact ⟨j + 1, by omega, by go_num, Lib.hid (hgr.out.trans (gr_drewN _ _ _))⟩
      case measure => simp [intOf]; omega
    · go_wp2_with fail
      go_ret
      exact ⟨rfl, hgr.out⟩

/-- The numbers from k on. -/
def upFrom (k n : Nat) : List Int := (List.range n).map fun i => ((k + i : Nat) : Int)
theorem upFrom_length (k n : Nat) : (upFrom k n).length = n := by simp [upFrom]
theorem upFrom_at {k n j : Nat} (h : j < n) : (upFrom k n)[j]? = some ((k + j : Nat) : Int) := by simp [upFrom, h]

set_option maxHeartbeats 400000 in
theorem held_any (A : Option Addr) (c k n : Nat) (w : World) (h : Ints w A (upFrom k n)) (hn : n ≤ 1048576) (hk : k ≤ 1000000000) :
    Calls Tryd.prog 22 #[.slice A n c, .int .i64 (k : Int)] w fun e w' => e = .returned (.int .i64 ((k + n : Nat) : Int)) ∧ w = w' := by
  have HS := Lib.hid h
  clear h
  go_enter Tryd.func22, Tryd.ntmps22
  go_wp2_with fail
  go_loop [1, 5] (fun u i => ∃ j : Nat, j ≤ n ∧ i = .int .i64 j ∧ u = .int .i64 ((k + j : Nat) : Int)) (fun _ i => n - (intOf i).toNat)
  case atStart => exact ⟨0, Nat.zero_le _, rfl, rfl⟩
  case round =>
    obtain ⟨j, hj, rfl, rfl⟩ := hrel
    by_cases hlt : j < n
    · obtain ⟨b, off, rfl, _, hc⟩ := HS.out (by rw [upFrom_length]; omega)
      have hcell := hc j _ (upFrom_at hlt)
      clear hc
      obtain ⟨z, hz⟩ : ∃ z : Nat, z = k + j := ⟨_, rfl⟩
      rw [← hz] at hcell
      have HZ := Lib.hid hz
      rw [← hz]
      have hz2 : z ≤ 1001048576 := by omega
      clear hz
      go_wp2_with fail
      go_round
      case rel => exact ⟨j + 1, by omega, by go_num, by rw [HZ.out]; go_num⟩
      case measure => simp [intOf]; omega
    · have hjn : j = n := by omega
      have HJ := Lib.hid hjn
      clear hjn
      go_wp2_with fail
      go_ret
      exact ⟨by rw [HJ.out]; rfl, rfl⟩

/-- How markIntS ends: the row holds the numbers from k on. -/
def MarkPost (base k n : Nat) (A : Option Addr) (c : Nat) (w : World) (e : Ending) (w' : World) : Prop :=
  e = .returned (.int .i64 ((k + n : Nat) : Int)) ∧ w.grownBy w' (Value.slice A n c).ownBlock ∧ w'.ownsRow base 3 1 (.slice A n c) n ((upFrom k n).map (Value.int .i64))

set_option maxHeartbeats 400000 in
theorem mark_any (A : Option Addr) (base c k n : Nat) (xs : List Value) (w : World) (h : w.ownsRow base 3 1 (.slice A n c) n xs) (hn : n ≤ 1048576) (hk : k ≤ 1000000000) :
    Calls Tryd.prog 21 #[.slice A n c, .int .i64 (k : Int)] w (MarkPost base k n A c w) := by
  have HO := Lib.hid h
  clear h
  go_enter Tryd.func21, Tryd.ntmps21
  go_wp2_with fail
  go_loopw [1, 5] (fun u i wr => ∃ (j : Nat) (ys : List Value), j ≤ n ∧ i = .int .i64 j ∧ u = .int .i64 ((k + j : Nat) : Int) ∧ Hid (wr.ownsRow base 3 1 (.slice A n c) n ys) ∧ Hid (∀ i, i < j → ys[i]? = some (.int .i64 ((k + i : Nat) : Int))) ∧ Hid (w.grownBy wr (Value.slice A n c).ownBlock)) (fun _ i _ => n - (intOf i).toNat)
  case atStart => exact ⟨0, xs, Nat.zero_le _, rfl, rfl, HO, Lib.hid (fun i hi => by omega), Lib.hid (gr_refl _ _)⟩
  case round =>
    obtain ⟨j, ys, hj, rfl, rfl, ho, hys, hgr⟩ := hrel
    by_cases hlt : j < n
    · obtain ⟨g, rfl⟩ : ∃ g, A = some ⟨g, 0, none⟩ := by
        rcases ho.out.2 with ⟨hv, hn0⟩ | ⟨g, cap, cur, hv, _⟩
        · omega
        · cases hv; exact ⟨g, rfl⟩
      have hyl : ys.length = n := by have := ho.out.1; omega
      have hcell : wr.cell? ⟨g, j, none⟩ = some ys[j] := (ho.out.cellAt j (by omega)).trans (List.getElem?_eq_getElem (by omega))
      have hfr := ho.out.frozenAt j
      generalize ys[j] = y0 at hcell
      obtain ⟨z, hz⟩ : ∃ z : Nat, z = k + j := ⟨_, rfl⟩
      have HZ := Lib.hid hz
      rw [← hz]
      have hz2 : z ≤ 1001048576 := by omega
      have HYL := Lib.hid hyl
      have hst := ho.out.stored j (.int .i64 (z : Int))
      have HST := Lib.hid hst
      clear hz hyl hst
      go_wp2_with fail
      go_roundw
      case rel =>
        refine ⟨j + 1, ys.set j (.int .i64 (z : Int)), by omega, by go_num, by rw [HZ.out]; go_num, Lib.hid HST.out.1, Lib.hid (fun i hi => ?_), Lib.hid (hgr.out.trans HST.out.2)⟩
        rw [List.getElem?_set]
        by_cases e : j = i
        · subst e
          rw [if_pos rfl, if_pos (by have := HYL.out; omega), HZ.out]
        · rw [if_neg e]
          exact hys.out i (by omega)
      case measure => simp [intOf]; omega
    · have hjn : j = n := by omega
      have HJ := Lib.hid hjn
      clear hjn
      go_wp2_with fail
      go_ret
      refine ⟨by rw [HJ.out]; rfl, hgr.out, ?_⟩
      have e : ys = (upFrom k n).map (Value.int .i64) := by
        refine List.ext_getElem? fun i => ?_
        have hyl : ys.length = n := by have := ho.out.1; omega
        rcases Nat.lt_or_ge i n with h | h
        · rw [hys.out i (by rw [HJ.out]; exact h), List.getElem?_map, upFrom_at h]; rfl
        · rw [List.getElem?_eq_none (by omega), List.getElem?_eq_none (by rw [List.length_map, upFrom_length]; omega)]
      rw [← e]
      exact ho.out
theorem infoJ : (Tryd.prog.info? 3).map (fun i => (i.zero, i.size, i.bytes)) = some (some (.int .i64 0), 1, 8) := by kernel_rfl
end

section
open Go.RowKit

set_option maxHeartbeats 1000000 in
theorem growth_any (k c v : Int) (w : World) :
    Calls Tryd.prog 44 #[.agg #[.int .i64 k, .int .u8 c, .int .u8 v]] w fun e w' => e = .returned (.int .i64 (gk k)) ∧ w.grownBy w' none := by
  have HX := Lib.hid (c3_new w (.int .i64 k) (.int .u8 c) (.int .u8 v) 53)
  have x0 := HX.out.c0
  obtain ⟨r, hr⟩ : ∃ r, gk k = r := ⟨_, rfl⟩
  rw [hr]
  by_cases h1 : k = 1
  · subst h1
    obtain rfl : 1 = r := hr
    go_enter Tryd.func44, Tryd.ntmps44
    go_wp2_with fail
    go_ret
    exact ⟨rfl, World.grownBy_alloc _ _ _⟩
  by_cases h2 : k = 2
  · subst h2
    obtain rfl : 1 = r := hr
    go_enter Tryd.func44, Tryd.ntmps44
    go_wp2_with fail
    go_ret
    exact ⟨rfl, World.grownBy_alloc _ _ _⟩
  by_cases h4 : k = 4
  · subst h4
    obtain rfl : -1 = r := hr
    go_enter Tryd.func44, Tryd.ntmps44
    go_wp2_with fail
    go_ret
    exact ⟨rfl, World.grownBy_alloc _ _ _⟩
  by_cases h6 : k = 6
  · subst h6
    obtain rfl : -1 = r := hr
    go_enter Tryd.func44, Tryd.ntmps44
    go_wp2_with fail
    go_ret
    exact ⟨rfl, World.grownBy_alloc _ _ _⟩
  obtain rfl : 0 = r := by rw [← hr]; unfold gk; rw [if_neg (by omega), if_neg (by omega)]
  have e1 : (k == 1) = false := by simpa using h1
  have e2 : (k == 2) = false := by simpa using h2
  have e4 : (k == 4) = false := by simpa using h4
  have e6 : (k == 6) = false := by simpa using h6
  clear hr
  go_enter Tryd.func44, Tryd.ntmps44
  go_wp2_with fail
  go_ret
  exact ⟨rfl, World.grownBy_alloc _ _ _⟩

/-- How a row of instructions reads. -/
theorem flatI_at : ∀ (l : List ByteArray) (j : Nat) (x : ByteArray), l[j]? = some x → (flatI l)[j * 3]? = some (.int .i64 (ri3 x).1) ∧ (flatI l)[j * 3 + 1]? = some (.int .u8 (ri3 x).2.1) ∧ (flatI l)[j * 3 + 2]? = some (.int .u8 (ri3 x).2.2)
  | [], j, x, h => by simp at h
  | y :: l, 0, x, h => by simp at h; subst h; exact ⟨rfl, rfl, rfl⟩
  | y :: l, j + 1, x, h => by
    have := flatI_at l j x (by simpa using h)
    have e1 : (j + 1) * 3 = j * 3 + 1 + 1 + 1 := by omega
    rw [e1]
    exact this
theorem irow3 {w : World} {base : Nat} {A : Option Addr} {k c : Nat} {xs : List ByteArray} (h : w.ownsRow base 53 3 (.slice A k c) xs.length (flatI xs)) :
    k = xs.length ∧ k ≤ c ∧ (0 < k → ∃ g, A = some ⟨g, 0, none⟩ ∧ g < w.heap.size ∧ ∀ (j : Nat) (x : ByteArray), xs[j]? = some x → w.cell? ⟨g, j * 3, none⟩ = some (.int .i64 (ri3 x).1) ∧ w.cell? ⟨g, j * 3 + 1, none⟩ = some (.int .u8 (ri3 x).2.1) ∧ w.cell? ⟨g, j * 3 + 2, none⟩ = some (.int .u8 (ri3 x).2.2)) := by
  rcases h.2 with ⟨hv, hn⟩ | ⟨g, cap, cur, hv, _, hg, hnc, hcm, hcs, htake⟩
  · cases hv
    exact ⟨by omega, by omega, fun h => by omega⟩
  · cases hv
    refine ⟨rfl, hnc, fun _ => ⟨g, rfl, (Array.getElem?_eq_some_iff.1 hg).1, fun j x hj => ?_⟩⟩
    have hjl : j < xs.length := by
      rcases Nat.lt_or_ge j xs.length with h | h
      · exact h
      · rw [List.getElem?_eq_none h] at hj; cases hj
    have hf := flatI_at xs j x hj
    have hc : ∀ i, i < xs.length * 3 → w.cell? ⟨g, i, none⟩ = (flatI xs)[i]? := fun i hi => by
      rw [cell_of_row w g i _ _ (0, 0) hg, ← htake, List.getElem?_take, if_pos hi]
      simp
    exact ⟨(hc _ (by omega)).trans hf.1, (hc _ (by omega)).trans hf.2.1, (hc _ (by omega)).trans hf.2.2⟩

theorem makeH_run (n : Nat) (hn : n ≤ 1048576) (u : World) : (Instr.makeSlice 29 (.int .i64 (n : Int)) (.int .i64 (n : Int))).run Tryd.prog u =
    .ok (.slice (some ⟨u.heap.size, 0, none⟩) n n) (u.alloc (.cells (madeCells #[.int .i64 0] n) 3)) := by
  obtain ⟨i0, hi0, hz0, hz1, hz2⟩ := info_parts infoJ
  have h := run_make (P := Tryd.prog) u 29 3 i0 (.int .i64 0) Tryd.underlying29 hi0 hz0 .i64 .i64 (n : Int) (n : Int) (by omega) (Int.le_refl _) (by rw [hz2]; omega) (by omega)
  simpa [hz1, Value.cells] using h
theorem madeH_own (w : World) (n : Nat) (hn : n ≤ 1048576) : (w.alloc (.cells (madeCells #[.int .i64 0] n) 3)).ownsRow w.heap.size 3 1 (.slice (some ⟨w.heap.size, 0, none⟩) n n) n (madeCells #[.int .i64 0] n).toList :=
  World.ownsRow_lit (base := w.heap.size) (e := 3) (size := 1) w (madeCells #[.int .i64 0] n) n (Nat.le_refl _) (by simp only [maxLen]; omega) (by simp [madeCells])
theorem take_setH {α : Type} (ys : List α) (m : Nat) (v : α) (h : m < ys.length) : (ys.set m v).take (m + 1) = ys.take m ++ [v] := by
  rw [List.take_add_one, List.take_set_of_le (Nat.le_refl _), List.getElem?_set_self h]
  rfl
theorem take_snocH {α : Type} {l : List α} {j : Nat} {x : α} (h : l[j]? = some x) : l.take (j + 1) = l.take j ++ [x] := by rw [List.take_add_one, h]; rfl

/-- How heights and levels end: a row of the call's own. -/
def RowP (zs : List Int) (w : World) (e : Ending) (w' : World) : Prop := ∃ v, e = .returned v ∧ w.grownBy w' none ∧ w'.ownsRow w.heap.size 3 1 v zs.length (inV zs)

set_option maxRecDepth 100000 in
set_option maxHeartbeats 4000000 in
theorem heights_any (base : Nat) (A : Option Addr) (k c : Nat) (ty : TypeId) (pv : Value) (xs : List ByteArray) (w : World) (h : w.ownsRow base 53 3 (.slice A k c) xs.length (flatI xs)) (hl : xs.length ≤ 1000) :
    Calls Tryd.prog 34 #[.agg #[.slice A k c, .iface ty pv]] w (RowP (sumsG 0 xs) w) := by
  obtain ⟨hk, hkc, hrow⟩ := irow3 h
  have HK := Lib.hid hk
  have hk2 : k ≤ 1000 := by omega
  have HROW := Lib.hid hrow
  have hmk := makeH_run k (by omega)
  obtain ⟨w1, hw1⟩ : ∃ z, w.alloc (.cells #[.slice A k c, .iface ty pv] 45) = z := ⟨_, rfl⟩
  have g1 : w.grownBy w1 none := by rw [← hw1]; exact World.grownBy_alloc _ _ _
  have hx : Pr w1 w.heap.size 45 (.slice A k c) (.iface ty pv) := by rw [← hw1]; exact Pr.new _ _ _ _
  have x0 := hx.c0
  have hx2 := hx.alloc (.cells (madeCells #[.int .i64 0] k) 3)
  have y0 := hx2.c0
  have HO := Lib.hid (own_base (madeH_own w1 k (by omega)) g1.size)
  have HG1 := Lib.hid (g1.trans (World.grownBy_alloc w1 (.cells (madeCells #[.int .i64 0] k) 3) none))
  clear h hk hrow g1 hx hx2
  go_enter Tryd.func34, Tryd.ntmps34
  go_wp2_with fail
  go_loopw [3, 14] (fun u i wr => ∃ (j : Nat) (hh : Int) (ys : List Value), j ≤ k ∧ i = .int .i64 j ∧ u = .int .i64 hh ∧ -1000 ≤ hh ∧ hh ≤ 1000 ∧ Hid (hh = hAt 0 (xs.take j)) ∧ Hid (wr.ownsRow w.heap.size 3 1 (.slice (some ⟨w1.heap.size, 0, none⟩) k k) k ys) ∧ Hid (ys.take j = inV (sumsG 0 (xs.take j))) ∧ Hid (w.grownBy wr none)) (fun _ i _ => k - (intOf i).toNat)
  case atStart => exact ⟨0, 0, _, Nat.zero_le _, rfl, rfl, by omega, by omega, Lib.hid (by simp [hAt]), HO, Lib.hid (by simp [sumsG, inV]), HG1⟩
  case round =>
    obtain ⟨j, hh, ys, hj, rfl, rfl, hlo, hhi, hhA, hown, hyt, hgr⟩ := hrel
    by_cases hlt : j < k
    · obtain ⟨g, rfl, hg1, hcell⟩ := HROW.out (by omega)
      obtain ⟨x, hx⟩ : ∃ x, xs[j]? = some x := ⟨_, List.getElem?_eq_getElem (by have := HK.out; omega)⟩
      obtain ⟨q0, q1, q2⟩ := hcell j x hx
      have c0 := hgr.out.cell q0 (by simp)
      have c1 := hgr.out.cell q1 (by simp)
      have c2 := hgr.out.cell q2 (by simp)
      have HTK := Lib.hid (take_snocH hx)
      have hbd := gk_bd (ri3 x).1
      have HH2 : Hid (hh + gk (ri3 x).1 = hAt 0 (xs.take (j + 1))) := Lib.hid (by rw [HTK.out, hAt_snoc, ← hhA.out])
      have hbd2 := hAt_bd 0 (xs.take (j + 1))
      rw [← HH2.out] at hbd2
      have HS2 : Hid (sumsG 0 (xs.take (j + 1)) = sumsG 0 (xs.take j) ++ [hh + gk (ri3 x).1]) := Lib.hid (by rw [HTK.out, sumsG_snoc, ← hhA.out])
      obtain ⟨kk, hkk⟩ : ∃ q, (ri3 x).1 = q := ⟨_, rfl⟩
      obtain ⟨sg, hsg⟩ : ∃ q, (ri3 x).2.1 = q := ⟨_, rfl⟩
      obtain ⟨vr, hvr⟩ : ∃ q, (ri3 x).2.2 = q := ⟨_, rfl⟩
      have HC := Lib.hid (fun u => growth_any kk sg vr u)
      rw [hkk] at c0 hbd HH2 hbd2 HS2
      rw [hsg] at c1
      rw [hvr] at c2
      obtain ⟨r, hr⟩ : ∃ r, gk kk = r := ⟨_, rfl⟩
      rw [hr] at HC hbd HH2 hbd2 HS2
      have hlen : (xs.take (j + 1)).length ≤ 1000 := by rw [List.length_take]; omega
      have hb1 : -1000 ≤ hh + r := by omega
      have hb2 : hh + r ≤ 1000 := by omega
      have ww : IntKind.i64.wrap (hh + r) = hh + r := IntWalk.i64_in _ (by omega)
      have hyl : ys.length = k := by have := hown.out.1; omega
      obtain ⟨y0v, hy0⟩ : ∃ y, ys[j]? = some y := ⟨_, List.getElem?_eq_getElem (by omega)⟩
      have HY0 := Lib.hid hy0
      have HYL := Lib.hid hyl
      clear hcell q0 q1 q2 hx hbd hbd2 hkk hsg hvr hr hlen hyl hy0 x0 y0
      go_wp2_with fail
      refine (HC.out _).mono ?_
      rintro e w2 ⟨rfl, hg2⟩
      have hg2' := (World.grownBy_alloc wr (.cells #[.int .i64 kk, .int .u8 sg, .int .u8 vr] 53) none).trans hg2
      have hown2 := own_keep hown.out (fun b hb => hg2'.block b (hown.out.lt b hb).2 (by simp))
      have hcell3 : w2.cell? ⟨w1.heap.size, j, none⟩ = some y0v := by have := (hown2.cellAt j (by omega)).trans HY0.out; simpa using this
      have hfr : w2.frozen? ⟨w1.heap.size, j, none⟩ = false := by have := hown2.frozenAt j; simpa using this
      have HST := Lib.hid (hown2.stored j (.int .i64 (hh + r)))
      have HB := Lib.hid ((hown2.lt _ rfl).1)
      have HYT : Hid ((ys.set j (.int .i64 (hh + r))).take (j + 1) = inV (sumsG 0 (xs.take (j + 1)))) := Lib.hid (by
        rw [take_setH _ _ _ (by rw [HYL.out]; exact hlt), hyt.out, HS2.out, inV_snoc])
      have HG2 := Lib.hid (hgr.out.trans hg2')
      clear hg2 hg2' hown2 c0 c1 c2
      go_wp2_with fail
      go_roundw
      case rel => exact ⟨j + 1, hh + r, _, by omega, by go_num, rfl, hb1, hb2, HH2, Lib.hid HST.out.1, HYT, Lib.hid (gr_ownF HG2.out HST.out.2 (fun k e => by cases e; exact HB.out))⟩
      case measure => simp [intOf]; omega
    · have hjk : j = k := by omega
      have HJ := Lib.hid hjk
      clear hjk
      go_wp2_with fail
      go_ret
      have e1 : xs.take j = xs := by rw [HJ.out, HK.out, List.take_length]
      have h3 := hyt.out
      have h4 := hown.out
      rw [e1, HJ.out, List.take_of_length_le (by have := h4.1; omega)] at h3
      rw [h3] at h4
      exact ⟨_, rfl, hgr.out, by rw [sumsG_len, ← HK.out]; exact h4⟩
end

section
open Go.RowKit

def strV (ss : List ByteArray) : List Value := ss.map Value.string
theorem strV_snoc (l : List ByteArray) (x : ByteArray) : strV (l ++ [x]) = strV l ++ [.string x] := by simp [strV]
theorem infoStr : (Tryd.prog.info? 9).map (fun i => (i.zero, i.size, i.bytes)) = some (some (.string .empty), 1, 16) := by kernel_rfl
end

section
open Go.RowKit

/-- The text of a mark. -/
def mtx (n : Nat) : ByteArray := bytesOf (109 :: dec n)

theorem dec_tail {n : Nat} (h : 9 < n) : dec n = dec (n / 10) ++ [byt (48 + (n : Int) % 10)] := by
  rw [dec_high h]
  congr 2
theorem dec_one {n : Nat} (h : n ≤ 9) : dec n = [byt (48 + (n : Int) % 10)] := by
  rw [dec_low h]
  congr 1
  unfold byt
  congr 1
  omega

set_option maxRecDepth 100000 in
set_option maxHeartbeats 1000000 in
theorem marktext_any (n : Nat) (w : World) (h1 : 1 ≤ n) (hn : n ≤ 1000000) :
    Calls Tryd.prog 33 #[.int .i64 (n : Int)] w fun e w' => e = .returned (.string (mtx n)) ∧ w.grownBy w' none := by
  go_enter Tryd.func33, Tryd.ntmps33
  go_wp2_with fail
  go_loopw [0, 3] (fun u v wr => ∃ (m : Nat) (t : ByteArray), t.size + m ≤ n ∧ u = .int .i64 m ∧ v = .string t ∧ Hid ((m = 0 ∧ t = bytesOf (dec n)) ∨ (0 < m ∧ bytesOf (dec n) = bytesOf (dec m) ++ t)) ∧ Hid (w.grownBy wr none)) (fun u _ _ => (intOf u).toNat)
  case atStart => exact ⟨n, ⟨#[]⟩, by simp [ByteArray.size], rfl, rfl, Lib.hid (.inr ⟨h1, by apply ByteArray.ext; simp⟩), Lib.hid (gr_refl _ _)⟩
  case round =>
    obtain ⟨m, t, hm, rfl, rfl, ht, hgr⟩ := hrel
    by_cases h0 : 0 < m
    · have hcv := conv_byte wr (48 + (m : Int) % 10) wr.heap.size rfl
      obtain ⟨z, hz⟩ : ∃ z, one (48 + (m : Int) % 10) ++ t = z := ⟨_, rfl⟩
      have hadd := fun u => str_add t (one (48 + (m : Int) % 10)) z hz (by rw [one_size]; omega) u
      have hzs : z.size = 1 + t.size := by rw [← hz, ByteArray.size_append, one_size]
      have HZS := Lib.hid hzs
      have HT : Hid ((m / 10 = 0 ∧ z = bytesOf (dec n)) ∨ (0 < m / 10 ∧ bytesOf (dec n) = bytesOf (dec (m / 10)) ++ z)) := Lib.hid (by
        rcases ht.out with ⟨h, _⟩ | ⟨_, h⟩
        · omega
        · by_cases h9 : 9 < m
          · refine .inr ⟨by omega, ?_⟩
            rw [h, dec_tail h9, bytesOf_app, bytesOf_one, ← hz, ByteArray.append_assoc]
          · refine .inl ⟨by omega, ?_⟩
            rw [h, dec_one (by omega), bytesOf_one, hz])
      clear hz hzs ht
      go_wp2_with fail
      go_roundw
      case rel => exact ⟨m / 10, z, by rw [HZS.out]; omega, by simp, rfl, HT, Lib.hid (hgr.out.trans (World.grownBy_alloc _ _ _))⟩
      case measure => simp [intOf]; omega
    · obtain rfl : m = 0 := by omega
      have he : Hid (t = bytesOf (dec n)) := Lib.hid (by
        rcases ht.out with ⟨_, h⟩ | ⟨h, _⟩
        · exact h
        · omega)
      obtain ⟨z, hz⟩ : ∃ z : ByteArray, { data := #[109] } ++ t = z := ⟨_, rfl⟩
      have hadd := fun u => str_add t { data := #[109] } z hz (by have : ({ data := #[109] } : ByteArray).size = 1 := rfl; omega) u
      have HZ := Lib.hid hz
      clear ht hz
      go_wp2_with fail
      go_ret
      refine ⟨?_, hgr.out⟩
      unfold mtx
      rw [show (109 : UInt8) = byt 109 from rfl, bytesOf_cons, ← he.out, show one 109 = ({ data := #[109] } : ByteArray) from rfl, HZ.out]
      rfl

/-- The marks from a number on. -/
def marks (k : Nat) : Nat → List ByteArray
  | 0 => []
  | n + 1 => mtx k :: marks (k + 1) n
theorem marks_len (k n : Nat) : (marks k n).length = n := by
  induction n generalizing k with
  | zero => rfl
  | succ n ih => simp [marks, ih]
theorem marks_at (k n j : Nat) (hj : j < n) : (marks k n)[j]? = some (mtx (k + j)) := by
  induction n generalizing k j with
  | zero => omega
  | succ n ih =>
    cases j with
    | zero => rfl
    | succ j => simp only [marks, List.getElem?_cons_succ]; rw [ih (k + 1) j (by omega)]; congr 2; omega

/-- A list of strings in an owned row. -/
def OwnS (w : World) (B : Nat) (v : Value) (ss : List ByteArray) : Prop := w.ownsRow B 9 1 v ss.length (strV ss)
theorem OwnS.keep {w w' : World} {B : Nat} {v : Value} {ss : List ByteArray} (h : OwnS w B v ss) (hg : w.grownBy w' none) : OwnS w' B v ss := own_keep h (fun b hb => hg.block b (h.lt b hb).2 (by simp))
theorem OwnS.form {w : World} {B : Nat} {v : Value} {ss : List ByteArray} (h : OwnS w B v ss) : ∃ A c, v = .slice A ss.length c := by
  rcases h.2 with ⟨hv, hn⟩ | ⟨g, cap, cur, hv, _⟩
  · exact ⟨none, 0, by rw [hv, hn]⟩
  · exact ⟨_, _, hv⟩
theorem OwnS.cells {w : World} {B : Nat} {A : Option Addr} {n c : Nat} {ss : List ByteArray} (h : OwnS w B (.slice A n c) ss) : n ≤ c ∧ ∀ (j : Nat) (x : ByteArray), ss[j]? = some x → ∃ g, A = some ⟨g, 0, none⟩ ∧ g < w.heap.size ∧ w.cell? ⟨g, j, none⟩ = some (.string x) ∧ w.frozen? ⟨g, j, none⟩ = false := by
  obtain ⟨h1, h2, h3⟩ := orow h
  refine ⟨h2, fun j x hj => ?_⟩
  have hl := (List.getElem?_eq_some_iff.1 hj).1
  obtain ⟨g, hA, _, hg, hc⟩ := h3 (by omega)
  subst hA
  exact ⟨g, rfl, hg, hc j (.string x) (by simp [strV, hj]), World.ownsRow.frozenAt (n := ss.length) (by rw [← h1]; rw [h1]; subst h1; exact h) j⟩

set_option maxRecDepth 100000 in
set_option maxHeartbeats 1000000 in
theorem eqstr_any (B C : Nat) (u v : Value) (ss : List ByteArray) (w : World) (hu : OwnS w B u ss) (hv : OwnS w C v ss) (hl : ss.length ≤ 1000000) :
    Calls Tryd.prog 15 #[u, v] w fun e w' => e = .returned (.bool true) ∧ w.grownBy w' none := by
  obtain ⟨A, c, rfl⟩ := hu.form
  obtain ⟨A2, c2, rfl⟩ := hv.form
  obtain ⟨hc1, hu2⟩ := hu.cells
  obtain ⟨hc2, hv2⟩ := hv.cells
  have HU := Lib.hid hu2
  have HV := Lib.hid hv2
  obtain ⟨n, hn⟩ : ∃ n, ss.length = n := ⟨_, rfl⟩
  rw [hn] at hl hc1 hc2 ⊢
  have HN := Lib.hid hn
  clear hu hv hu2 hv2 hn
  go_enter Tryd.func15, Tryd.ntmps15
  go_wp2_with fail
  go_loopw [5] (fun i wr => ∃ j : Nat, j ≤ n ∧ i = .int .i64 j ∧ ∃ q, wr = w.drewN q) (fun i _ => n - (intOf i).toNat)
  case atStart => exact ⟨0, Nat.zero_le _, rfl, 0, rfl⟩
  case round =>
    obtain ⟨j, hj, rfl, q, rfl⟩ := hrel
    by_cases hlt : j < n
    · obtain ⟨x, hx⟩ : ∃ x, ss[j]? = some x := ⟨_, List.getElem?_eq_getElem (by have := HN.out; omega)⟩
      obtain ⟨g, rfl, _, hgc, _⟩ := HU.out j x hx
      obtain ⟨g2, rfl, _, hgc2, _⟩ := HV.out j x hx
      clear hx
      go_wp2_with fail
      go_quiet (fail)
      go_wp2_with fail
      go_roundw
      case rel => exact ⟨j + 1, by omega, by go_num, q + nq, by simp⟩
      case measure => simp [intOf]; omega
    · have hjn : j = n := by omega
      clear hjn
      go_wp2_with fail
      go_ret
      exact ⟨rfl, gr_drewN _ _ _⟩

theorem marks_snoc (k n : Nat) : marks k (n + 1) = marks k n ++ [mtx (k + n)] := by
  induction n generalizing k with
  | zero => rfl
  | succ n ih =>
    rw [marks, ih (k + 1), marks]
    rw [show k + 1 + n = k + (n + 1) from by omega]
    rfl
theorem marks_set {ss : List ByteArray} {k j : Nat} (hj : j < ss.length) : (marks k j ++ ss.drop j).set j (mtx (k + j)) = marks k (j + 1) ++ ss.drop (j + 1) := by
  rw [List.set_append_right _ _ (by rw [marks_len]; exact Nat.le_refl _), marks_len, Nat.sub_self, marks_snoc, List.append_assoc]
  congr 1
  rw [List.drop_eq_getElem_cons hj]
  rfl
theorem strV_set (l : List ByteArray) (j : Nat) (x : ByteArray) : (strV l).set j (.string x) = strV (l.set j x) := by simp [strV, List.map_set]

set_option maxRecDepth 100000 in
set_option maxHeartbeats 1000000 in
theorem markstr_any (B k : Nat) (u : Value) (ss : List ByteArray) (w : World) (hu : OwnS w B u ss) (hk : 1 ≤ k) (hl : k + ss.length ≤ 1000000) :
    Calls Tryd.prog 16 #[u, .int .i64 (k : Int)] w fun e w' => e = .returned (.int .i64 ((k : Int) + (ss.length : Int))) ∧ OwnS w' B u (marks k ss.length) ∧ w.grownBy w' u.ownBlock := by
  obtain ⟨A, c, rfl⟩ := hu.form
  obtain ⟨hc1, -⟩ := hu.cells
  have HU := Lib.hid hu
  obtain ⟨n, hn⟩ : ∃ n, ss.length = n := ⟨_, rfl⟩
  rw [hn] at hl hc1 HU ⊢
  have HN := Lib.hid hn
  clear hu hn
  go_enter Tryd.func16, Tryd.ntmps16
  go_wp2_with fail
  go_loopw [1, 5] (fun q i wr => ∃ j : Nat, j ≤ n ∧ i = .int .i64 j ∧ q = .int .i64 ((k : Int) + (j : Int)) ∧ Hid (wr.ownsRow B 9 1 (.slice A n c) n (strV (marks k j ++ ss.drop j))) ∧ Hid (w.grownBy wr (Value.slice A n c).ownBlock)) (fun _ i _ => n - (intOf i).toNat)
  case atStart => exact ⟨0, Nat.zero_le _, rfl, by simp, Lib.hid (by have := HU.out; unfold OwnS at this; rw [HN.out] at this; exact this), Lib.hid ⟨rfl, rfl, rfl, Nat.le_refl _, fun _ _ _ => rfl⟩⟩
  case round =>
    obtain ⟨j, hj, rfl, rfl, hrow, hgr⟩ := hrel
    by_cases hlt : j < n
    · obtain ⟨g, rfl⟩ : ∃ g, A = some ⟨g, 0, none⟩ := by
        obtain ⟨_, _, h3⟩ := orow hrow.out
        obtain ⟨g, hA, _⟩ := h3 (by omega)
        exact ⟨g, hA⟩
      have HM := Lib.hid (fun w => marktext_any (k + j) w (by omega) (by omega))
      simp only [Int.natCast_add] at HM
      go_wp2_with fail
      refine (HM.out _).mono ?_
      rintro e w2 ⟨rfl, hg2⟩
      have hrow2 := own_keep hrow.out (fun b hb => hg2.block b (hrow.out.lt b hb).2 (by simp))
      have hx : (strV (marks k j ++ ss.drop j))[j]? ≠ none := by
        rw [ne_eq, List.getElem?_eq_none_iff]
        have := hrow.out.1
        omega
      obtain ⟨x, hx⟩ := Option.ne_none_iff_exists'.1 hx
      have hcell := hrow2.cellAt j (by omega)
      rw [hx] at hcell
      have hfz := hrow2.frozenAt j
      have hst := hrow2.stored j (.string (mtx (k + j)))
      rw [strV_set, marks_set (by have := HN.out; omega)] at hst
      have HST := Lib.hid hst
      have HG2 := Lib.hid hg2
      have hgw : g < w2.heap.size := (hrow2.lt g rfl).2
      clear hx hst hg2 hrow2
      go_wp2_with fail
      go_roundw
      case rel =>
        refine ⟨j + 1, by omega, by go_num, by go_num, Lib.hid HST.out.1, Lib.hid ?_⟩
        have h1 : wr.grownBy w2 (some g) := ⟨HG2.out.os, HG2.out.tape, HG2.out.output, HG2.out.size, fun k hk _ => HG2.out.block k hk (by simp)⟩
        exact (hgr.out.trans h1).trans HST.out.2
      case measure => simp [intOf]; omega
    · have hjn : j = n := by omega
      subst hjn
      go_wp2_with fail
      go_ret
      refine ⟨rfl, ?_, hgr.out⟩
      have := hrow.out
      rw [List.drop_of_length_le (by rw [HN.out]; exact Nat.le_refl _), List.append_nil] at this
      unfold OwnS
      rw [marks_len]
      exact this

set_option maxRecDepth 100000 in
set_option maxHeartbeats 1000000 in
theorem heldstr_any (B k n : Nat) (u : Value) (w : World) (hu : OwnS w B u (marks k n)) (hk : 1 ≤ k) (hl : k + n ≤ 1000000) :
    Calls Tryd.prog 17 #[u, .int .i64 (k : Int)] w fun e w' => e = .returned (.int .i64 ((k : Int) + (n : Int))) ∧ w.grownBy w' none := by
  obtain ⟨A, c, hform⟩ := hu.form
  rw [marks_len] at hform
  subst hform
  obtain ⟨hc1, hu2⟩ := hu.cells
  have HU := Lib.hid hu2
  clear hu hu2
  go_enter Tryd.func17, Tryd.ntmps17
  go_wp2_with fail
  go_loopw [1, 5] (fun q i wr => ∃ j : Nat, j ≤ n ∧ i = .int .i64 j ∧ q = .int .i64 ((k : Int) + (j : Int)) ∧ Hid (w.grownBy wr none)) (fun _ i _ => n - (intOf i).toNat)
  case atStart => exact ⟨0, Nat.zero_le _, rfl, by simp, Lib.hid (gr_refl _ _)⟩
  case round =>
    obtain ⟨j, hj, rfl, rfl, hgr⟩ := hrel
    by_cases hlt : j < n
    · obtain ⟨g, rfl, _, hgc, _⟩ := HU.out j _ (marks_at k n j hlt)
      have hcw := hgr.out.cell hgc (by simp)
      have HM := Lib.hid (fun w => marktext_any (k + j) w (by omega) (by omega))
      simp only [Int.natCast_add] at HM
      obtain ⟨X, hX⟩ : ∃ X, mtx (k + j) = X := ⟨_, rfl⟩
      rw [hX] at HM hcw
      clear hX hgc
      go_wp2_with fail
      go_region_held3 (fun w' => w'.cell? ⟨g, j, none⟩ = some (.string X)) (go_keep)
        (first
          | (go_at_call 33
             refine (HM.out _).mono ?_
             rintro e w2 ⟨rfl, hg2⟩
             have HG2 := Lib.hid ((gr_drewN wr 1 none).trans hg2)
             have hc2 := HG2.out.cell hcw (by simp)
             clear hg2))
      all_goals
        go_wp2_with fail
        go_roundw
        case rel => exact ⟨j + 1, by omega, by go_num, by go_num, Lib.hid (hgr.out.trans HG2.out)⟩
        case measure => simp [intOf]; omega
    · have hjn : j = n := by omega
      subst hjn
      go_wp2_with fail
      go_ret
      exact ⟨rfl, hgr.out⟩
end

section
open Go.RowKit

/-- The text of what was read. -/
def itext (x : ByteArray) : ByteArray := if (ri3 x).1 = 5 then strOfNums [(ri3 x).2.1, (ri3 x).2.2] else one (ri3 x).2.1
theorem byt_ba {x : ByteArray} {i : Nat} (h : i < x.size) : byt (ba x i) = x.data.toList[i]'(by simpa using h) := by
  rw [ba_in h]
  unfold byt
  simp
  rfl
theorem one_of {x : ByteArray} (h : x.size = 1) : one (ba x 0) = x := by
  have hb := byt_ba (x := x) (i := 0) (by omega)
  have hl : x.data.toList.length = 1 := by simpa using h
  apply ByteArray.ext
  apply Array.toList_inj.1
  rw [one_data, hb]
  apply List.ext_getElem (by simp [hl])
  intro i h1 h2
  obtain rfl : i = 0 := by simp at h1; omega
  rfl
theorem two_of {x : ByteArray} (h : x.size = 2) : strOfNums [ba x 0, ba x 1] = x := by
  have hb := byt_ba (x := x) (i := 0) (by omega)
  have hb1 := byt_ba (x := x) (i := 1) (by omega)
  have hl : x.data.toList.length = 2 := by simpa using h
  apply ByteArray.ext
  apply Array.toList_inj.1
  rw [strOfNums_data]
  apply List.ext_getElem (by simp [hl])
  intro i h1 h2
  have : i = 0 ∨ i = 1 := by simp at h1; omega
  rcases this with rfl | rfl
  · exact hb
  · exact hb1
theorem itext_is {x : ByteArray} {i : Ins} (h : insOf x = some i) : itext x = x := by
  have hk := ri3_ins h
  unfold insOf at h
  unfold itext
  by_cases h1 : x.size = 1
  · rw [if_pos h1] at h
    have h5 : (ri3 x).1 ≠ 5 := by
      rw [hk]
      unfold ins1 at h
      (repeat' split at h) <;> first | (cases h; simp [kn]) | cases h
    rw [if_neg h5]
    unfold ri3 at h5 ⊢
    by_cases hd : kd (ba x 0) ≠ 5
    · rw [if_pos ⟨h1, hd⟩]; exact one_of h1
    · exfalso
      unfold kd at hd
      unfold ins1 at h
      (repeat' split at h) <;> (try simp_all) <;> omega
  · rw [if_neg h1] at h
    by_cases h2 : x.size = 2 ∧ (ba x 0 = 91 ∨ ba x 0 = 123) ∧ isL (ba x 1) = true
    · rw [if_pos h2] at h
      cases h
      rw [if_pos (by rw [hk]; rfl)]
      have hk5 : kd (ba x 0) = 5 := by rcases h2.2.1 with e | e <;> rw [e] <;> decide
      unfold ri3
      rw [if_neg (by omega), if_pos ⟨h2.1, hk5, h2.2.2⟩]
      exact two_of h2.1
    · rw [if_neg h2] at h; cases h
theorem runB_ins : ∀ (l : List ByteArray) (m m' : MS), runB l m = some m' → ∀ x ∈ l, ∃ i, insOf x = some i
  | [], _, _, _, x, hx => by simp at hx
  | y :: l, m, m', h, x, hx => by
    simp only [runB] at h
    cases hs : stepB y m with
    | none => rw [hs] at h; cases h
    | some m1 =>
      rw [hs] at h
      rcases List.mem_cons.1 hx with rfl | hx
      · unfold stepB at hs
        cases hi : insOf x with
        | none => rw [hi] at hs; cases hs
        | some i => exact ⟨i, rfl⟩
      · exact runB_ins l m1 m' h x hx

theorem conv_two (w : World) (a b : Int) (k : Nat) (hk : w.heap.size = k) : (convert 60 9 (.slice (some ⟨k, 0, none⟩) 2 2)).run Tryd.prog (w.alloc (.cells #[.int .u8 a, .int .u8 b] 5)) = .ok (.string (strOfNums [a, b])) (w.alloc (.cells #[.int .u8 a, .int .u8 b] 5)) := by
  subst hk
  refine run_convert_bytes_arg (P := Tryd.prog) _ 60 5 Tryd.underlying60 Tryd.underlying5 w.heap.size 0 2 2 [a, b] rfl ?_ 9 Tryd.underlying9
  intro i hi
  have : i = 0 ∨ i = 1 := by omega
  rcases this with rfl | rfl
  · exact cell_of_row _ _ 0 _ _ (0, 0) (heap_alloc_new _ _)
  · exact cell_of_row _ _ 1 _ _ (0, 0) (heap_alloc_new _ _)

set_option maxHeartbeats 1000000 in
theorem instext_any (x : ByteArray) (k c v : Int) (hk : (ri3 x).1 = k) (hc : (ri3 x).2.1 = c) (hv : (ri3 x).2.2 = v) (w : World) :
    Calls Tryd.prog 32 #[.agg #[.int .i64 k, .int .u8 c, .int .u8 v]] w fun e w' => e = .returned (.string (itext x)) ∧ w.grownBy w' none := by
  obtain ⟨w1, hw1⟩ : ∃ z, w.alloc (.cells #[.int .i64 k, .int .u8 c, .int .u8 v] 53) = z := ⟨_, rfl⟩
  have hx : C3 w1 w.heap.size (.int .i64 k) (.int .u8 c) (.int .u8 v) 53 := by rw [← hw1]; exact c3_new _ _ _ _ _
  have g1 : w.grownBy w1 none := by rw [← hw1]; exact World.grownBy_alloc _ _ _
  have x0 := hx.c0
  have x1 := hx.c1
  have x2 := hx.c2
  have HG1 := Lib.hid g1
  obtain ⟨z, hz⟩ : ∃ z, itext x = z := ⟨_, rfl⟩
  rw [hz]
  unfold itext at hz
  rw [hk, hc, hv] at hz
  clear hx g1 hk hc hv
  by_cases h5 : k = 5
  · subst h5
    rw [if_pos rfl] at hz
    have hcv := conv_two w1 c v w1.heap.size rfl
    rw [hz] at hcv
    clear hz
    go_enter Tryd.func32, Tryd.ntmps32
    go_wp2_with fail
    go_ret
    exact ⟨rfl, HG1.out.trans (World.grownBy_alloc _ _ _)⟩
  · rw [if_neg h5] at hz
    have e5 : (k == 5) = false := by simpa using h5
    have hcv := conv_byte w1 c w1.heap.size rfl
    rw [hz] at hcv
    clear hz
    go_enter Tryd.func32, Tryd.ntmps32
    go_wp2_with fail
    go_ret
    exact ⟨rfl, HG1.out.trans (World.grownBy_alloc _ _ _)⟩

/-- What InstructionsOf answers. -/
def instA (s : ByteArray) : List ByteArray := match codeT s with
  | some _ => cutB s
  | none => []
theorem instA_len (s : ByteArray) : (instA s).length ≤ 201 := by
  cases h : codeT s with
  | none => unfold instA; rw [h]; simp
  | some t => unfold instA; rw [h]; have := cutB_len s; have := (codeT_ran h).1; simp only; omega
def InsP (ss : List ByteArray) (w : World) (e : Ending) (w' : World) : Prop := ∃ u, e = .returned u ∧ w.grownBy w' none ∧ OwnS w' w.heap.size u ss

set_option maxHeartbeats 1000000 in
theorem inst_spec (s : ByteArray) (hs : s.size ≤ 1048576) (w : World) :
    Calls Tryd.prog 13 #[.string s] w (InsP (instA s) w) := by
  have H := Lib.hid (cval_spec s w)
  have hca : cvalA s = (codeT s).isSome := rfl
  rw [hca] at H
  unfold instA InsP
  cases hc : codeT s with
  | none =>
    rw [hc] at H
    simp only [Option.isSome_none] at H ⊢
    clear hc hca
    go_enter Tryd.func13, Tryd.ntmps13
    go_wp2_with fail
    refine H.out.mono ?_
    rintro e w1 ⟨rfl, hg1⟩
    have HG1 := Lib.hid hg1
    have HO : Hid ((w1.alloc (.cells #[] 9)).ownsRow w.heap.size 9 1 (.slice (some ⟨w1.heap.size, 0, none⟩) 0 0) 0 []) := Lib.hid (by
      have := World.ownsRow_made (base := w.heap.size) (e := 9) (size := 1) w1 #[] 0 hg1.size (by simp) (by simp)
      simpa using this)
    clear hg1
    go_wp2_with fail
    go_ret
    exact ⟨_, rfl, HG1.out.trans (World.grownBy_alloc _ _ _), HO.out⟩
  | some t =>
    have h2 := (codeT_ran hc).1
    rw [hc] at H
    simp only [Option.isSome_some] at H ⊢
    have HC := Lib.hid (fun w => scut_any s (by omega) w)
    clear hc hca
    go_enter Tryd.func13, Tryd.ntmps13
    go_wp2_with fail
    refine H.out.mono ?_
    rintro e w1 ⟨rfl, hg1⟩
    have HG1 := Lib.hid hg1
    clear hg1
    go_wp2_with fail
    refine (HC.out _).mono ?_
    rintro e w2 ⟨v, rfl, hg2, ho2⟩
    obtain ⟨A, m, c, rfl⟩ := own_form ho2
    have HG2 := Lib.hid hg2
    have HO2 := Lib.hid ho2
    clear hg2 ho2
    go_wp2_with fail
    go_ret
    exact ⟨_, rfl, HG1.out.trans HG2.out, own_base HO2.out HG1.out.size⟩

set_option maxRecDepth 100000 in
set_option maxHeartbeats 2000000 in
theorem inst_impl (s : ByteArray) (w : World) :
    Calls Tryd.prog 14 #[.string s] w (InsP (instA s) w) := by
  obtain ⟨i0, hi0, hz0, hz1, hz2⟩ := info_parts infoSt
  have H := Lib.hid (readc_any s w)
  unfold InsP
  cases hc : codeT s with
  | none =>
    have HC := Lib.hid hc
    have HA : Hid (instA s = []) := Lib.hid (by unfold instA; rw [hc])
    clear hc
    go_enter Tryd.func14, Tryd.ntmps14
    go_wp2_with fail
    refine H.out.mono ?_
    intro e w1 hp
    obtain ⟨hg, hp⟩ := hp
    rw [HC.out] at hp
    obtain rfl := hp
    have hx := Pr.new w1 45 (.slice none 0 0) .nilIface
    have x0 := hx.c0
    have HG := Lib.hid (hg.trans (World.grownBy_alloc w1 (.cells #[.slice none 0 0, .nilIface] 45) none))
    clear hg hx
    go_wp2_with fail
    go_loopw [5, 16] (fun o i wr => o = .slice none 0 0 ∧ i = .int .i64 0 ∧ Hid (w.grownBy wr none)) (fun _ _ _ => 0)
    case atStart => exact ⟨rfl, rfl, HG⟩
    case round =>
      obtain ⟨rfl, rfl, hgr⟩ := hrel
      go_wp2_with fail
      go_ret
      refine ⟨_, rfl, hgr.out, ?_⟩
      rw [HA.out]
      exact ⟨rfl, .inl ⟨rfl, rfl⟩⟩
  | some t =>
    have HC := Lib.hid hc
    have HA : Hid (instA s = cutB s) := Lib.hid (by unfold instA; rw [hc])
    have hran := codeT_ran hc
    have HLE := Lib.hid (show (cutB s).length ≤ 201 by have := cutB_len s; omega)
    have HIN : Hid (∀ x ∈ cutB s, itext x = x) := Lib.hid (by
      obtain ⟨m, hm⟩ := hran.2
      intro x hx
      obtain ⟨i, hi⟩ := runB_ins _ _ _ hm x hx
      exact itext_is hi)
    clear hc hran
    go_enter Tryd.func14, Tryd.ntmps14
    go_wp2_with fail
    refine H.out.mono ?_
    intro e w1 hp
    obtain ⟨hg, hp⟩ := hp
    rw [HC.out] at hp
    obtain ⟨iv, xv, rfl, h1, h2⟩ := hp
    obtain ⟨A1, k, c1, rfl⟩ := own_form h1
    obtain ⟨ty, pv, rfl⟩ := h2.iface
    obtain ⟨w2, hw2⟩ : ∃ z, w1.alloc (.cells #[.slice A1 k c1, .iface ty pv] 45) = z := ⟨_, rfl⟩
    have g2 : w1.grownBy w2 none := by rw [← hw2]; exact World.grownBy_alloc _ _ _
    have hx : Pr w2 w1.heap.size 45 (.slice A1 k c1) (.iface ty pv) := by rw [← hw2]; exact Pr.new _ _ _ _
    have x0 := hx.c0
    obtain ⟨hk, hkc, hrow⟩ := irow3 h1
    have HK := Lib.hid hk
    have hk2 : k ≤ 201 := by have := HLE.out; omega
    have HROW := Lib.hid hrow
    have HG1 := Lib.hid hg
    have HG2 := Lib.hid g2
    clear hg h1 h2 hk hrow g2 hx
    go_wp2_with fail
    go_loopw [5, 16] (fun o i wr => ∃ j : Nat, j ≤ k ∧ i = .int .i64 j ∧ Hid (wr.ownsRow w2.heap.size 9 1 o j (stV ((cutB s).take j))) ∧ Hid (w2.grownBy wr none)) (fun _ i _ => k - (intOf i).toNat)
    case atStart => exact ⟨0, Nat.zero_le _, rfl, Lib.hid ⟨rfl, .inl ⟨rfl, rfl⟩⟩, Lib.hid (gr_refl _ _)⟩
    case round =>
      obtain ⟨j0, hj, rfl, hown, hgr⟩ := hrel
      obtain ⟨A5, j, c5, rfl⟩ := own_form hown.out
      obtain rfl := own_len hown.out
      by_cases hlt : j < k
      · obtain ⟨g, rfl, hg1, hcell⟩ := HROW.out (by omega)
        obtain ⟨x, hx⟩ : ∃ x, (cutB s)[j]? = some x := ⟨_, List.getElem?_eq_getElem (by have := HK.out; omega)⟩
        obtain ⟨q0, q1, q2⟩ := hcell j x hx
        have hgw := HG2.out.trans hgr.out
        have c0 := hgw.cell q0 (by simp)
        have c1 := hgw.cell q1 (by simp)
        have c2 := hgw.cell q2 (by simp)
        have HTK := Lib.hid (take_snocH hx)
        have HXI := Lib.hid (HIN.out x (List.mem_of_getElem? hx))
        obtain ⟨kk, hkk⟩ : ∃ q, (ri3 x).1 = q := ⟨_, rfl⟩
        obtain ⟨sg, hsg⟩ : ∃ q, (ri3 x).2.1 = q := ⟨_, rfl⟩
        obtain ⟨vr, hvr⟩ : ∃ q, (ri3 x).2.2 = q := ⟨_, rfl⟩
        have HT := Lib.hid (fun u => instext_any x kk sg vr hkk hsg hvr u)
        rw [HXI.out] at HT
        rw [hkk] at c0
        rw [hsg] at c1
        rw [hvr] at c2
        have HLT := Lib.hid hown.out.1
        clear hcell q0 q1 q2 hx hkk hsg hvr hgw x0
        go_wp2_with fail
        refine (HT.out _).mono ?_
        rintro e w3 ⟨rfl, hg3⟩
        have hg3' := (World.grownBy_alloc wr (.cells #[.int .i64 kk, .int .u8 sg, .int .u8 vr] 53) none).trans hg3
        have hown2 := own_keep hown.out (fun b hb => hg3'.block b (hown.out.lt b hb).2 (by simp))
        have own1 := hown2.alloc (.cells #[.string x] 9)
        have HG3 := Lib.hid (hgr.out.trans hg3')
        have HSZ := Lib.hid HG3.out.size
        clear hg3 hg3' hown2 c0 c1 c2
        go_wp2_with (at_builtin; refine wpList_append_own_at _ rfl _ _ 25 rfl w2.heap.size 9 i0 (.string .empty) 1 16 Tryd.underlying25 hi0 hz0 hz1 hz2 rfl (by decide) _ _ _ rfl own1 ⟨w3.heap.size, 0, none⟩ 1 1 [.string x] rfl rfl ?a1 ?a2 ?a3 ?a4 ?a5 ?_)
        case a1 => exact cell_one_new _ _ _
        case a2 => simp [Value.oneCell']
        case a3 => simp only [maxLen]; omega
        case a4 => omega
        case a5 => have := HSZ.out; rw [World.size_alloc]; omega
        intro v8 w8 hown8 hg8 _ _
        have HO8 := Lib.hid hown8
        have HG9 := Lib.hid (gr_ownR (HG3.out.trans (World.grownBy_alloc w3 (.cells #[.string x] 9) none)) hg8 (fun b hb => (own1.lt b hb).1))
        obtain ⟨A8, k8, c8, rfl⟩ := own_form hown8
        clear hown8 hg8 own1
        go_wp2_with fail
        go_roundw
        case rel => exact ⟨j + 1, by omega, by go_num, Lib.hid (by rw [HTK.out, stV_snoc]; exact HO8.out), HG9⟩
        case measure => simp [intOf]; omega
      · have hjk : j = k := by omega
        have HJ := Lib.hid hjk
        clear hjk
        go_wp2_with fail
        go_ret
        refine ⟨_, rfl, HG1.out.trans (HG2.out.trans hgr.out), ?_⟩
        have h4 := hown.out
        have e1 : (cutB s).take j = cutB s := by rw [HJ.out, HK.out, List.take_length]
        rw [e1] at h4
        rw [HA.out]
        unfold OwnS
        rw [← HK.out, ← HJ.out]
        exact own_base h4 (Nat.le_trans HG1.out.size HG2.out.size)

theorem both_inst (s : ByteArray) (hs : s.size ≤ 1048576) : ∃ (ss : List ByteArray) (n : Nat), ss.length = n ∧ n ≤ 201 ∧ (∀ w, Calls Tryd.prog 13 #[.string s] w (InsP ss w)) ∧ (∀ w, Calls Tryd.prog 14 #[.string s] w (InsP ss w)) :=
  ⟨instA s, _, rfl, instA_len s, fun w => inst_spec s hs w, fun w => inst_impl s w⟩
end

open Go.ChangeShapes Go.WideShapes Go.ChangeAt Go.RowKit
open Go.ChangeMaps (open_string shut_string)

theorem knob_own : ownKnob Tryd.prog.godebug = none := by kernel_rfl
theorem below_of {w w' : World} (h : w.grownBy w' none) : Below w.heap.size w w' := ⟨h.os, h.tape, h.output, h.size, fun k hk => h.block k hk (by simp)⟩

theorem gr_own5 {w w1 w2 : World} {row : Option Nat} (h : w.grownBy w1 none) (h2 : w1.grownBy w2 row) (hr : ∀ k, row = some k → w.heap.size ≤ k) : w.grownBy w2 none :=
  ⟨h2.os.trans h.os, h2.tape.trans h.tape, h2.output.trans h.output, Nat.le_trans h.size h2.size, fun k hk hne => (h2.block k (Nat.lt_of_lt_of_le hk h.size) (fun e => by have := hr k e.symm; omega)).trans (h.block k hk hne)⟩
/-- A row that lies below stands when another one grows. -/
theorem OwnS.under {w w1 w2 : World} {B : Nat} {v : Value} {ss : List ByteArray} {row : Option Nat} (h : OwnS w B v ss) (h1 : w.grownBy w1 none) (h2 : w1.grownBy w2 row) (hr : ∀ k, row = some k → w.heap.size ≤ k) : OwnS w2 B v ss :=
  h.keep (gr_own5 h1 h2 hr)

set_option maxHeartbeats 1000000 in
theorem law_inst_in (s : ByteArray) (hs : s.size ≤ 1048576) (w : World) :
    Calls Tryd.prog 5 #[.string s] w fun e w' => e = .returned (.bool true) ∧ w.grownBy w' none := by
  obtain ⟨ss, n, hn, hnn, H1, H2⟩ := both_inst s hs
  have HN := Lib.hid hn
  have H1 := Lib.hid H1
  have H2 := Lib.hid H2
  clear hn
  go_enter Tryd.func5, Tryd.ntmps5
  go_wp2_with fail
  refine (H1.out _).mono ?_
  rintro e w1 ⟨u1, rfl, hg1, ho1⟩
  have HG1 := Lib.hid hg1
  have HO1 := Lib.hid (show OwnS w1 w.heap.size u1 ss from ho1)
  clear hg1 ho1
  go_wp2_with fail
  refine (H2.out _).mono ?_
  rintro e w2 ⟨u2, rfl, hg2, ho2⟩
  have HG2 := Lib.hid hg2
  have HO2 := Lib.hid (show OwnS w2 w1.heap.size u2 ss from ho2)
  have HE := Lib.hid (eqstr_any _ _ u2 u1 ss w2 HO2.out (HO1.out.keep hg2) (by have := HN.out; omega))
  clear hg2 ho2
  go_wp2_with fail
  refine HE.out.mono ?_
  rintro e w3 ⟨rfl, hg3⟩
  have HG3 := Lib.hid hg3
  have HO3 := Lib.hid (HO2.out.keep hg3)
  clear hg3
  go_wp2_with fail
  refine (markstr_any _ 1 u2 ss w3 HO3.out (by omega) (by have := HN.out; omega)).mono ?_
  rintro e w4 ⟨rfl, ho4, hg4⟩
  have HG4 := Lib.hid hg4
  have HO4 := Lib.hid (show OwnS w4 w1.heap.size u2 (marks 1 n) by rw [HN.out] at ho4; exact ho4)
  obtain ⟨m, hm⟩ : ∃ m : Int, ((1 : Nat) : Int) + (ss.length : Int) = m := ⟨_, rfl⟩
  have HM : Hid (((1 : Nat) : Int) + (n : Int) = m) := Lib.hid (by rw [← HN.out]; exact hm)
  have hm0 : ¬ (m < 0) := by omega
  have hmm : (m != m) = false := by simp
  rw [hm]
  have HW4 := Lib.hid (HO1.out.under (HG2.out.trans HG3.out) HG4.out (fun j hj => (HO3.out.lt j hj).1))
  have HG5 := Lib.hid (gr_own5 (HG1.out.trans (HG2.out.trans HG3.out)) HG4.out (fun j hj => Nat.le_trans HG1.out.size (HO3.out.lt j hj).1))
  clear hg4 ho4 hm
  go_wp2_with fail
  refine (heldstr_any _ 1 n u2 w4 HO4.out (by omega) (by omega)).mono ?_
  rintro e w5 ⟨rfl, hg5⟩
  rw [HM.out]
  have HG6 := Lib.hid (HG5.out.trans hg5)
  have HO5 := Lib.hid (HO4.out.keep hg5)
  have HW5 := Lib.hid (HW4.out.keep hg5)
  clear hg5
  go_wp2_with fail
  refine (H2.out _).mono ?_
  rintro e w6 ⟨u6, rfl, hg6, ho6⟩
  have HG7 := Lib.hid (HG6.out.trans hg6)
  have HO6 := Lib.hid (HO5.out.keep hg6)
  have HE6 := Lib.hid (eqstr_any w5.heap.size _ u6 u1 ss w6 ho6 (HW5.out.keep hg6) (by have := HN.out; omega))
  clear hg6 ho6
  go_wp2_with fail
  refine HE6.out.mono ?_
  rintro e w7 ⟨rfl, hg7⟩
  have HG8 := Lib.hid (HG7.out.trans hg7)
  have HO7 := Lib.hid (HO6.out.keep hg7)
  clear hg7
  go_wp2_with fail
  refine (heldstr_any _ 1 n u2 w7 HO7.out (by omega) (by omega)).mono ?_
  rintro e w8 ⟨rfl, hg8⟩
  rw [HM.out]
  have HG9 := Lib.hid (HG8.out.trans hg8)
  clear hg8
  go_wp2_with fail
  go_ret
  exact ⟨rfl, HG9.out⟩

theorem law_inst_out (s : ByteArray) (hs : 1048576 < s.size) (w : World) :
    Calls Tryd.prog 5 #[.string s] w fun e w' => e = .returned (.bool true) ∧ w.grownBy w' none := by
  go_enter Tryd.func5, Tryd.ntmps5
  go_wp2_with fail
  go_ret
  exact ⟨rfl, gr_refl _ _⟩

theorem law_inst (s : ByteArray) (w : World) :
    Calls Tryd.prog 5 #[.string s] w fun e w' => e = .returned (.bool true) ∧ w.grownBy w' none := by
  rcases Nat.lt_or_ge 1048576 s.size with h | h
  · exact law_inst_out s h w
  · exact law_inst_in s h w

theorem door_met_inst (os : Os) (args : Array Value) : laidMetH Tryd.prog Rows.fnExactInstructionsOfRow.laid ((World.laidAll Tryd.prog os Rows.fnExactInstructionsOfRow.laid).forCall (fun _ _ => 0) ⟨#[], args, []⟩).memory := by
  rw [MakeChecks.laidMetH_plain _ _ _ (by kernel_rfl)]
  exact laidMet_laidAll _ (by kernel_rfl) (by kernel_rfl)

set_option maxRecDepth 100000 in
theorem inst_lifted (os : Os) (started : os.Started) (H : Type) (enc : TypeId × Value → H) :
    ReturnsInHanded {} Tryd.checked os 5 .any (fun w args => (Rows.fnExactInstructionsOfSpec.pre enc Tryd.prog Tryd.f5 [] false w args ∧ laidMetH Tryd.prog Rows.fnExactInstructionsOfRow.laid w) ∧ sizedMet enc Tryd.prog Tryd.f5 (OpenSpec.ofChange Rows.fnExactInstructionsOfSpec) false w args) (Rows.fnExactInstructionsOfSpec.post enc Tryd.prog Tryd.f5 false true false false) := by
  refine returnsInHanded_of_change_and (C := Tryd.checked) (X := fun w _ => laidMetH Tryd.prog Rows.fnExactInstructionsOfRow.laid w) (fun _ _ _ hh h => h.of_heap hh) knob_own started (by kernel_rfl) Tryd.func5
    (ChangeSpec.witness_shaped (enc := enc) (C := Tryd.checked) (os := os) (X := fun w _ => laidMetH Tryd.prog Rows.fnExactInstructionsOfRow.laid w) false (World.laidAll Tryd.prog os Rows.fnExactInstructionsOfRow.laid) #[.string .empty] 8 (World.laidAll_os _ _ _) (World.shaped_of_ZipB (by kernel_rfl) (by kernel_rfl)) (by kernel_rfl) (by kernel_rfl) (by kernel_rfl) (door_met_inst os _)) ?_
  intro W base args ds gs before hval0 hW _ _ hL _
  have hval : ∀ (j : Nat) t v, Tryd.f5.params[j]? = some t → args[j]? = some v → Value.okWide Tryd.prog W .any base t v := hval0
  have hW' := hW
  obtain ⟨p, q, hA0, hV, rfl, hfz, hnd⟩ := hW
  have hA : DataW.TrodAll enc Tryd.prog W 0 (fun _ => true) true Tryd.f5.params.toList args.toList ds p := hA0
  rw [Tryd.params5] at hA hval
  obtain ⟨v0, d0, rfl, rfl, h0⟩ := trodAll_one hA
  obtain ⟨rfl, rfl⟩ := trodVars_none hV
  obtain ⟨s, rfl, rfl, rfl, hmax⟩ := open_string Tryd.underlying9 (hval 0 9 v0 rfl rfl) h0
  clear hA0 hval0
  simp only [List.append_nil] at hW'
  refine (law_inst s W).mono fun e W' ⟨he, hg⟩ => ?_
  subst he
  refine ⟨_, rfl, _, _, _, [], [], [], hW', ?_, ?_, rfl, (below_of hg).frame _, fun h => by cases h⟩
  · exact trodAll_mk1 (shut_bool Tryd.underlying4 _)
  · exact trodAll_mk1 (shut_string Tryd.underlying9 hmax)

theorem inst_row : Rows.FnExactInstructionsOfSaid :=
  OpenClaim.holds_of_wide 5 Tryd.f5 rfl rfl rfl rfl rfl rfl rfl ⟨rfl, rfl, rfl, rfl, rfl⟩ rfl rfl rfl rfl rfl (by kernel_rfl) Tryd.func5 (by kernel_rfl)
    (of_decide_eq_true (by kernel_rfl)) (by unfold Func.isWrapper; first | (rw [if_pos (by decide +kernel)]; kernel_rfl) | (rw [if_neg (by decide +kernel)]; exact ⟨rfl, rfl⟩))
    (fun os started H enc _ => inst_lifted os started H enc)

theorem inst_holds : Rows.FnExactInstructionsOfCardSaid :=
  Claim7.holds_tied_plain_at .later [] [.data, .pinned] true (true, "34bbca0471d9cb63907a04ebed20f4bdbae97c9b2692d9e5e5395e1b526744ed") true
    inst_row (fun _ h => by cases h) (by kernel_rfl) (fun _ h => by cases h) fnExactInstructionsOf_row_tie rfl ⟨rfl, rfl⟩ (by kernel_rfl) rfl
    (fun f fn hf hfn => by
      obtain rfl : f = 5 := Option.some.inj ((show Tryd.prog.funcNamed "loop.example/flatarrays/laws.FnExactInstructionsOf" = some 5 by kernel_rfl).symm.trans hf) |>.symm
      obtain rfl : fn = Tryd.f5 := (Option.some.inj (Tryd.func5.symm.trans hfn)).symm
      exact ⟨by kernel_rfl, fun j t ht => by
        rw [Tryd.params5] at ht
        have hm : t ∈ [9] := by simpa using Array.mem_of_getElem? ht
        have hall : ([9].all fun u => !Tryd.prog.wantsStandIn u) = true := by kernel_rfl
        exact (show Tryd.prog.wantsStandIn t = false by simpa using List.all_eq_true.1 hall t hm)⟩)
    (by kernel_rfl)

#print axioms inst_holds

end Go.Proofs.YtfaeolnmkdjhaaaDoor
