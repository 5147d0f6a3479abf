/- The law FnExactLevelsAt: for every text both functions answer alike, what is answered owns its memory, and the argument reads as it did. No condition but the library's own tables. -/
import Derived.Test.YtfaeolnmkdjhaaaDoorCVal
import Derived.Test.YtfaeolnmkdjhaaaDoorGr
import Derived.Test.YtfaeolnmkdjhaaaDoorPr
import Derived.IntWalk
import Derived.Below
import Derived.Test.YtfaeolnmkdjhaaaDoorOwn
import Derived.ProofKit
import Derived.Test.YtfaeolnmkdjhaaaDoorTie
import Derived.Test.YtfaeolnmkdjhaaaDoorCards
import Derived.Lay
import Derived.OpenShut
import Derived.Stop.Joined
namespace Go.Proofs.YtfaeolnmkdjhaaaDoor
section

/-- The number of an instruction's kind. -/
def kn : Ins → Int
  | .dig _ => 1
  | .var _ => 2
  | .pre _ => 3
  | .two _ => 4
  | .beg _ _ => 5
  | .fin _ => 6
theorem ri3_ins {x : ByteArray} {i : Ins} (h : insOf x = some i) : (ri3 x).1 = kn i := by
  have h1 := riV_of x
  rw [h] at h1
  simp only at h1
  rw [riV_eq] at h1
  cases i <;> (simp only [Ins.val, insT, Value.agg.injEq] at h1; simp at h1; exact h1.1)

/-- What a kind adds to the height. -/
def gk (k : Int) : Int := if k = 1 ∨ k = 2 then 1 else if k = 4 ∨ k = 6 then -1 else 0
theorem gk_kn (i : Ins) : gk (kn i) = grow i := by cases i <;> simp [gk, kn, grow]
theorem gk_bd (k : Int) : -1 ≤ gk k ∧ gk k ≤ 1 := by unfold gk; split <;> (try split) <;> omega

/-- The heights, by kinds. -/
def sumsG : Int → List ByteArray → List Int
  | _, [] => []
  | h, x :: l => (h + gk (ri3 x).1) :: sumsG (h + gk (ri3 x).1) l
/-- The height behind some instructions. -/
def hAt (h : Int) : List ByteArray → Int
  | [] => h
  | x :: l => hAt (h + gk (ri3 x).1) l
theorem hAt_snoc (h : Int) (l : List ByteArray) (x : ByteArray) : hAt h (l ++ [x]) = hAt h l + gk (ri3 x).1 := by
  induction l generalizing h with
  | nil => rfl
  | cons y l ih => exact ih _
theorem hAt_bd (h : Int) (l : List ByteArray) : h - l.length ≤ hAt h l ∧ hAt h l ≤ h + l.length := by
  induction l generalizing h with
  | nil => simp [hAt]
  | cons y l ih =>
    have h1 := ih (h + gk (ri3 y).1)
    have h2 := gk_bd (ri3 y).1
    simp only [hAt, List.length_cons]
    omega
theorem sumsG_snoc (h : Int) (l : List ByteArray) (x : ByteArray) : sumsG h (l ++ [x]) = sumsG h l ++ [hAt h l + gk (ri3 x).1] := by
  induction l generalizing h with
  | nil => rfl
  | cons y l ih => simp only [List.cons_append, sumsG, hAt, ih]
theorem sumsG_len (h : Int) (l : List ByteArray) : (sumsG h l).length = l.length := by
  induction l generalizing h with
  | nil => rfl
  | cons y l ih => simp only [sumsG, List.length_cons, ih]
theorem hts_sums : ∀ (l : List ByteArray) (m m' : MS), runB l m = some m' → sumsG (hgt m) l = htsB l m
  | [], _, _, _ => rfl
  | x :: l, m, m', h => by
    simp only [runB] at h
    cases hs : stepB x m with
    | none => rw [hs] at h; cases h
    | some m1 =>
      rw [hs] at h
      have h2 := hs
      unfold stepB at h2
      cases hi : insOf x with
      | none => rw [hi] at h2; cases h2
      | some i =>
        rw [hi] at h2
        have h3 := step_hgt h2
        simp only [sumsG, htsB, hs]
        rw [ri3_ins hi, gk_kn, ← h3, hts_sums l m1 m' h]

/-- The level of an instruction, and the level behind it, by its kind. -/
def lk (k l : Int) : Int := if k = 6 then l - 1 else l
def lb2 (k l : Int) : Int := if k = 5 then lk k l + 1 else lk k l
def lvsG : Int → List ByteArray → List Int
  | _, [] => []
  | h, x :: l => lk (ri3 x).1 h :: lvsG (lb2 (ri3 x).1 h) l
def lAt (h : Int) : List ByteArray → Int
  | [] => h
  | x :: l => lAt (lb2 (ri3 x).1 h) l
theorem lAt_snoc (h : Int) (l : List ByteArray) (x : ByteArray) : lAt h (l ++ [x]) = lb2 (ri3 x).1 (lAt h l) := by
  induction l generalizing h with
  | nil => rfl
  | cons y l ih => exact ih _
theorem lb2_bd (k l : Int) : l - 1 ≤ lb2 k l ∧ lb2 k l ≤ l + 1 := by unfold lb2 lk; split <;> split <;> omega
theorem lAt_bd (h : Int) (l : List ByteArray) : h - l.length ≤ lAt h l ∧ lAt h l ≤ h + l.length := by
  induction l generalizing h with
  | nil => simp [lAt]
  | cons y l ih =>
    have h1 := ih (lb2 (ri3 y).1 h)
    have h2 := lb2_bd (ri3 y).1 h
    simp only [lAt, List.length_cons]
    omega
theorem lvsG_snoc (h : Int) (l : List ByteArray) (x : ByteArray) : lvsG h (l ++ [x]) = lvsG h l ++ [lk (ri3 x).1 (lAt h l)] := by
  induction l generalizing h with
  | nil => rfl
  | cons y l ih => simp only [List.cons_append, lvsG, lAt, ih]
theorem lvsG_len (h : Int) (l : List ByteArray) : (lvsG h l).length = l.length := by
  induction l generalizing h with
  | nil => rfl
  | cons y l ih => simp only [lvsG, List.length_cons, ih]
theorem lk_kn (i : Ins) (a b : Nat) (h : (b : Int) = a + levD i) : lk (kn i) a = ((min a b : Nat) : Int) ∧ lb2 (kn i) a = b := by
  cases i <;> simp only [levD] at h <;> simp only [lb2, lk, kn] <;> (constructor <;> simp <;> omega)
theorem lvs_sums : ∀ (l : List ByteArray) (m m' : MS), runB l m = some m' → lvsG m.2.length l = lvsB l m
  | [], _, _, _ => rfl
  | x :: l, m, m', h => by
    simp only [runB] at h
    cases hs : stepB x m with
    | none => rw [hs] at h; cases h
    | some m1 =>
      rw [hs] at h
      have h2 := hs
      unfold stepB at h2
      cases hi : insOf x with
      | none => rw [hi] at h2; cases h2
      | some i =>
        rw [hi] at h2
        have h3 := lk_kn i m.2.length m1.2.length (step_lev h2)
        simp only [lvsG, lvsB, hs]
        rw [ri3_ins hi, h3.1, h3.2, lvs_sums l m1 m' h]

/-- What HeightsOf and LevelsAt answer. -/
def htA (s : ByteArray) : List Int := match codeT s with
  | some _ => htsB (cutB s) ([], [])
  | none => []
def lvA (s : ByteArray) : List Int := match codeT s with
  | some _ => lvsB (cutB s) ([], [])
  | none => []
theorem codeT_ran {s : ByteArray} {t : Tm} (h : codeT s = some t) : s.size ≤ 200 ∧ ∃ m, runB (cutB s) ([], []) = some m := by
  unfold codeT at h
  by_cases hs : 200 < s.size
  · rw [if_pos hs] at h; cases h
  · rw [if_neg hs] at h
    refine ⟨by omega, ?_⟩
    cases hr : runB (cutB s) ([], []) with
    | none => rw [hr] at h; cases h
    | some m => exact ⟨m, rfl⟩
theorem htA_sums {s : ByteArray} {t : Tm} (h : codeT s = some t) : htA s = sumsG 0 (cutB s) := by
  obtain ⟨_, m, hm⟩ := codeT_ran h
  unfold htA
  rw [h]
  exact (hts_sums _ _ _ hm).symm
theorem lvA_sums {s : ByteArray} {t : Tm} (h : codeT s = some t) : lvA s = lvsG 0 (cutB s) := by
  obtain ⟨_, m, hm⟩ := codeT_ran h
  unfold lvA
  rw [h]
  exact (lvs_sums _ _ _ hm).symm
theorem htA_len (s : ByteArray) : (htA s).length ≤ 201 := by
  cases h : codeT s with
  | none => unfold htA; rw [h]; simp
  | some t => rw [htA_sums h, sumsG_len]; have := cutB_len s; have := (codeT_ran h).1; omega
theorem lvA_len (s : ByteArray) : (lvA s).length ≤ 201 := by
  cases h : codeT s with
  | none => unfold lvA; rw [h]; simp
  | some t => rw [lvA_sums h, lvsG_len]; have := cutB_len s; have := (codeT_ran h).1; omega
end

section
open Go.RowKit

/-- The slice's cells are these ints. -/
def Ints (w : World) (A : Option Addr) (zs : List Int) : Prop :=
  0 < zs.length → ∃ b off, A = some ⟨b, off, none⟩ ∧ b < w.heap.size ∧ ∀ (j : Nat) (z : Int), zs[j]? = some z → w.cell? ⟨b, off + j, none⟩ = some (.int .i64 z)
theorem Ints.grown {w w' : World} {A : Option Addr} {zs : List Int} {row : Option Nat} (h : Ints w A zs) (hg : w.grownBy w' row) (hne : ∀ b off, A = some ⟨b, off, none⟩ → some b ≠ row) : Ints w' A zs := fun hl => by
  obtain ⟨b, off, rfl, hb, hc⟩ := h hl
  exact ⟨b, off, rfl, Nat.lt_of_lt_of_le hb hg.size, fun j z hj => hg.cell (hc j z hj) (hne b off rfl)⟩
theorem Ints.at_ {w : World} {A : Option Addr} {zs : List Int} {j : Nat} (h : Ints w A zs) (hj : j < zs.length) : ∃ b off, A = some ⟨b, off, none⟩ ∧ w.cell? ⟨b, off + j, none⟩ = some (.int .i64 zs[j]) := by
  obtain ⟨b, off, hA, _, hc⟩ := h (by omega)
  exact ⟨b, off, hA, hc j _ (List.getElem?_eq_getElem hj)⟩
theorem Ints.of_own {w : World} {base e : Nat} {A : Option Addr} {k c : Nat} {zs : List Int} (h : w.ownsRow base e 1 (.slice A k c) zs.length (zs.map (Value.int .i64))) : Ints w A zs := fun hl => by
  rcases h.2 with ⟨hv, hn⟩ | ⟨g, cap, cur, hv, _, hg, hnc, _, hcs, htake⟩
  · omega
  · cases hv
    refine ⟨g, 0, rfl, (Array.getElem?_eq_some_iff.1 hg).1, fun j z hj => ?_⟩
    have hjl : j < zs.length := by
      rcases Nat.lt_or_ge j zs.length with h | h
      · exact h
      · rw [List.getElem?_eq_none h] at hj; cases hj
    rw [Nat.zero_add, cell_of_row w g j _ _ (0, 0) hg]
    have : (cur.toList.take (zs.length * 1))[j]? = some (.int .i64 z) := by rw [htake, List.getElem?_map, hj]; rfl
    rw [List.getElem?_take, if_pos (by omega)] at this
    simpa using this

set_option maxHeartbeats 400000 in
theorem eqi_any (A B : Option Addr) (c d : Nat) (zs : List Int) (w : World) (h : Ints w A zs) (h2 : Ints w B zs) (hn : zs.length ≤ 1048576) :
    Calls Tryd.prog 20 #[.slice A zs.length c, .slice B zs.length d] w fun e w' => e = .returned (.bool true) ∧ w.grownBy w' none := by
  have HS := Lib.hid h
  have HS2 := Lib.hid h2
  obtain ⟨n, hnn⟩ : ∃ n, zs.length = n := ⟨_, rfl⟩
  have HN := Lib.hid hnn
  rw [hnn] at hn ⊢
  clear h h2 hnn
  have hnn : ((n : Int) != (n : Int)) = false := by simp
  go_enter Tryd.func20, Tryd.ntmps20
  go_wp2_with fail
  clear hnn
  go_loopw [5] (fun i wr => ∃ j : Nat, j ≤ n ∧ i = .int .i64 j ∧ Hid (w.grownBy wr none)) (fun i _ => n - (intOf i).toNat)
  case atStart => exact ⟨0, Nat.zero_le _, rfl, Lib.hid (gr_refl _ _)⟩
  case round =>
    obtain ⟨j, hj, rfl, hgr⟩ := hrel
    by_cases hlt : j < n
    · have hjz : j < zs.length := by have := HN.out; omega
      obtain ⟨b, off, rfl, hcell⟩ := (HS.out.grown hgr.out (by simp)).at_ hjz
      obtain ⟨b2, off2, rfl, hcell2⟩ := (HS2.out.grown hgr.out (by simp)).at_ hjz
      generalize zs[j] = z at hcell hcell2
      have hj0 : (0 : Int) ≤ (j : Int) := by omega
      have hj1 : (j : Int) < (n : Int) := by omega
      have hzz : (z != z) = false := by simp
      go_wp2_with fail
      go_quiet (fail)
      go_wp2_with fail
      go_roundw
      case rel => exact ⟨j + 1, by omega, by go_num, Lib.hid (hgr.out.trans (gr_drewN _ _ _))⟩
      case measure => simp [intOf]; omega
    · go_wp2_with fail
      go_ret
      exact ⟨rfl, hgr.out⟩

/-- The numbers from k on. -/
def upFrom (k n : Nat) : List Int := (List.range n).map fun i => ((k + i : Nat) : Int)
theorem upFrom_length (k n : Nat) : (upFrom k n).length = n := by simp [upFrom]
theorem upFrom_at {k n j : Nat} (h : j < n) : (upFrom k n)[j]? = some ((k + j : Nat) : Int) := by simp [upFrom, h]

set_option maxHeartbeats 400000 in
theorem held_any (A : Option Addr) (c k n : Nat) (w : World) (h : Ints w A (upFrom k n)) (hn : n ≤ 1048576) (hk : k ≤ 1000000000) :
    Calls Tryd.prog 22 #[.slice A n c, .int .i64 (k : Int)] w fun e w' => e = .returned (.int .i64 ((k + n : Nat) : Int)) ∧ w = w' := by
  have HS := Lib.hid h
  clear h
  go_enter Tryd.func22, Tryd.ntmps22
  go_wp2_with fail
  go_loop [1, 5] (fun u i => ∃ j : Nat, j ≤ n ∧ i = .int .i64 j ∧ u = .int .i64 ((k + j : Nat) : Int)) (fun _ i => n - (intOf i).toNat)
  case atStart => exact ⟨0, Nat.zero_le _, rfl, rfl⟩
  case round =>
    obtain ⟨j, hj, rfl, rfl⟩ := hrel
    by_cases hlt : j < n
    · obtain ⟨b, off, rfl, _, hc⟩ := HS.out (by rw [upFrom_length]; omega)
      have hcell := hc j _ (upFrom_at hlt)
      clear hc
      obtain ⟨z, hz⟩ : ∃ z : Nat, z = k + j := ⟨_, rfl⟩
      rw [← hz] at hcell
      have HZ := Lib.hid hz
      rw [← hz]
      have hz2 : z ≤ 1001048576 := by omega
      clear hz
      go_wp2_with fail
      go_round
      case rel => exact ⟨j + 1, by omega, by go_num, by rw [HZ.out]; go_num⟩
      case measure => simp [intOf]; omega
    · have hjn : j = n := by omega
      have HJ := Lib.hid hjn
      clear hjn
      go_wp2_with fail
      go_ret
      exact ⟨by rw [HJ.out]; rfl, rfl⟩

/-- How markIntS ends: the row holds the numbers from k on. -/
def MarkPost (base k n : Nat) (A : Option Addr) (c : Nat) (w : World) (e : Ending) (w' : World) : Prop :=
  e = .returned (.int .i64 ((k + n : Nat) : Int)) ∧ w.grownBy w' (Value.slice A n c).ownBlock ∧ w'.ownsRow base 3 1 (.slice A n c) n ((upFrom k n).map (Value.int .i64))

set_option maxHeartbeats 400000 in
theorem mark_any (A : Option Addr) (base c k n : Nat) (xs : List Value) (w : World) (h : w.ownsRow base 3 1 (.slice A n c) n xs) (hn : n ≤ 1048576) (hk : k ≤ 1000000000) :
    Calls Tryd.prog 21 #[.slice A n c, .int .i64 (k : Int)] w (MarkPost base k n A c w) := by
  have HO := Lib.hid h
  clear h
  go_enter Tryd.func21, Tryd.ntmps21
  go_wp2_with fail
  go_loopw [1, 5] (fun u i wr => ∃ (j : Nat) (ys : List Value), j ≤ n ∧ i = .int .i64 j ∧ u = .int .i64 ((k + j : Nat) : Int) ∧ Hid (wr.ownsRow base 3 1 (.slice A n c) n ys) ∧ Hid (∀ i, i < j → ys[i]? = some (.int .i64 ((k + i : Nat) : Int))) ∧ Hid (w.grownBy wr (Value.slice A n c).ownBlock)) (fun _ i _ => n - (intOf i).toNat)
  case atStart => exact ⟨0, xs, Nat.zero_le _, rfl, rfl, HO, Lib.hid (fun i hi => by omega), Lib.hid (gr_refl _ _)⟩
  case round =>
    obtain ⟨j, ys, hj, rfl, rfl, ho, hys, hgr⟩ := hrel
    by_cases hlt : j < n
    · obtain ⟨g, rfl⟩ : ∃ g, A = some ⟨g, 0, none⟩ := by
        rcases ho.out.2 with ⟨hv, hn0⟩ | ⟨g, cap, cur, hv, _⟩
        · omega
        · cases hv; exact ⟨g, rfl⟩
      have hyl : ys.length = n := by have := ho.out.1; omega
      have hcell : wr.cell? ⟨g, j, none⟩ = some ys[j] := (ho.out.cellAt j (by omega)).trans (List.getElem?_eq_getElem (by omega))
      have hfr := ho.out.frozenAt j
      generalize ys[j] = y0 at hcell
      obtain ⟨z, hz⟩ : ∃ z : Nat, z = k + j := ⟨_, rfl⟩
      have HZ := Lib.hid hz
      rw [← hz]
      have hz2 : z ≤ 1001048576 := by omega
      have HYL := Lib.hid hyl
      have hst := ho.out.stored j (.int .i64 (z : Int))
      have HST := Lib.hid hst
      clear hz hyl hst
      go_wp2_with fail
      go_roundw
      case rel =>
        refine ⟨j + 1, ys.set j (.int .i64 (z : Int)), by omega, by go_num, by rw [HZ.out]; go_num, Lib.hid HST.out.1, Lib.hid (fun i hi => ?_), Lib.hid (hgr.out.trans HST.out.2)⟩
        rw [List.getElem?_set]
        by_cases e : j = i
        · subst e
          rw [if_pos rfl, if_pos (by have := HYL.out; omega), HZ.out]
        · rw [if_neg e]
          exact hys.out i (by omega)
      case measure => simp [intOf]; omega
    · have hjn : j = n := by omega
      have HJ := Lib.hid hjn
      clear hjn
      go_wp2_with fail
      go_ret
      refine ⟨by rw [HJ.out]; rfl, hgr.out, ?_⟩
      have e : ys = (upFrom k n).map (Value.int .i64) := by
        refine List.ext_getElem? fun i => ?_
        have hyl : ys.length = n := by have := ho.out.1; omega
        rcases Nat.lt_or_ge i n with h | h
        · rw [hys.out i (by rw [HJ.out]; exact h), List.getElem?_map, upFrom_at h]; rfl
        · rw [List.getElem?_eq_none (by omega), List.getElem?_eq_none (by rw [List.length_map, upFrom_length]; omega)]
      rw [← e]
      exact ho.out
theorem infoJ : (Tryd.prog.info? 3).map (fun i => (i.zero, i.size, i.bytes)) = some (some (.int .i64 0), 1, 8) := by kernel_rfl
end

section
open Go.RowKit

set_option maxHeartbeats 1000000 in
theorem growth_any (k c v : Int) (w : World) :
    Calls Tryd.prog 44 #[.agg #[.int .i64 k, .int .u8 c, .int .u8 v]] w fun e w' => e = .returned (.int .i64 (gk k)) ∧ w.grownBy w' none := by
  have HX := Lib.hid (c3_new w (.int .i64 k) (.int .u8 c) (.int .u8 v) 53)
  have x0 := HX.out.c0
  obtain ⟨r, hr⟩ : ∃ r, gk k = r := ⟨_, rfl⟩
  rw [hr]
  by_cases h1 : k = 1
  · subst h1
    obtain rfl : 1 = r := hr
    go_enter Tryd.func44, Tryd.ntmps44
    go_wp2_with fail
    go_ret
    exact ⟨rfl, World.grownBy_alloc _ _ _⟩
  by_cases h2 : k = 2
  · subst h2
    obtain rfl : 1 = r := hr
    go_enter Tryd.func44, Tryd.ntmps44
    go_wp2_with fail
    go_ret
    exact ⟨rfl, World.grownBy_alloc _ _ _⟩
  by_cases h4 : k = 4
  · subst h4
    obtain rfl : -1 = r := hr
    go_enter Tryd.func44, Tryd.ntmps44
    go_wp2_with fail
    go_ret
    exact ⟨rfl, World.grownBy_alloc _ _ _⟩
  by_cases h6 : k = 6
  · subst h6
    obtain rfl : -1 = r := hr
    go_enter Tryd.func44, Tryd.ntmps44
    go_wp2_with fail
    go_ret
    exact ⟨rfl, World.grownBy_alloc _ _ _⟩
  obtain rfl : 0 = r := by rw [← hr]; unfold gk; rw [if_neg (by omega), if_neg (by omega)]
  have e1 : (k == 1) = false := by simpa using h1
  have e2 : (k == 2) = false := by simpa using h2
  have e4 : (k == 4) = false := by simpa using h4
  have e6 : (k == 6) = false := by simpa using h6
  clear hr
  go_enter Tryd.func44, Tryd.ntmps44
  go_wp2_with fail
  go_ret
  exact ⟨rfl, World.grownBy_alloc _ _ _⟩

/-- How a row of instructions reads. -/
theorem flatI_at : ∀ (l : List ByteArray) (j : Nat) (x : ByteArray), l[j]? = some x → (flatI l)[j * 3]? = some (.int .i64 (ri3 x).1) ∧ (flatI l)[j * 3 + 1]? = some (.int .u8 (ri3 x).2.1) ∧ (flatI l)[j * 3 + 2]? = some (.int .u8 (ri3 x).2.2)
  | [], j, x, h => by simp at h
  | y :: l, 0, x, h => by simp at h; subst h; exact ⟨rfl, rfl, rfl⟩
  | y :: l, j + 1, x, h => by
    have := flatI_at l j x (by simpa using h)
    have e1 : (j + 1) * 3 = j * 3 + 1 + 1 + 1 := by omega
    rw [e1]
    exact this
theorem irow3 {w : World} {base : Nat} {A : Option Addr} {k c : Nat} {xs : List ByteArray} (h : w.ownsRow base 53 3 (.slice A k c) xs.length (flatI xs)) :
    k = xs.length ∧ k ≤ c ∧ (0 < k → ∃ g, A = some ⟨g, 0, none⟩ ∧ g < w.heap.size ∧ ∀ (j : Nat) (x : ByteArray), xs[j]? = some x → w.cell? ⟨g, j * 3, none⟩ = some (.int .i64 (ri3 x).1) ∧ w.cell? ⟨g, j * 3 + 1, none⟩ = some (.int .u8 (ri3 x).2.1) ∧ w.cell? ⟨g, j * 3 + 2, none⟩ = some (.int .u8 (ri3 x).2.2)) := by
  rcases h.2 with ⟨hv, hn⟩ | ⟨g, cap, cur, hv, _, hg, hnc, hcm, hcs, htake⟩
  · cases hv
    exact ⟨by omega, by omega, fun h => by omega⟩
  · cases hv
    refine ⟨rfl, hnc, fun _ => ⟨g, rfl, (Array.getElem?_eq_some_iff.1 hg).1, fun j x hj => ?_⟩⟩
    have hjl : j < xs.length := by
      rcases Nat.lt_or_ge j xs.length with h | h
      · exact h
      · rw [List.getElem?_eq_none h] at hj; cases hj
    have hf := flatI_at xs j x hj
    have hc : ∀ i, i < xs.length * 3 → w.cell? ⟨g, i, none⟩ = (flatI xs)[i]? := fun i hi => by
      rw [cell_of_row w g i _ _ (0, 0) hg, ← htake, List.getElem?_take, if_pos hi]
      simp
    exact ⟨(hc _ (by omega)).trans hf.1, (hc _ (by omega)).trans hf.2.1, (hc _ (by omega)).trans hf.2.2⟩

theorem makeH_run (n : Nat) (hn : n ≤ 1048576) (u : World) : (Instr.makeSlice 29 (.int .i64 (n : Int)) (.int .i64 (n : Int))).run Tryd.prog u =
    .ok (.slice (some ⟨u.heap.size, 0, none⟩) n n) (u.alloc (.cells (madeCells #[.int .i64 0] n) 3)) := by
  obtain ⟨i0, hi0, hz0, hz1, hz2⟩ := info_parts infoJ
  have h := run_make (P := Tryd.prog) u 29 3 i0 (.int .i64 0) Tryd.underlying29 hi0 hz0 .i64 .i64 (n : Int) (n : Int) (by omega) (Int.le_refl _) (by rw [hz2]; omega) (by omega)
  simpa [hz1, Value.cells] using h
theorem madeH_own (w : World) (n : Nat) (hn : n ≤ 1048576) : (w.alloc (.cells (madeCells #[.int .i64 0] n) 3)).ownsRow w.heap.size 3 1 (.slice (some ⟨w.heap.size, 0, none⟩) n n) n (madeCells #[.int .i64 0] n).toList :=
  World.ownsRow_lit (base := w.heap.size) (e := 3) (size := 1) w (madeCells #[.int .i64 0] n) n (Nat.le_refl _) (by simp only [maxLen]; omega) (by simp [madeCells])
theorem take_setH {α : Type} (ys : List α) (m : Nat) (v : α) (h : m < ys.length) : (ys.set m v).take (m + 1) = ys.take m ++ [v] := by
  rw [List.take_add_one, List.take_set_of_le (Nat.le_refl _), List.getElem?_set_self h]
  rfl
theorem take_snocH {α : Type} {l : List α} {j : Nat} {x : α} (h : l[j]? = some x) : l.take (j + 1) = l.take j ++ [x] := by rw [List.take_add_one, h]; rfl

/-- How heights and levels end: a row of the call's own. -/
def RowP (zs : List Int) (w : World) (e : Ending) (w' : World) : Prop := ∃ v, e = .returned v ∧ w.grownBy w' none ∧ w'.ownsRow w.heap.size 3 1 v zs.length (inV zs)

set_option maxRecDepth 100000 in
set_option maxHeartbeats 4000000 in
theorem heights_any (base : Nat) (A : Option Addr) (k c : Nat) (ty : TypeId) (pv : Value) (xs : List ByteArray) (w : World) (h : w.ownsRow base 53 3 (.slice A k c) xs.length (flatI xs)) (hl : xs.length ≤ 1000) :
    Calls Tryd.prog 34 #[.agg #[.slice A k c, .iface ty pv]] w (RowP (sumsG 0 xs) w) := by
  obtain ⟨hk, hkc, hrow⟩ := irow3 h
  have HK := Lib.hid hk
  have hk2 : k ≤ 1000 := by omega
  have HROW := Lib.hid hrow
  have hmk := makeH_run k (by omega)
  obtain ⟨w1, hw1⟩ : ∃ z, w.alloc (.cells #[.slice A k c, .iface ty pv] 45) = z := ⟨_, rfl⟩
  have g1 : w.grownBy w1 none := by rw [← hw1]; exact World.grownBy_alloc _ _ _
  have hx : Pr w1 w.heap.size 45 (.slice A k c) (.iface ty pv) := by rw [← hw1]; exact Pr.new _ _ _ _
  have x0 := hx.c0
  have hx2 := hx.alloc (.cells (madeCells #[.int .i64 0] k) 3)
  have y0 := hx2.c0
  have HO := Lib.hid (own_base (madeH_own w1 k (by omega)) g1.size)
  have HG1 := Lib.hid (g1.trans (World.grownBy_alloc w1 (.cells (madeCells #[.int .i64 0] k) 3) none))
  clear h hk hrow g1 hx hx2
  go_enter Tryd.func34, Tryd.ntmps34
  go_wp2_with fail
  go_loopw [3, 14] (fun u i wr => ∃ (j : Nat) (hh : Int) (ys : List Value), j ≤ k ∧ i = .int .i64 j ∧ u = .int .i64 hh ∧ -1000 ≤ hh ∧ hh ≤ 1000 ∧ Hid (hh = hAt 0 (xs.take j)) ∧ Hid (wr.ownsRow w.heap.size 3 1 (.slice (some ⟨w1.heap.size, 0, none⟩) k k) k ys) ∧ Hid (ys.take j = inV (sumsG 0 (xs.take j))) ∧ Hid (w.grownBy wr none)) (fun _ i _ => k - (intOf i).toNat)
  case atStart => exact ⟨0, 0, _, Nat.zero_le _, rfl, rfl, by omega, by omega, Lib.hid (by simp [hAt]), HO, Lib.hid (by simp [sumsG, inV]), HG1⟩
  case round =>
    obtain ⟨j, hh, ys, hj, rfl, rfl, hlo, hhi, hhA, hown, hyt, hgr⟩ := hrel
    by_cases hlt : j < k
    · obtain ⟨g, rfl, hg1, hcell⟩ := HROW.out (by omega)
      obtain ⟨x, hx⟩ : ∃ x, xs[j]? = some x := ⟨_, List.getElem?_eq_getElem (by have := HK.out; omega)⟩
      obtain ⟨q0, q1, q2⟩ := hcell j x hx
      have c0 := hgr.out.cell q0 (by simp)
      have c1 := hgr.out.cell q1 (by simp)
      have c2 := hgr.out.cell q2 (by simp)
      have HTK := Lib.hid (take_snocH hx)
      have hbd := gk_bd (ri3 x).1
      have HH2 : Hid (hh + gk (ri3 x).1 = hAt 0 (xs.take (j + 1))) := Lib.hid (by rw [HTK.out, hAt_snoc, ← hhA.out])
      have hbd2 := hAt_bd 0 (xs.take (j + 1))
      rw [← HH2.out] at hbd2
      have HS2 : Hid (sumsG 0 (xs.take (j + 1)) = sumsG 0 (xs.take j) ++ [hh + gk (ri3 x).1]) := Lib.hid (by rw [HTK.out, sumsG_snoc, ← hhA.out])
      obtain ⟨kk, hkk⟩ : ∃ q, (ri3 x).1 = q := ⟨_, rfl⟩
      obtain ⟨sg, hsg⟩ : ∃ q, (ri3 x).2.1 = q := ⟨_, rfl⟩
      obtain ⟨vr, hvr⟩ : ∃ q, (ri3 x).2.2 = q := ⟨_, rfl⟩
      have HC := Lib.hid (fun u => growth_any kk sg vr u)
      rw [hkk] at c0 hbd HH2 hbd2 HS2
      rw [hsg] at c1
      rw [hvr] at c2
      obtain ⟨r, hr⟩ : ∃ r, gk kk = r := ⟨_, rfl⟩
      rw [hr] at HC hbd HH2 hbd2 HS2
      have hlen : (xs.take (j + 1)).length ≤ 1000 := by rw [List.length_take]; omega
      have hb1 : -1000 ≤ hh + r := by omega
      have hb2 : hh + r ≤ 1000 := by omega
      have ww : IntKind.i64.wrap (hh + r) = hh + r := IntWalk.i64_in _ (by omega)
      have hyl : ys.length = k := by have := hown.out.1; omega
      obtain ⟨y0v, hy0⟩ : ∃ y, ys[j]? = some y := ⟨_, List.getElem?_eq_getElem (by omega)⟩
      have HY0 := Lib.hid hy0
      have HYL := Lib.hid hyl
      clear hcell q0 q1 q2 hx hbd hbd2 hkk hsg hvr hr hlen hyl hy0 x0 y0
      go_wp2_with fail
      refine (HC.out _).mono ?_
      rintro e w2 ⟨rfl, hg2⟩
      have hg2' := (World.grownBy_alloc wr (.cells #[.int .i64 kk, .int .u8 sg, .int .u8 vr] 53) none).trans hg2
      have hown2 := own_keep hown.out (fun b hb => hg2'.block b (hown.out.lt b hb).2 (by simp))
      have hcell3 : w2.cell? ⟨w1.heap.size, j, none⟩ = some y0v := by have := (hown2.cellAt j (by omega)).trans HY0.out; simpa using this
      have hfr : w2.frozen? ⟨w1.heap.size, j, none⟩ = false := by have := hown2.frozenAt j; simpa using this
      have HST := Lib.hid (hown2.stored j (.int .i64 (hh + r)))
      have HB := Lib.hid ((hown2.lt _ rfl).1)
      have HYT : Hid ((ys.set j (.int .i64 (hh + r))).take (j + 1) = inV (sumsG 0 (xs.take (j + 1)))) := Lib.hid (by
        rw [take_setH _ _ _ (by rw [HYL.out]; exact hlt), hyt.out, HS2.out, inV_snoc])
      have HG2 := Lib.hid (hgr.out.trans hg2')
      clear hg2 hg2' hown2 c0 c1 c2
      go_wp2_with fail
      go_roundw
      case rel => exact ⟨j + 1, hh + r, _, by omega, by go_num, rfl, hb1, hb2, HH2, Lib.hid HST.out.1, HYT, Lib.hid (gr_ownF HG2.out HST.out.2 (fun k e => by cases e; exact HB.out))⟩
      case measure => simp [intOf]; omega
    · have hjk : j = k := by omega
      have HJ := Lib.hid hjk
      clear hjk
      go_wp2_with fail
      go_ret
      have e1 : xs.take j = xs := by rw [HJ.out, HK.out, List.take_length]
      have h3 := hyt.out
      have h4 := hown.out
      rw [e1, HJ.out, List.take_of_length_le (by have := h4.1; omega)] at h3
      rw [h3] at h4
      exact ⟨_, rfl, hgr.out, by rw [sumsG_len, ← HK.out]; exact h4⟩
end

section
open Go.RowKit

set_option maxRecDepth 100000 in
set_option maxHeartbeats 4000000 in
theorem levels_any (base : Nat) (A : Option Addr) (k c : Nat) (ty : TypeId) (pv : Value) (xs : List ByteArray) (w : World) (h : w.ownsRow base 53 3 (.slice A k c) xs.length (flatI xs)) (hl : xs.length ≤ 1000) :
    Calls Tryd.prog 35 #[.agg #[.slice A k c, .iface ty pv]] w (RowP (lvsG 0 xs) w) := by
  obtain ⟨hk, hkc, hrow⟩ := irow3 h
  have HK := Lib.hid hk
  have hk2 : k ≤ 1000 := by omega
  have HROW := Lib.hid hrow
  have hmk := makeH_run k (by omega)
  obtain ⟨w1, hw1⟩ : ∃ z, w.alloc (.cells #[.slice A k c, .iface ty pv] 45) = z := ⟨_, rfl⟩
  have g1 : w.grownBy w1 none := by rw [← hw1]; exact World.grownBy_alloc _ _ _
  have hx : Pr w1 w.heap.size 45 (.slice A k c) (.iface ty pv) := by rw [← hw1]; exact Pr.new _ _ _ _
  have x0 := hx.c0
  have hx2 := hx.alloc (.cells (madeCells #[.int .i64 0] k) 3)
  have y0 := hx2.c0
  have HO := Lib.hid (own_base (madeH_own w1 k (by omega)) g1.size)
  have HG1 := Lib.hid (g1.trans (World.grownBy_alloc w1 (.cells (madeCells #[.int .i64 0] k) 3) none))
  clear h hk hrow g1 hx hx2
  go_enter Tryd.func35, Tryd.ntmps35
  go_wp2_with fail
  go_loopw [3, 14] (fun u i wr => ∃ (j : Nat) (hh : Int) (ys : List Value), j ≤ k ∧ i = .int .i64 j ∧ u = .int .i64 hh ∧ -1000 ≤ hh ∧ hh ≤ 1000 ∧ Hid (hh = lAt 0 (xs.take j)) ∧ Hid (wr.ownsRow w.heap.size 3 1 (.slice (some ⟨w1.heap.size, 0, none⟩) k k) k ys) ∧ Hid (ys.take j = inV (lvsG 0 (xs.take j))) ∧ Hid (w.grownBy wr none)) (fun _ i _ => k - (intOf i).toNat)
  case atStart => exact ⟨0, 0, _, Nat.zero_le _, rfl, rfl, by omega, by omega, Lib.hid (by simp [lAt]), HO, Lib.hid (by simp [lvsG, inV]), HG1⟩
  case round =>
    obtain ⟨j, hh, ys, hj, rfl, rfl, hlo, hhi, hhA, hown, hyt, hgr⟩ := hrel
    by_cases hlt : j < k
    · obtain ⟨g, rfl, hg1, hcell⟩ := HROW.out (by omega)
      obtain ⟨x, hx⟩ : ∃ x, xs[j]? = some x := ⟨_, List.getElem?_eq_getElem (by have := HK.out; omega)⟩
      obtain ⟨q0, q1, q2⟩ := hcell j x hx
      have c0 := hgr.out.cell q0 (by simp)
      have c1 := hgr.out.cell q1 (by simp)
      have c2 := hgr.out.cell q2 (by simp)
      have HTK := Lib.hid (take_snocH hx)
      have hbd := lb2_bd (ri3 x).1 hh
      have HH2 : Hid (lb2 (ri3 x).1 hh = lAt 0 (xs.take (j + 1))) := Lib.hid (by rw [HTK.out, lAt_snoc, ← hhA.out])
      have hbd2 := lAt_bd 0 (xs.take (j + 1))
      rw [← HH2.out] at hbd2
      have HS2 : Hid (lvsG 0 (xs.take (j + 1)) = lvsG 0 (xs.take j) ++ [lk (ri3 x).1 hh]) := Lib.hid (by rw [HTK.out, lvsG_snoc, ← hhA.out])
      obtain ⟨kk, hkk⟩ : ∃ q, (ri3 x).1 = q := ⟨_, rfl⟩
      obtain ⟨sg, hsg⟩ : ∃ q, (ri3 x).2.1 = q := ⟨_, rfl⟩
      obtain ⟨vr, hvr⟩ : ∃ q, (ri3 x).2.2 = q := ⟨_, rfl⟩
      rw [hkk] at c0 hbd HH2 hbd2 HS2
      rw [hsg] at c1
      rw [hvr] at c2
      have hlen : (xs.take (j + 1)).length ≤ 1000 := by rw [List.length_take]; omega
      have hb1 : -1000 ≤ lb2 kk hh := by omega
      have hb2 : lb2 kk hh ≤ 1000 := by omega
      have ww : IntKind.i64.wrap (hh - 1) = hh - 1 := IntWalk.i64_in _ (by omega)
      have ww2 : IntKind.i64.wrap (hh + 1) = hh + 1 := IntWalk.i64_in _ (by omega)
      have hyl : ys.length = k := by have := hown.out.1; omega
      obtain ⟨y0v, hy0⟩ : ∃ y, ys[j]? = some y := ⟨_, List.getElem?_eq_getElem (by omega)⟩
      have HYL := Lib.hid hyl
      have hx3 := c3_new wr (.int .i64 kk) (.int .u8 sg) (.int .u8 vr) 53
      have t0 := hx3.c0
      have hg2 := World.grownBy_alloc wr (.cells #[.int .i64 kk, .int .u8 sg, .int .u8 vr] 53) none
      have hown2 := own_keep hown.out (fun b hb => hg2.block b (hown.out.lt b hb).2 (by simp))
      have hcell3 : (wr.alloc (.cells #[.int .i64 kk, .int .u8 sg, .int .u8 vr] 53)).cell? ⟨w1.heap.size, j, none⟩ = some y0v := by have := (hown2.cellAt j (by omega)).trans hy0; simpa using this
      have hfr : (wr.alloc (.cells #[.int .i64 kk, .int .u8 sg, .int .u8 vr] 53)).frozen? ⟨w1.heap.size, j, none⟩ = false := by have := hown2.frozenAt j; simpa using this
      have HST := Lib.hid (hown2.stored j (.int .i64 (lk kk hh)))
      have HB := Lib.hid ((hown2.lt _ rfl).1)
      have hbw : w1.heap.size ≠ wr.heap.size := Nat.ne_of_lt (hown.out.lt _ rfl).2
      have HYT : Hid ((ys.set j (.int .i64 (lk kk hh))).take (j + 1) = inV (lvsG 0 (xs.take (j + 1)))) := Lib.hid (by
        rw [take_setH _ _ _ (by rw [HYL.out]; exact hlt), hyt.out, HS2.out, inV_snoc])
      have HG2 := Lib.hid (hgr.out.trans hg2)
      have hx4 := fun u => hx3.grown (gr_set _ w1.heap.size j u) (by simpa using fun e => hbw e.symm)
      have t5 := fun u => (hx4 u).c0
      clear hcell q0 q1 q2 hx hbd hbd2 hkk hsg hvr hlen hyl hy0 x0 y0 hown2 hg2 hx3 hx4
      by_cases h6 : kk = 6
      · subst h6
        have e1 : lk 6 hh = hh - 1 := rfl
        have e2 : lb2 6 hh = hh - 1 := rfl
        rw [e1] at HS2 HST HYT
        rw [e2] at HH2 hb1 hb2
        clear e1 e2
        go_wp2_with fail
        go_roundw
        case rel => exact ⟨j + 1, hh - 1, _, by omega, by go_num, rfl, hb1, hb2, HH2, Lib.hid HST.out.1, HYT, Lib.hid (gr_ownF HG2.out HST.out.2 (fun k e => by cases e; exact HB.out))⟩
        case measure => simp [intOf]; omega
      have h6b : (kk == 6) = false := by simpa using h6
      by_cases h5 : kk = 5
      · subst h5
        have e1 : lk 5 hh = hh := rfl
        have e2 : lb2 5 hh = hh + 1 := rfl
        rw [e1] at HS2 HST HYT
        rw [e2] at HH2 hb1 hb2
        clear e1 e2
        go_wp2_with fail
        go_roundw
        case rel => exact ⟨j + 1, hh + 1, _, by omega, by go_num, rfl, hb1, hb2, HH2, Lib.hid HST.out.1, HYT, Lib.hid (gr_ownF HG2.out HST.out.2 (fun k e => by cases e; exact HB.out))⟩
        case measure => simp [intOf]; omega
      have h5b : (kk == 5) = false := by simpa using h5
      have e1 : lk kk hh = hh := by unfold lk; rw [if_neg h6]
      have e2 : lb2 kk hh = hh := by unfold lb2; rw [if_neg h5, e1]
      rw [e1] at HS2 HST HYT
      rw [e2] at HH2 hb1 hb2
      clear e1 e2
      go_wp2_with fail
      go_roundw
      case rel => exact ⟨j + 1, hh, _, by omega, by go_num, rfl, hb1, hb2, HH2, Lib.hid HST.out.1, HYT, Lib.hid (gr_ownF HG2.out HST.out.2 (fun k e => by cases e; exact HB.out))⟩
      case measure => simp [intOf]; omega
    · have hjk : j = k := by omega
      have HJ := Lib.hid hjk
      clear hjk
      go_wp2_with fail
      go_ret
      have e1 : xs.take j = xs := by rw [HJ.out, HK.out, List.take_length]
      have h3 := hyt.out
      have h4 := hown.out
      rw [e1, HJ.out, List.take_of_length_le (by have := h4.1; omega)] at h3
      rw [h3] at h4
      exact ⟨_, rfl, hgr.out, by rw [lvsG_len, ← HK.out]; exact h4⟩


set_option maxHeartbeats 1000000 in
theorem hts_spec (s : ByteArray) (w : World) : Calls Tryd.prog 18 #[.string s] w fun e w' => ∃ A c, e = .returned (.tuple #[.slice A (htA s).length c, .bool (codeT s).isSome]) ∧ w.grownBy w' none ∧ Ints w' A (htA s) := by
  have H := Lib.hid (bld_any s w)
  cases hc : codeT s with
  | none =>
    have HC := Lib.hid hc
    have HA : Hid (htA s = []) := Lib.hid (by unfold htA; rw [hc])
    clear hc
    go_enter Tryd.func18, Tryd.ntmps18
    go_wp2_with fail
    refine H.out.mono ?_
    intro e w1 hp
    obtain ⟨hg, hp⟩ := hp
    rw [HC.out] at hp
    obtain ⟨hv, lv, rfl, h1, h2⟩ := hp
    obtain ⟨A1, k1, c1, rfl⟩ := own_form h1
    obtain ⟨A2, k2, c2, rfl⟩ := own_form h2
    obtain rfl := own_len h1
    obtain rfl := own_len h2
    have HG := Lib.hid (hg.trans (World.grownBy_alloc w1 (.cells #[.int .u8 0, .int .u8 0, .slice none 0 0] 37) none))
    clear hg h1 h2
    go_wp2_with fail
    go_ret2
    rw [HA.out]
    exact ⟨_, _, rfl, HG.out, fun h => by simp at h⟩
  | some t =>
    have HC := Lib.hid hc
    have HA := Lib.hid (show htA s = _ by unfold htA; rw [hc])
    clear hc
    go_enter Tryd.func18, Tryd.ntmps18
    go_wp2_with fail
    refine H.out.mono ?_
    intro e w1 hp
    obtain ⟨hg, hp⟩ := hp
    rw [HC.out] at hp
    obtain ⟨a, c, A, k, d, hv, lv, rfl, hsn, h1, h2⟩ := hp
    obtain ⟨A1, k1, c1, rfl⟩ := own_form h1
    obtain ⟨A2, k2, c2, rfl⟩ := own_form h2
    obtain rfl := own_len h1
    obtain rfl := own_len h2
    have HI := Lib.hid h1
    have hgn := World.grownBy_alloc w1 (.cells #[.int .u8 a, .int .u8 c, .slice A k d] 37) none
    have HGN := Lib.hid hgn
    have HG := Lib.hid (hg.trans hgn)
    obtain ⟨n, hn⟩ : ∃ n, (cutB s).length = n := ⟨_, rfl⟩
    rw [hn] at HI ⊢
    clear hg h1 h2 hsn hgn hn
    go_wp2_with fail
    go_ret2
    rw [HA.out]
    have hlen := HI.out.1
    simp only [inV, List.length_map, Nat.mul_one] at hlen
    refine ⟨_, _, by rw [hlen]; rfl, HG.out, Ints.grown (Ints.of_own (e := 3) (by rw [hlen]; exact HI.out)) HGN.out (by simp)⟩

set_option maxHeartbeats 1000000 in
theorem hts_impl (s : ByteArray) (w : World) : Calls Tryd.prog 19 #[.string s] w fun e w' => ∃ A c, e = .returned (.tuple #[.slice A (htA s).length c, .bool (codeT s).isSome]) ∧ w.grownBy w' none ∧ w'.ownsRow w.heap.size 3 1 (.slice A (htA s).length c) (htA s).length ((htA s).map (Value.int .i64)) := by
  have H := Lib.hid (readc_any s w)
  cases hc : codeT s with
  | none =>
    have HC := Lib.hid hc
    have HA : Hid (htA s = []) := Lib.hid (by unfold htA; rw [hc])
    clear hc
    go_enter Tryd.func19, Tryd.ntmps19
    go_wp2_with fail
    refine H.out.mono ?_
    intro e w1 hp
    obtain ⟨hg, hp⟩ := hp
    rw [HC.out] at hp
    obtain rfl := hp
    have HG := Lib.hid (hg.trans (World.grownBy_alloc w1 (.cells #[.slice none 0 0, .nilIface] 45) none))
    clear hg
    go_wp2_with fail
    go_ret2
    rw [HA.out]
    exact ⟨none, 0, rfl, HG.out, ⟨rfl, .inl ⟨rfl, rfl⟩⟩⟩
  | some t =>
    have HC := Lib.hid hc
    have HA := Lib.hid (htA_sums hc)
    have HLE := Lib.hid (show (cutB s).length ≤ 1000 by have := cutB_len s; have := (codeT_ran hc).1; omega)
    clear hc
    go_enter Tryd.func19, Tryd.ntmps19
    go_wp2_with fail
    refine H.out.mono ?_
    intro e w1 hp
    obtain ⟨hg, hp⟩ := hp
    rw [HC.out] at hp
    obtain ⟨iv, xv, rfl, h1, h2⟩ := hp
    obtain ⟨A1, k1, c1, rfl⟩ := own_form h1
    obtain ⟨ty, pv, rfl⟩ := h2.iface
    obtain ⟨w2, hw2⟩ : ∃ z, w1.alloc (.cells #[.slice A1 k1 c1, .iface ty pv] 45) = z := ⟨_, rfl⟩
    have g2 : w1.grownBy w2 none := by rw [← hw2]; exact World.grownBy_alloc _ _ _
    have hx : Pr w2 w1.heap.size 45 (.slice A1 k1 c1) (.iface ty pv) := by rw [← hw2]; exact Pr.new _ _ _ _
    have x0 := hx.c0
    have x1 := hx.c1
    have HT := Lib.hid (heights_any w.heap.size A1 k1 c1 ty pv (cutB s) w2 (own_keep h1 (fun g hk => g2.block g (h1.lt g hk).2 (by simp))) HLE.out)
    have HG := Lib.hid (hg.trans g2)
    clear hg h1 h2 g2 hx
    go_wp2_with fail
    refine HT.out.mono ?_
    rintro e w3 ⟨v, rfl, hg3, ho3⟩
    obtain ⟨A3, k3, c3, rfl⟩ := own_form ho3
    obtain rfl := own_len ho3
    have HO3 := Lib.hid (own_base ho3 HG.out.size)
    have HG3 := Lib.hid (HG.out.trans hg3)
    obtain ⟨n, hn⟩ : ∃ n, (sumsG 0 (cutB s)).length = n := ⟨_, rfl⟩
    rw [hn] at HO3 ⊢
    have HN := Lib.hid hn
    clear hg3 ho3 hn
    go_wp2_with fail
    go_ret2
    rw [HA.out, HN.out]
    exact ⟨_, _, rfl, HG3.out, HO3.out⟩

theorem both_hts (s : ByteArray) : ∃ (zs : List Int) (b : Bool), zs.length ≤ 400 ∧
    (∀ w, Calls Tryd.prog 18 #[.string s] w fun e w' => ∃ A c, e = .returned (.tuple #[.slice A zs.length c, .bool b]) ∧ w.grownBy w' none ∧ Ints w' A zs) ∧
    (∀ w, Calls Tryd.prog 19 #[.string s] w fun e w' => ∃ A c, e = .returned (.tuple #[.slice A zs.length c, .bool b]) ∧ w.grownBy w' none ∧
      w'.ownsRow w.heap.size 3 1 (.slice A zs.length c) zs.length (zs.map (Value.int .i64))) :=
  ⟨htA s, (codeT s).isSome, Nat.le_trans (htA_len s) (by omega), hts_spec s, hts_impl s⟩

set_option maxHeartbeats 1000000 in
theorem lvs_spec (s : ByteArray) (w : World) : Calls Tryd.prog 23 #[.string s] w fun e w' => ∃ A c, e = .returned (.tuple #[.slice A (lvA s).length c, .bool (codeT s).isSome]) ∧ w.grownBy w' none ∧ Ints w' A (lvA s) := by
  have H := Lib.hid (bld_any s w)
  cases hc : codeT s with
  | none =>
    have HC := Lib.hid hc
    have HA : Hid (lvA s = []) := Lib.hid (by unfold lvA; rw [hc])
    clear hc
    go_enter Tryd.func23, Tryd.ntmps23
    go_wp2_with fail
    refine H.out.mono ?_
    intro e w1 hp
    obtain ⟨hg, hp⟩ := hp
    rw [HC.out] at hp
    obtain ⟨hv, lv, rfl, h1, h2⟩ := hp
    obtain ⟨A1, k1, c1, rfl⟩ := own_form h1
    obtain ⟨A2, k2, c2, rfl⟩ := own_form h2
    obtain rfl := own_len h1
    obtain rfl := own_len h2
    have HG := Lib.hid (hg.trans (World.grownBy_alloc w1 (.cells #[.int .u8 0, .int .u8 0, .slice none 0 0] 37) none))
    clear hg h1 h2
    go_wp2_with fail
    go_ret2
    rw [HA.out]
    exact ⟨_, _, rfl, HG.out, fun h => by simp at h⟩
  | some t =>
    have HC := Lib.hid hc
    have HA := Lib.hid (show lvA s = _ by unfold lvA; rw [hc])
    clear hc
    go_enter Tryd.func23, Tryd.ntmps23
    go_wp2_with fail
    refine H.out.mono ?_
    intro e w1 hp
    obtain ⟨hg, hp⟩ := hp
    rw [HC.out] at hp
    obtain ⟨a, c, A, k, d, hv, lv, rfl, hsn, h1, h2⟩ := hp
    obtain ⟨A1, k1, c1, rfl⟩ := own_form h1
    obtain ⟨A2, k2, c2, rfl⟩ := own_form h2
    obtain rfl := own_len h1
    obtain rfl := own_len h2
    have HI := Lib.hid h2
    have hgn := World.grownBy_alloc w1 (.cells #[.int .u8 a, .int .u8 c, .slice A k d] 37) none
    have HGN := Lib.hid hgn
    have HG := Lib.hid (hg.trans hgn)
    obtain ⟨n, hn⟩ : ∃ n, (cutB s).length = n := ⟨_, rfl⟩
    rw [hn] at HI ⊢
    clear hg h1 h2 hsn hgn hn
    go_wp2_with fail
    go_ret2
    rw [HA.out]
    have hlen := HI.out.1
    simp only [inV, List.length_map, Nat.mul_one] at hlen
    refine ⟨_, _, by rw [hlen]; rfl, HG.out, Ints.grown (Ints.of_own (e := 3) (by rw [hlen]; exact HI.out)) HGN.out (by simp)⟩

set_option maxHeartbeats 1000000 in
theorem lvs_impl (s : ByteArray) (w : World) : Calls Tryd.prog 24 #[.string s] w fun e w' => ∃ A c, e = .returned (.tuple #[.slice A (lvA s).length c, .bool (codeT s).isSome]) ∧ w.grownBy w' none ∧ w'.ownsRow w.heap.size 3 1 (.slice A (lvA s).length c) (lvA s).length ((lvA s).map (Value.int .i64)) := by
  have H := Lib.hid (readc_any s w)
  cases hc : codeT s with
  | none =>
    have HC := Lib.hid hc
    have HA : Hid (lvA s = []) := Lib.hid (by unfold lvA; rw [hc])
    clear hc
    go_enter Tryd.func24, Tryd.ntmps24
    go_wp2_with fail
    refine H.out.mono ?_
    intro e w1 hp
    obtain ⟨hg, hp⟩ := hp
    rw [HC.out] at hp
    obtain rfl := hp
    have HG := Lib.hid (hg.trans (World.grownBy_alloc w1 (.cells #[.slice none 0 0, .nilIface] 45) none))
    clear hg
    go_wp2_with fail
    go_ret2
    rw [HA.out]
    exact ⟨none, 0, rfl, HG.out, ⟨rfl, .inl ⟨rfl, rfl⟩⟩⟩
  | some t =>
    have HC := Lib.hid hc
    have HA := Lib.hid (lvA_sums hc)
    have HLE := Lib.hid (show (cutB s).length ≤ 1000 by have := cutB_len s; have := (codeT_ran hc).1; omega)
    clear hc
    go_enter Tryd.func24, Tryd.ntmps24
    go_wp2_with fail
    refine H.out.mono ?_
    intro e w1 hp
    obtain ⟨hg, hp⟩ := hp
    rw [HC.out] at hp
    obtain ⟨iv, xv, rfl, h1, h2⟩ := hp
    obtain ⟨A1, k1, c1, rfl⟩ := own_form h1
    obtain ⟨ty, pv, rfl⟩ := h2.iface
    obtain ⟨w2, hw2⟩ : ∃ z, w1.alloc (.cells #[.slice A1 k1 c1, .iface ty pv] 45) = z := ⟨_, rfl⟩
    have g2 : w1.grownBy w2 none := by rw [← hw2]; exact World.grownBy_alloc _ _ _
    have hx : Pr w2 w1.heap.size 45 (.slice A1 k1 c1) (.iface ty pv) := by rw [← hw2]; exact Pr.new _ _ _ _
    have x0 := hx.c0
    have x1 := hx.c1
    have HT := Lib.hid (levels_any w.heap.size A1 k1 c1 ty pv (cutB s) w2 (own_keep h1 (fun g hk => g2.block g (h1.lt g hk).2 (by simp))) HLE.out)
    have HG := Lib.hid (hg.trans g2)
    clear hg h1 h2 g2 hx
    go_wp2_with fail
    refine HT.out.mono ?_
    rintro e w3 ⟨v, rfl, hg3, ho3⟩
    obtain ⟨A3, k3, c3, rfl⟩ := own_form ho3
    obtain rfl := own_len ho3
    have HO3 := Lib.hid (own_base ho3 HG.out.size)
    have HG3 := Lib.hid (HG.out.trans hg3)
    obtain ⟨n, hn⟩ : ∃ n, (lvsG 0 (cutB s)).length = n := ⟨_, rfl⟩
    rw [hn] at HO3 ⊢
    have HN := Lib.hid hn
    clear hg3 ho3 hn
    go_wp2_with fail
    go_ret2
    rw [HA.out, HN.out]
    exact ⟨_, _, rfl, HG3.out, HO3.out⟩

theorem both_lvs (s : ByteArray) : ∃ (zs : List Int) (b : Bool), zs.length ≤ 400 ∧
    (∀ w, Calls Tryd.prog 23 #[.string s] w fun e w' => ∃ A c, e = .returned (.tuple #[.slice A zs.length c, .bool b]) ∧ w.grownBy w' none ∧ Ints w' A zs) ∧
    (∀ w, Calls Tryd.prog 24 #[.string s] w fun e w' => ∃ A c, e = .returned (.tuple #[.slice A zs.length c, .bool b]) ∧ w.grownBy w' none ∧
      w'.ownsRow w.heap.size 3 1 (.slice A zs.length c) zs.length (zs.map (Value.int .i64))) :=
  ⟨lvA s, (codeT s).isSome, Nat.le_trans (lvA_len s) (by omega), lvs_spec s, lvs_impl s⟩
end

open Go.ChangeShapes Go.WideShapes Go.ChangeAt Go.RowKit
open Go.ChangeMaps (open_string shut_string)

theorem knob_own : ownKnob Tryd.prog.godebug = none := by kernel_rfl
theorem below_of {w w' : World} (h : w.grownBy w' none) : Below w.heap.size w w' := ⟨h.os, h.tape, h.output, h.size, fun k hk => h.block k hk (by simp)⟩

theorem Ints.under {w w1 w2 : World} {A : Option Addr} {zs : List Int} {row : Option Nat} (h : Ints w A zs) (h1 : w.grownBy w1 none) (h2 : w1.grownBy w2 row) (hr : ∀ k, row = some k → w.heap.size ≤ k) : Ints w2 A zs := fun hl => by
  obtain ⟨b, off, rfl, hb, hc⟩ := h hl
  have hb1 : b < w1.heap.size := Nat.lt_of_lt_of_le hb h1.size
  exact ⟨b, off, rfl, Nat.lt_of_lt_of_le hb1 h2.size, fun j z hj => h2.cell (h1.cell (hc j z hj) (by simp)) (fun e => by have := hr b e.symm; omega)⟩

set_option maxHeartbeats 1000000 in
theorem law_lvs_in (s : ByteArray) (hs : s.size ≤ 1048576) (w : World) :
    Calls Tryd.prog 7 #[.string s] w fun e w' => e = .returned (.bool true) ∧ w.grownBy w' none := by
  obtain ⟨zs, b, hzl, H1, H2⟩ := both_lvs s
  obtain ⟨k, hk⟩ : ∃ k, zs.length = k := ⟨_, rfl⟩
  have HK := Lib.hid hk
  rw [hk] at H1 H2 hzl
  have H1 := Lib.hid H1
  have H2 := Lib.hid H2
  clear hk
  cases b
  all_goals
    go_enter Tryd.func7, Tryd.ntmps7
    go_wp2_with fail
    refine (H1.out _).mono ?_
    rintro e w1 ⟨A1, c1, rfl, hg1, hi1⟩
    have HG1 := Lib.hid hg1
    have HI1 := Lib.hid hi1
    clear hg1 hi1
    go_wp2_with fail
    refine (H2.out _).mono ?_
    rintro e w2 ⟨A2, c2, rfl, hg2, ho2⟩
    have HG2 := Lib.hid hg2
    have HO2 := Lib.hid ho2
    have HE := Lib.hid (eqi_any A2 A1 c2 c1 zs w2 (Ints.of_own (e := 3) (by rw [HK.out]; exact ho2)) (HI1.out.grown hg2 (by simp)) (by have := HK.out; omega))
    rw [HK.out] at HE
    clear hg2 ho2
    go_wp2_with fail
    refine HE.out.mono ?_
    rintro e w3 ⟨rfl, hg3⟩
    have HG3 := Lib.hid hg3
    have HO3 := Lib.hid (own_keep HO2.out (fun g hg => hg3.block g (HO2.out.lt g hg).2 (by simp)))
    clear hg3
    go_wp2_with fail
    refine (mark_any A2 w1.heap.size c2 1 k _ w3 HO3.out (by omega) (by omega)).mono ?_
    rintro e w4 ⟨rfl, hg4, ho4⟩
    have HG4 := Lib.hid hg4
    have HO4 := Lib.hid ho4
    obtain ⟨m, hm⟩ : ∃ m : Nat, 1 + k = m := ⟨_, rfl⟩
    have HM := Lib.hid hm
    have hm2 : m ≤ 1000 := by omega
    rw [hm]
    clear hg4 ho4 hm
    have HU4 := Lib.hid (show Ints w4 A2 (upFrom 1 k) from Ints.of_own (e := 3) (by rw [upFrom_length]; exact HO4.out))
    have HI4 := Lib.hid (HI1.out.under ((HG2.out.trans HG3.out)) HG4.out (fun j hj => (HO3.out.lt j hj).1))
    have HG5 := Lib.hid (gr_ownF (HG1.out.trans (HG2.out.trans HG3.out)) HG4.out (fun j hj => Nat.le_trans HG1.out.size (HO3.out.lt j hj).1))
    have hmneg : ¬ ((m : Int) < 0) := by omega
    have hmm : ((m : Int) != (m : Int)) = false := by simp
    go_wp2_with fail
    refine (held_any A2 c2 1 k w4 HU4.out (by omega) (by omega)).mono ?_
    rintro e w5 ⟨rfl, rfl⟩
    rw [HM.out]
    go_wp2_with fail
    refine (H2.out _).mono ?_
    rintro e w6 ⟨A6, c6, rfl, hg6, ho6⟩
    have HG6 := Lib.hid (HG5.out.trans hg6)
    have HU6 := Lib.hid (HU4.out.grown hg6 (by simp))
    have HE6 := Lib.hid (eqi_any A6 A1 c6 c1 zs w6 (Ints.of_own (e := 3) (by rw [HK.out]; exact ho6)) (HI4.out.grown hg6 (by simp)) (by have := HK.out; omega))
    rw [HK.out] at HE6
    clear hg6 ho6
    go_wp2_with fail
    refine HE6.out.mono ?_
    rintro e w7 ⟨rfl, hg7⟩
    have HG7 := Lib.hid (HG6.out.trans hg7)
    have HU7 := Lib.hid (HU6.out.grown hg7 (by simp))
    clear hg7
    go_wp2_with fail
    refine (held_any A2 c2 1 k w7 HU7.out (by omega) (by omega)).mono ?_
    rintro e w8 ⟨rfl, rfl⟩
    rw [HM.out]
    go_wp2_with fail
    go_ret
    exact ⟨rfl, HG7.out⟩

theorem law_lvs_out (s : ByteArray) (hs : 1048576 < s.size) (w : World) :
    Calls Tryd.prog 7 #[.string s] w fun e w' => e = .returned (.bool true) ∧ w.grownBy w' none := by
  go_enter Tryd.func7, Tryd.ntmps7
  go_wp2_with fail
  go_ret
  exact ⟨rfl, gr_refl _ _⟩

theorem law_lvs (s : ByteArray) (w : World) :
    Calls Tryd.prog 7 #[.string s] w fun e w' => e = .returned (.bool true) ∧ w.grownBy w' none := by
  rcases Nat.lt_or_ge 1048576 s.size with h | h
  · exact law_lvs_out s h w
  · exact law_lvs_in s h w

theorem door_met_lvs (os : Os) (args : Array Value) : laidMetH Tryd.prog Rows.fnExactLevelsAtRow.laid ((World.laidAll Tryd.prog os Rows.fnExactLevelsAtRow.laid).forCall (fun _ _ => 0) ⟨#[], args, []⟩).memory := by
  rw [MakeChecks.laidMetH_plain _ _ _ (by kernel_rfl)]
  exact laidMet_laidAll _ (by kernel_rfl) (by kernel_rfl)

set_option maxRecDepth 100000 in
theorem lvs_lifted (os : Os) (started : os.Started) (H : Type) (enc : TypeId × Value → H) :
    ReturnsInHanded {} Tryd.checked os 7 .any (fun w args => (Rows.fnExactLevelsAtSpec.pre enc Tryd.prog Tryd.f7 [] false w args ∧ laidMetH Tryd.prog Rows.fnExactLevelsAtRow.laid w) ∧ sizedMet enc Tryd.prog Tryd.f7 (OpenSpec.ofChange Rows.fnExactLevelsAtSpec) false w args) (Rows.fnExactLevelsAtSpec.post enc Tryd.prog Tryd.f7 false true false false) := by
  refine returnsInHanded_of_change_and (C := Tryd.checked) (X := fun w _ => laidMetH Tryd.prog Rows.fnExactLevelsAtRow.laid w) (fun _ _ _ hh h => h.of_heap hh) knob_own started (by kernel_rfl) Tryd.func7
    (ChangeSpec.witness_shaped (enc := enc) (C := Tryd.checked) (os := os) (X := fun w _ => laidMetH Tryd.prog Rows.fnExactLevelsAtRow.laid w) false (World.laidAll Tryd.prog os Rows.fnExactLevelsAtRow.laid) #[.string .empty] 8 (World.laidAll_os _ _ _) (World.shaped_of_ZipB (by kernel_rfl) (by kernel_rfl)) (by kernel_rfl) (by kernel_rfl) (by kernel_rfl) (door_met_lvs os _)) ?_
  intro W base args ds gs before hval0 hW _ _ hL _
  have hval : ∀ (j : Nat) t v, Tryd.f7.params[j]? = some t → args[j]? = some v → Value.okWide Tryd.prog W .any base t v := hval0
  have hW' := hW
  obtain ⟨p, q, hA0, hV, rfl, hfz, hnd⟩ := hW
  have hA : DataW.TrodAll enc Tryd.prog W 0 (fun _ => true) true Tryd.f7.params.toList args.toList ds p := hA0
  rw [Tryd.params7] at hA hval
  obtain ⟨v0, d0, rfl, rfl, h0⟩ := trodAll_one hA
  obtain ⟨rfl, rfl⟩ := trodVars_none hV
  obtain ⟨s, rfl, rfl, rfl, hmax⟩ := open_string Tryd.underlying9 (hval 0 9 v0 rfl rfl) h0
  clear hA0 hval0
  simp only [List.append_nil] at hW'
  refine (law_lvs s W).mono fun e W' ⟨he, hg⟩ => ?_
  subst he
  refine ⟨_, rfl, _, _, _, [], [], [], hW', ?_, ?_, rfl, (below_of hg).frame _, fun h => by cases h⟩
  · exact trodAll_mk1 (shut_bool Tryd.underlying4 _)
  · exact trodAll_mk1 (shut_string Tryd.underlying9 hmax)

theorem lvs_row : Rows.FnExactLevelsAtSaid :=
  OpenClaim.holds_of_wide 7 Tryd.f7 rfl rfl rfl rfl rfl rfl rfl ⟨rfl, rfl, rfl, rfl, rfl⟩ rfl rfl rfl rfl rfl (by kernel_rfl) Tryd.func7 (by kernel_rfl)
    (of_decide_eq_true (by kernel_rfl)) (by unfold Func.isWrapper; first | (rw [if_pos (by decide +kernel)]; kernel_rfl) | (rw [if_neg (by decide +kernel)]; exact ⟨rfl, rfl⟩))
    (fun os started H enc _ => lvs_lifted os started H enc)

theorem lvs_holds : Rows.FnExactLevelsAtCardSaid :=
  Claim7.holds_tied_plain_at .later [] [.data, .pinned] true (true, "34bbca0471d9cb63907a04ebed20f4bdbae97c9b2692d9e5e5395e1b526744ed") true
    lvs_row (fun _ h => by cases h) (by kernel_rfl) (fun _ h => by cases h) fnExactLevelsAt_row_tie rfl ⟨rfl, rfl⟩ (by kernel_rfl) rfl
    (fun f fn hf hfn => by
      obtain rfl : f = 7 := Option.some.inj ((show Tryd.prog.funcNamed "loop.example/flatarrays/laws.FnExactLevelsAt" = some 7 by kernel_rfl).symm.trans hf) |>.symm
      obtain rfl : fn = Tryd.f7 := (Option.some.inj (Tryd.func7.symm.trans hfn)).symm
      exact ⟨by kernel_rfl, fun j t ht => by
        rw [Tryd.params7] at ht
        have hm : t ∈ [9] := by simpa using Array.mem_of_getElem? ht
        have hall : ([9].all fun u => !Tryd.prog.wantsStandIn u) = true := by kernel_rfl
        exact (show Tryd.prog.wantsStandIn t = false by simpa using List.all_eq_true.1 hall t hm)⟩)
    (by kernel_rfl)

#print axioms lvs_holds

end Go.Proofs.YtfaeolnmkdjhaaaDoor
