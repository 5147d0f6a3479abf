/- The laws' helpers on lists of ints: eqIntS, markIntS, heldIntS. -/
import Derived.Test.YtmofoeljajdhmaaGr
import Derived.IntWalk
namespace Go.Proofs.Ytmofoeljajdhmaa
open Go.RowKit

/-- The slice's cells are these ints. -/
def Ints (w : World) (A : Option Addr) (zs : List Int) : Prop :=
  0 < zs.length → ∃ b off, A = some ⟨b, off, none⟩ ∧ b < w.heap.size ∧ ∀ (j : Nat) (z : Int), zs[j]? = some z → w.cell? ⟨b, off + j, none⟩ = some (.int .i64 z)
theorem Ints.grown {w w' : World} {A : Option Addr} {zs : List Int} {row : Option Nat} (h : Ints w A zs) (hg : w.grownBy w' row) (hne : ∀ b off, A = some ⟨b, off, none⟩ → some b ≠ row) : Ints w' A zs := fun hl => by
  obtain ⟨b, off, rfl, hb, hc⟩ := h hl
  exact ⟨b, off, rfl, Nat.lt_of_lt_of_le hb hg.size, fun j z hj => hg.cell (hc j z hj) (hne b off rfl)⟩
theorem Ints.at_ {w : World} {A : Option Addr} {zs : List Int} {j : Nat} (h : Ints w A zs) (hj : j < zs.length) : ∃ b off, A = some ⟨b, off, none⟩ ∧ w.cell? ⟨b, off + j, none⟩ = some (.int .i64 zs[j]) := by
  obtain ⟨b, off, hA, _, hc⟩ := h (by omega)
  exact ⟨b, off, hA, hc j _ (List.getElem?_eq_getElem hj)⟩
theorem Ints.of_own {w : World} {base e : Nat} {A : Option Addr} {k c : Nat} {zs : List Int} (h : w.ownsRow base e 1 (.slice A k c) zs.length (zs.map (Value.int .i64))) : Ints w A zs := fun hl => by
  rcases h.2 with ⟨hv, hn⟩ | ⟨g, cap, cur, hv, _, hg, hnc, _, hcs, htake⟩
  · omega
  · cases hv
    refine ⟨g, 0, rfl, (Array.getElem?_eq_some_iff.1 hg).1, fun j z hj => ?_⟩
    have hjl : j < zs.length := by
      rcases Nat.lt_or_ge j zs.length with h | h
      · exact h
      · rw [List.getElem?_eq_none h] at hj; cases hj
    rw [Nat.zero_add, cell_of_row w g j _ _ (0, 0) hg]
    have : (cur.toList.take (zs.length * 1))[j]? = some (.int .i64 z) := by rw [htake, List.getElem?_map, hj]; rfl
    rw [List.getElem?_take, if_pos (by omega)] at this
    simpa using this

set_option maxHeartbeats 400000 in
theorem eqi_any (A B : Option Addr) (c d : Nat) (zs : List Int) (w : World) (h : Ints w A zs) (h2 : Ints w B zs) (hn : zs.length ≤ 1048576) :
    Calls Try.prog 43 #[.slice A zs.length c, .slice B zs.length d] w fun e w' => e = .returned (.bool true) ∧ w.grownBy w' none := by
  have HS := Lib.hid h
  have HS2 := Lib.hid h2
  obtain ⟨n, hnn⟩ : ∃ n, zs.length = n := ⟨_, rfl⟩
  have HN := Lib.hid hnn
  rw [hnn] at hn ⊢
  clear h h2 hnn
  have hnn : ((n : Int) != (n : Int)) = false := by simp
  go_enter Try.func43, Try.ntmps43
  go_wp2_with fail
  clear hnn
  go_loopw [5] (fun i wr => ∃ j : Nat, j ≤ n ∧ i = .int .i64 j ∧ Hid (w.grownBy wr none)) (fun i _ => n - (intOf i).toNat)
  case atStart => exact ⟨0, Nat.zero_le _, rfl, Lib.hid (gr_refl _ _)⟩
  case round =>
    obtain ⟨j, hj, rfl, hgr⟩ := hrel
    by_cases hlt : j < n
    · have hjz : j < zs.length := by have := HN.out; omega
      obtain ⟨b, off, rfl, hcell⟩ := (HS.out.grown hgr.out (by simp)).at_ hjz
      obtain ⟨b2, off2, rfl, hcell2⟩ := (HS2.out.grown hgr.out (by simp)).at_ hjz
      generalize zs[j] = z at hcell hcell2
      have hj0 : (0 : Int) ≤ (j : Int) := by omega
      have hj1 : (j : Int) < (n : Int) := by omega
      have hzz : (z != z) = false := by simp
      go_wp2_with fail
      go_quiet (fail)
      go_wp2_with fail
      go_roundw
      case rel => exact ⟨j + 1, by omega, by go_num, Lib.hid (hgr.out.trans (gr_drewN _ _ _))⟩
      case measure => simp [intOf]; omega
    · go_wp2_with fail
      go_ret
      exact ⟨rfl, hgr.out⟩

/-- The numbers from k on. -/
def upFrom (k n : Nat) : List Int := (List.range n).map fun i => ((k + i : Nat) : Int)
theorem upFrom_length (k n : Nat) : (upFrom k n).length = n := by simp [upFrom]
theorem upFrom_at {k n j : Nat} (h : j < n) : (upFrom k n)[j]? = some ((k + j : Nat) : Int) := by simp [upFrom, h]

set_option maxHeartbeats 400000 in
theorem held_any (A : Option Addr) (c k n : Nat) (w : World) (h : Ints w A (upFrom k n)) (hn : n ≤ 1048576) (hk : k ≤ 1000000000) :
    Calls Try.prog 45 #[.slice A n c, .int .i64 (k : Int)] w fun e w' => e = .returned (.int .i64 ((k + n : Nat) : Int)) ∧ w = w' := by
  have HS := Lib.hid h
  clear h
  go_enter Try.func45, Try.ntmps45
  go_wp2_with fail
  go_loop [1, 5] (fun u i => ∃ j : Nat, j ≤ n ∧ i = .int .i64 j ∧ u = .int .i64 ((k + j : Nat) : Int)) (fun _ i => n - (intOf i).toNat)
  case atStart => exact ⟨0, Nat.zero_le _, rfl, rfl⟩
  case round =>
    obtain ⟨j, hj, rfl, rfl⟩ := hrel
    by_cases hlt : j < n
    · obtain ⟨b, off, rfl, _, hc⟩ := HS.out (by rw [upFrom_length]; omega)
      have hcell := hc j _ (upFrom_at hlt)
      clear hc
      obtain ⟨z, hz⟩ : ∃ z : Nat, z = k + j := ⟨_, rfl⟩
      rw [← hz] at hcell
      have HZ := Lib.hid hz
      rw [← hz]
      have hz2 : z ≤ 1001048576 := by omega
      clear hz
      go_wp2_with fail
      go_round
      case rel => exact ⟨j + 1, by omega, by go_num, by rw [HZ.out]; go_num⟩
      case measure => simp [intOf]; omega
    · have hjn : j = n := by omega
      have HJ := Lib.hid hjn
      clear hjn
      go_wp2_with fail
      go_ret
      exact ⟨by rw [HJ.out]; rfl, rfl⟩

/-- How markIntS ends: the row holds the numbers from k on. -/
def MarkPost (base k n : Nat) (A : Option Addr) (c : Nat) (w : World) (e : Ending) (w' : World) : Prop :=
  e = .returned (.int .i64 ((k + n : Nat) : Int)) ∧ w.grownBy w' (Value.slice A n c).ownBlock ∧ w'.ownsRow base 3 1 (.slice A n c) n ((upFrom k n).map (Value.int .i64))

set_option maxHeartbeats 400000 in
theorem mark_any (A : Option Addr) (base c k n : Nat) (xs : List Value) (w : World) (h : w.ownsRow base 3 1 (.slice A n c) n xs) (hn : n ≤ 1048576) (hk : k ≤ 1000000000) :
    Calls Try.prog 44 #[.slice A n c, .int .i64 (k : Int)] w (MarkPost base k n A c w) := by
  have HO := Lib.hid h
  clear h
  go_enter Try.func44, Try.ntmps44
  go_wp2_with fail
  go_loopw [1, 5] (fun u i wr => ∃ (j : Nat) (ys : List Value), j ≤ n ∧ i = .int .i64 j ∧ u = .int .i64 ((k + j : Nat) : Int) ∧ Hid (wr.ownsRow base 3 1 (.slice A n c) n ys) ∧ Hid (∀ i, i < j → ys[i]? = some (.int .i64 ((k + i : Nat) : Int))) ∧ Hid (w.grownBy wr (Value.slice A n c).ownBlock)) (fun _ i _ => n - (intOf i).toNat)
  case atStart => exact ⟨0, xs, Nat.zero_le _, rfl, rfl, HO, Lib.hid (fun i hi => by omega), Lib.hid (gr_refl _ _)⟩
  case round =>
    obtain ⟨j, ys, hj, rfl, rfl, ho, hys, hgr⟩ := hrel
    by_cases hlt : j < n
    · obtain ⟨g, rfl⟩ : ∃ g, A = some ⟨g, 0, none⟩ := by
        rcases ho.out.2 with ⟨hv, hn0⟩ | ⟨g, cap, cur, hv, _⟩
        · omega
        · cases hv; exact ⟨g, rfl⟩
      have hyl : ys.length = n := by have := ho.out.1; omega
      have hcell : wr.cell? ⟨g, j, none⟩ = some ys[j] := (ho.out.cellAt j (by omega)).trans (List.getElem?_eq_getElem (by omega))
      have hfr := ho.out.frozenAt j
      generalize ys[j] = y0 at hcell
      obtain ⟨z, hz⟩ : ∃ z : Nat, z = k + j := ⟨_, rfl⟩
      have HZ := Lib.hid hz
      rw [← hz]
      have hz2 : z ≤ 1001048576 := by omega
      have HYL := Lib.hid hyl
      have hst := ho.out.stored j (.int .i64 (z : Int))
      have HST := Lib.hid hst
      clear hz hyl hst
      go_wp2_with fail
      go_roundw
      case rel =>
        refine ⟨j + 1, ys.set j (.int .i64 (z : Int)), by omega, by go_num, by rw [HZ.out]; go_num, Lib.hid HST.out.1, Lib.hid (fun i hi => ?_), Lib.hid (hgr.out.trans HST.out.2)⟩
        rw [List.getElem?_set]
        by_cases e : j = i
        · subst e
          rw [if_pos rfl, if_pos (by have := HYL.out; omega), HZ.out]
        · rw [if_neg e]
          exact hys.out i (by omega)
      case measure => simp [intOf]; omega
    · have hjn : j = n := by omega
      have HJ := Lib.hid hjn
      clear hjn
      go_wp2_with fail
      go_ret
      refine ⟨by rw [HJ.out]; rfl, hgr.out, ?_⟩
      have e : ys = (upFrom k n).map (Value.int .i64) := by
        refine List.ext_getElem? fun i => ?_
        have hyl : ys.length = n := by have := ho.out.1; omega
        rcases Nat.lt_or_ge i n with h | h
        · rw [hys.out i (by rw [HJ.out]; exact h), List.getElem?_map, upFrom_at h]; rfl
        · rw [List.getElem?_eq_none (by omega), List.getElem?_eq_none (by rw [List.length_map, upFrom_length]; omega)]
      rw [← e]
      exact ho.out

end Go.Proofs.Ytmofoeljajdhmaa
