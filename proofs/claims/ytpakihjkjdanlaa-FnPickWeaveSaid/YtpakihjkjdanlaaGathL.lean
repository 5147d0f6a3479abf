/- What gather of the program does with lists of ints. -/
import Derived.Test.YtpakihjkjdanlaaSegCut
import Derived.Test.YtpakihjkjdanlaaGathS
namespace Go.Proofs.Ytpakihjkjdanlaa
open Go.RowKit

/-- The lists at indices. -/
def pickL (LL : List (List Int)) (At : List Int) : List (List Int) := At.map fun i => LL.getD i.toNat []
theorem pickL_len (LL : List (List Int)) (At : List Int) : (pickL LL At).length = At.length := by simp [pickL]
theorem Sls.set {w : World} {j : Nat} {vs : List Value} {LL : List (List Int)} {v : Value} {M : List Int} {A : Option Addr} {c : Nat} (h : Sls w j vs LL) (hl : j < vs.length) (hM : LL[j]? = some M) (hv : v = .slice A M.length c) (hc : M.length ≤ c) (hI : Ints w A M) : Sls w (j + 1) (vs.set j v) LL := fun i N hi hN => by
  by_cases e : i = j
  · subst e
    rw [hM] at hN
    cases hN
    exact ⟨A, c, by rw [List.getElem?_set_self hl, hv], hc, hI⟩
  · obtain ⟨A', c', h1, h2, h3⟩ := h i N (by omega) hN
    exact ⟨A', c', by rw [List.getElem?_set_ne (by omega)]; exact h1, h2, h3⟩

theorem makeL_run (n : Nat) (hn : n ≤ 1048576) (u : World) : (Instr.makeSlice 41 (.int .i64 (n : Int)) (.int .i64 (n : Int))).run Try.prog u =
    .ok (.slice (some ⟨u.heap.size, 0, none⟩) n n) (u.alloc (.cells (madeCells #[.slice none 0 0] n) 22)) := by
  obtain ⟨i0, hi0, hz0, hz1, hz2⟩ := info_parts infoL
  have h := run_make (P := Try.prog) u 41 22 i0 (.slice none 0 0) Try.underlying41 hi0 hz0 .i64 .i64 (n : Int) (n : Int) (by omega) (Int.le_refl _) (by rw [hz2]; omega) (by omega)
  simpa [hz1, Value.cells] using h
theorem madeL_own (w : World) (n : Nat) (hn : n ≤ 1048576) : (w.alloc (.cells (madeCells #[.slice none 0 0] n) 22)).ownsRow w.heap.size 22 1 (.slice (some ⟨w.heap.size, 0, none⟩) n n) n (madeCells #[.slice none 0 0] n).toList :=
  World.ownsRow_lit (base := w.heap.size) (e := 22) (size := 1) w (madeCells #[.slice none 0 0] n) n (Nat.le_refl _) (by simp only [maxLen]; omega) (by simp [madeCells])

set_option maxRecDepth 100000 in
set_option maxHeartbeats 4000000 in
theorem gatherl_any (A B : Option Addr) (c d : Nat) (LL : List (List Int)) (At : List Int) (w : World) (hA : Rws w A LL) (hB : Ints w B At) (hm : At.length ≤ 1048576) (hmem : ∀ x ∈ At, 0 ≤ x ∧ x < (LL.length : Int)) :
    Calls Try.prog 75 #[.slice A LL.length c, .slice B At.length d] w fun e w' => ∃ A' c', e = .returned (.slice A' (pickL LL At).length c') ∧ w.grownBy w' none ∧ Rws w' A' (pickL LL At) := by
  have HA := Lib.hid hA
  have HB := Lib.hid hB
  have HME := Lib.hid hmem
  obtain ⟨n, hnn⟩ : ∃ n, LL.length = n := ⟨_, rfl⟩
  have HN := Lib.hid hnn
  obtain ⟨m, hmm⟩ : ∃ m, At.length = m := ⟨_, rfl⟩
  have HM := Lib.hid hmm
  have HPL : Hid ((pickL LL At).length = m) := Lib.hid (by rw [pickL_len, hmm])
  have HPA : Hid (∀ (j : Nat) (z : Int), At[j]? = some z → (pickL LL At)[j]? = some (LL.getD z.toNat [])) := Lib.hid (fun j z h => by simp [pickL, h])
  obtain ⟨PL, hPL⟩ : ∃ PL, pickL LL At = PL := ⟨_, rfl⟩
  rw [hnn]
  rw [hmm] at hm ⊢
  rw [hPL] at HPL HPA ⊢
  have hmk := makeL_run m hm
  have HO := Lib.hid (madeL_own w m hm)
  clear hA hB hmem hnn hmm hPL
  go_enter Try.func75, Try.ntmps75
  go_wp2_with fail
  go_loopw [13] (fun i wr => ∃ (j : Nat) (ys : List Value), j ≤ m ∧ i = .int .i64 j ∧ Hid (wr.ownsRow w.heap.size 22 1 (.slice (some ⟨w.heap.size, 0, none⟩) m m) m ys) ∧ Hid (Sls w j ys PL) ∧ Hid (w.grownBy wr none)) (fun i _ => m - (intOf i).toNat)
  case atStart => exact ⟨0, _, Nat.zero_le _, rfl, HO, Lib.hid (fun i M hi => by omega), Lib.hid (World.grownBy_alloc _ _ _)⟩
  case round =>
    obtain ⟨j, ys, hj, rfl, hown, hsl, hgr⟩ := hrel
    by_cases hlt : j < m
    · obtain ⟨z0, hz⟩ : ∃ z, At[j]? = some z := ⟨_, List.getElem?_eq_getElem (by have := HM.out; omega)⟩
      obtain ⟨b, off, rfl, _, hc⟩ := HB.out.grown hgr.out (by simp) (by have := HM.out; omega)
      have hcell := hc j z0 hz
      obtain ⟨hz0, hz1⟩ := HME.out z0 (List.mem_of_getElem? hz)
      have hpa := HPA.out j z0 hz
      obtain ⟨z, rfl⟩ : ∃ z : Nat, z0 = (z : Int) := ⟨z0.toNat, by omega⟩
      have hzn : z < n := by have := HN.out; omega
      obtain ⟨M, hM⟩ : ∃ M, LL[z]? = some M := ⟨_, List.getElem?_eq_getElem (by have := HN.out; omega)⟩
      rw [Int.toNat_natCast, List.getD_eq_getElem?_getD, hM] at hpa
      simp only [Option.getD_some] at hpa
      obtain ⟨b2, off2, B2, d2, rfl, hcell2', hcap, hi⟩ := HA.out.at_ hM
      have hcell2 := hgr.out.cell hcell2' (by simp)
      have hyl : ys.length = m := by have := hown.out.1; omega
      have hcell3 : wr.cell? ⟨w.heap.size, j, none⟩ = some ys[j] := by have := (hown.out.cellAt j (by omega)).trans (List.getElem?_eq_getElem (by omega)); simpa using this
      have hfr : wr.frozen? ⟨w.heap.size, j, none⟩ = false := by have := hown.out.frozenAt j; simpa using this
      have HS2 : Hid (Sls w (j + 1) (ys.set j (.slice B2 M.length d2)) PL) := Lib.hid (Sls.set hsl.out (by omega) hpa rfl hcap hi)
      have HST := Lib.hid (hown.out.stored j (.slice B2 M.length d2))
      obtain ⟨q, hq⟩ : ∃ q, M.length = q := ⟨_, rfl⟩
      rw [hq] at HS2 HST hcell2
      generalize ys[j] = y0 at hcell3
      clear hyl hc hcap hi hz hM hz0 hz1 hpa hq hcell2'
      go_wp2_with fail
      go_roundw
      case rel => exact ⟨j + 1, _, by omega, by go_num, Lib.hid HST.out.1, HS2, Lib.hid (gr_own hgr.out HST.out.2 (fun k e => by cases e; exact Nat.le_refl _))⟩
      case measure => simp [intOf]; omega
    · have hjn : j = m := by omega
      have HJ := Lib.hid hjn
      clear hjn
      go_wp2_with fail
      go_ret
      have h3 := hsl.out.grown hgr.out
      have h4 := hown.out
      have e := HPL.out
      rw [HJ.out, ← e] at h3
      rw [← e] at h4
      exact ⟨_, m, by rw [e]; rfl, hgr.out, h3.rws h4⟩

end Go.Proofs.Ytpakihjkjdanlaa
