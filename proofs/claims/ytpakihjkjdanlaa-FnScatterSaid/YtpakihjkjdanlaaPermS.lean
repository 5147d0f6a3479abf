/- What the model's IsPermutation does. -/
import Derived.Test.YtpakihjkjdanlaaGathI
namespace Go.Proofs.Ytpakihjkjdanlaa
open Go.RowKit

theorem infoB : (Try.prog.info? 4).map (fun i => (i.zero, i.size, i.bytes)) = some (some (.bool false), 1, 1) := by kernel_rfl
theorem make_runB (n : Nat) (hn : n ≤ 1048576) (u : World) : (Instr.makeSlice 57 (.int .i64 (n : Int)) (.int .i64 (n : Int))).run Try.prog u =
    .ok (.slice (some ⟨u.heap.size, 0, none⟩) n n) (u.alloc (.cells (madeCells #[.bool false] n) 4)) := by
  obtain ⟨i0, hi0, hz0, hz1, hz2⟩ := info_parts infoB
  have h := run_make (P := Try.prog) u 57 4 i0 (.bool false) Try.underlying57 hi0 hz0 .i64 .i64 (n : Int) (n : Int) (by omega) (Int.le_refl _) (by rw [hz2]; omega) (by omega)
  simpa [hz1, Value.cells] using h
theorem made_ownB (w : World) (n : Nat) (hn : n ≤ 1048576) : (w.alloc (.cells (madeCells #[.bool false] n) 4)).ownsRow w.heap.size 4 1 (.slice (some ⟨w.heap.size, 0, none⟩) n n) n (madeCells #[.bool false] n).toList :=
  World.ownsRow_lit (base := w.heap.size) (e := 4) (size := 1) w (madeCells #[.bool false] n) n (Nat.le_refl _) (by simp only [maxLen]; omega) (by simp [madeCells])

/-- Which indices were met. -/
def Seen (ys : List Value) (A : List Int) : Prop := ∀ (i : Nat) (x : Value), ys[i]? = some x → x = .bool (decide ((i : Int) ∈ A))
theorem Seen.start (n : Nat) : Seen (madeCells #[.bool false] n).toList [] := fun i x h => by
  rw [toList_madeCells_one, List.getElem?_replicate] at h
  split at h
  · simp only [Option.some.injEq] at h
    subst h
    simp
  · cases h
theorem Seen.step {ys : List Value} {A : List Int} (h : Seen ys A) (z : Nat) (hz : z < ys.length) : Seen (ys.set z (.bool true)) (A ++ [(z : Int)]) := fun i x hx => by
  rw [List.getElem?_set] at hx
  split at hx
  · rename_i e
    subst e
    simp only [Option.some.injEq] at hx
    subst hx
    simp
  · rename_i e
    rw [h i x hx]
    congr 1
    rw [decide_eq_decide]
    simp only [List.mem_append, List.mem_singleton]
    constructor
    · exact .inl
    · rintro (h1 | h1)
      · exact h1
      · exact absurd (by omega) e

set_option maxRecDepth 100000 in
set_option maxHeartbeats 4000000 in
theorem sisperm_any (A : Option Addr) (c : Nat) (zs : List Int) (w : World) (hA : Ints w A zs) (hn : zs.length ≤ 1048576) :
    Calls Try.prog 22 #[.slice A zs.length c] w fun e w' => e = .returned (.bool (permB zs)) ∧ w.grownBy w' none := by
  have HI := Lib.hid (sidx_any A c zs.length zs w hA hn hn)
  have HA := Lib.hid hA
  obtain ⟨n, hnn⟩ : ∃ n, zs.length = n := ⟨_, rfl⟩
  have HN := Lib.hid hnn
  obtain ⟨r, hr⟩ : ∃ r, permB zs = r := ⟨_, rfl⟩
  have HR := Lib.hid hr
  rw [hr]
  cases hi : idxB zs.length zs with
  | false =>
    rw [hi, hnn] at HI
    have hrf : r = false := by rw [← hr, permB, hi]; rfl
    subst hrf
    rw [hnn]
    clear hA hn hi hnn hr
    go_enter Try.func22, Try.ntmps22
    go_wp2_with fail
    refine HI.out.mono ?_
    rintro e w1 ⟨rfl, rfl⟩
    go_wp2_with fail
    go_ret
    exact ⟨rfl, gr_refl _ _⟩
  | true =>
    have HID := Lib.hid hi
    rw [hi, hnn] at HI
    have HME := Lib.hid (idxB_get hi).2.2
    rw [hnn] at hn
    have hmk := make_runB n hn
    have HO := Lib.hid (made_ownB w n hn)
    rw [hnn]
    clear hA hi hnn hr
    go_enter Try.func22, Try.ntmps22
    go_wp2_with fail
    refine HI.out.mono ?_
    rintro e w1 ⟨rfl, rfl⟩
    go_wp2_with fail
    go_loopw [16] (fun i wr => ∃ (j : Nat) (ys : List Value), j ≤ n ∧ i = .int .i64 j ∧ Hid (wr.ownsRow w.heap.size 4 1 (.slice (some ⟨w.heap.size, 0, none⟩) n n) n ys) ∧ Hid (Seen ys (zs.take j)) ∧ Hid (zs.take j).Nodup ∧ Hid (w.grownBy wr none)) (fun i _ => n - (intOf i).toNat)
    case atStart => exact ⟨0, _, Nat.zero_le _, rfl, HO, Lib.hid (Seen.start n), Lib.hid (by simp), Lib.hid (World.grownBy_alloc _ _ _)⟩
    case round =>
      obtain ⟨j, ys, hj, rfl, hown, hsn, hnd, hgr⟩ := hrel
      by_cases hlt : j < n
      · obtain ⟨z0, hz⟩ : ∃ z, zs[j]? = some z := ⟨_, List.getElem?_eq_getElem (by have := HN.out; omega)⟩
        obtain ⟨b, off, rfl, _, hc⟩ := HA.out.grown hgr.out (by simp) (by have := HN.out; omega)
        have hcell := hc j z0 hz
        obtain ⟨hz0, hz1⟩ := HME.out z0 (List.mem_of_getElem? hz)
        obtain ⟨z, rfl⟩ : ∃ z : Nat, z0 = (z : Int) := ⟨z0.toNat, by omega⟩
        have hzn : z < n := by have := HN.out; omega
        have hyl : ys.length = n := by have := hown.out.1; omega
        obtain ⟨y, hy⟩ : ∃ y, ys[z]? = some y := ⟨_, List.getElem?_eq_getElem (by omega)⟩
        have hcell3 : wr.cell? ⟨w.heap.size, z, none⟩ = some y := by have := (hown.out.cellAt z (by omega)).trans hy; simpa using this
        have hfr : wr.frozen? ⟨w.heap.size, z, none⟩ = false := by have := hown.out.frozenAt z; simpa using this
        have HT := Lib.hid (at_take hz)
        have hyb := hsn.out z y hy
        obtain ⟨q, hq⟩ : ∃ q, decide ((z : Int) ∈ zs.take j) = q := ⟨_, rfl⟩
        rw [hq] at hyb
        subst hyb
        have HQ := Lib.hid hq
        have HST := Lib.hid (hown.out.stored z (.bool true))
        have HSS := Lib.hid (hsn.out.step z (by omega))
        rw [← HT.out] at HSS
        clear hz hc hz0 hz1 hyl hy hq
        cases q
        · have HNN : Hid (zs.take (j + 1)).Nodup := Lib.hid (by
            rw [HT.out, List.nodup_append]
            refine ⟨hnd.out, by simp, ?_⟩
            intro a ha b hb e
            obtain rfl := List.mem_singleton.1 hb
            subst e
            exact (decide_eq_false_iff_not.1 HQ.out) ha)
          go_wp2_with fail
          go_roundw
          case rel => exact ⟨j + 1, _, by omega, by go_num, Lib.hid HST.out.1, HSS, HNN, Lib.hid (gr_own hgr.out HST.out.2 (fun k e => by cases e; exact Nat.le_refl _))⟩
          case measure => simp [intOf]; omega
        · go_wp2_with fail
          go_ret
          refine ⟨?_, hgr.out⟩
          have hno : ¬ zs.Nodup := fun h => by
            have h1 : (zs.take (j + 1)).Nodup := h.sublist (List.take_sublist _ _)
            rw [HT.out, List.nodup_append] at h1
            exact h1.2.2 _ (decide_eq_true_iff.1 HQ.out) _ (List.mem_singleton.2 rfl) rfl
          rw [← HR.out, permB, decide_eq_false hno, Bool.and_false]
          rfl
      · have hjn : j = n := by omega
        have HJ := Lib.hid hjn
        clear hjn
        go_wp2_with fail
        go_ret
        refine ⟨?_, hgr.out⟩
        have e : zs.take j = zs := by rw [HJ.out, ← HN.out, List.take_length]
        have h3 := hnd.out
        rw [e] at h3
        rw [← HR.out, permB, HID.out, decide_eq_true h3]
        rfl

end Go.Proofs.Ytpakihjkjdanlaa
