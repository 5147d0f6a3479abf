/- What l13Cut of the model gives: the pieces of a text between spaces, in a row of the call's own. -/
import Derived.Test.YtohdlnkkchijnaaGreatDoorCode
import Derived.Test.YtohdlnkkchijnaaGreatDoorGr
import Derived.Test.YtohdlnkkchijnaaGreatDoorOwn
import Derived.Test.YtohdlnkkchijnaaGreatDoorTSignF
namespace Go.Proofs.YtohdlnkkchijnaaGreatDoor
open Go.RowKit

theorem infoSt : (Tryz.prog.info? 9).map (fun i => (i.zero, i.size, i.bytes)) = some (some (.string .empty), 1, 16) := by kernel_rfl
theorem gr_ownR {w w1 w2 : World} {row : Option Nat} (h : w.grownBy w1 none) (h2 : w1.grownBy w2 row) (hr : ∀ k, row = some k → w.heap.size ≤ k) : w.grownBy w2 none :=
  ⟨h2.os.trans h.os, h2.tape.trans h.tape, h2.output.trans h.output, Nat.le_trans h.size h2.size, fun k hk hne => (h2.block k (Nat.lt_of_lt_of_le hk h.size) (fun e => by have := hr k e.symm; omega)).trans (h.block k hk hne)⟩
def stV (l : List ByteArray) : List Value := l.map Value.string
theorem stV_snoc (l : List ByteArray) (x : ByteArray) : stV (l ++ [x]) = stV l ++ [.string x] := by simp [stV]

set_option maxRecDepth 100000 in
set_option maxHeartbeats 2000000 in
theorem scut_any (s : ByteArray) (hs : s.size ≤ 1000000) (w : World) :
    Calls Tryz.prog 46 #[.string s, .int .u8 32] w fun e w' => ∃ v, e = .returned v ∧ w.grownBy w' none ∧ w'.ownsRow w.heap.size 9 1 v (cutB s).length (stV (cutB s)) := by
  obtain ⟨i0, hi0, hz0, hz1, hz2⟩ := info_parts infoSt
  obtain ⟨n, hn⟩ : ∃ n, s.size = n := ⟨_, rfl⟩
  have HN := Lib.hid hn
  rw [hn] at hs
  have HO : Hid ((w.alloc (.cells #[] 9)).ownsRow w.heap.size 9 1 (.slice (some ⟨w.heap.size, 0, none⟩) 0 0) 0 []) := Lib.hid (by
    have := World.ownsRow_made (base := w.heap.size) (e := 9) (size := 1) w #[] 0 (Nat.le_refl _) (by simp) (by simp)
    simpa using this)
  go_enter Tryz.func46, Tryz.ntmps46
  go_wp2_with fail
  go_loopw [5, 6, 7] (fun o p i wr => ∃ (q k : Nat) (l : List ByteArray), q ≤ k ∧ k ≤ n + 1 ∧ l.length ≤ k ∧ p = .int .i64 q ∧ i = .int .i64 k ∧ Hid (l ++ cutF s (n + 1 - k) q k = cutB s) ∧ Hid (wr.ownsRow w.heap.size 9 1 o l.length (stV l)) ∧ Hid (w.grownBy wr none)) (fun _ _ i _ => n + 1 - (intOf i).toNat)
  case atStart => exact ⟨0, 0, [], Nat.le_refl _, Nat.zero_le _, Nat.zero_le _, rfl, rfl, Lib.hid (by rw [← HN.out]; rfl), HO, Lib.hid (World.grownBy_alloc _ _ _)⟩
  case round =>
    clear HO
    obtain ⟨q, k, l, hqk, hk, hlk, rfl, rfl, hl, ho, hg⟩ := hrel
    obtain ⟨A, m, c, rfl⟩ := own_form ho.out
    obtain rfl := own_len ho.out
    by_cases hlt : k ≤ n
    · by_cases hy : k = n ∨ ba s k = 32
      · have hst : l ++ [s.extract q k] ++ cutF s (n + 1 - (k + 1)) (k + 1) (k + 1) = cutB s := by
          rw [← hl.out, show n + 1 - k = (n + 1 - (k + 1)) + 1 from by omega, cutF_yes (by rw [HN.out]; exact hy)]; simp
        have HST := Lib.hid hst
        have own1 := ho.out.alloc (.cells #[.string (s.extract q k)] 9)
        have HSZ := Lib.hid (Nat.le_trans hg.out.size (Nat.le_refl _))
        clear hst
        by_cases hkn : k = n
        · subst hkn
          clear hy
          go_wp2_with (at_builtin; refine wpList_append_own_at _ rfl _ _ 27 rfl w.heap.size 9 i0 (.string .empty) 1 16 Tryz.underlying27 hi0 hz0 hz1 hz2 rfl (by decide) _ _ _ rfl own1 ⟨wr.heap.size, 0, none⟩ 1 1 [.string (s.extract q k)] rfl rfl ?a1 ?a2 ?a3 ?a4 ?a5 ?_)
          case a1 => exact cell_one_new _ _ _
          case a2 => simp [Value.oneCell']
          case a3 => simp only [maxLen]; omega
          case a4 => omega
          case a5 => have := HSZ.out; rw [World.size_alloc]; omega
          intro v8 w8 hown8 hg8 _ _
          have HO8 := Lib.hid hown8
          have HG8 := Lib.hid hg8
          obtain ⟨A8, k8, c8, rfl⟩ := own_form hown8
          clear hown8 hg8
          go_wp2_with fail
          go_roundw
          case rel => exact ⟨k + 1, k + 1, l ++ [s.extract q k], Nat.le_refl _, Nat.le_refl _, by simpa using hlk, by go_num, by go_num, HST, Lib.hid (by rw [stV_snoc, List.length_append]; exact HO8.out), Lib.hid (gr_ownR (hg.out.trans (World.grownBy_alloc wr _ none)) HG8.out (fun j hj => (own1.lt j hj).1))⟩
          case measure => simp [intOf]
        · have h32 : ba s k = 32 := hy.resolve_left hkn
          have hks : k < s.size := by have := HN.out; omega
          have hb := ba_in hks
          rw [h32] at hb
          replace hb := hb.symm
          have hkn2 : (((k : Nat) : Int) == ((n : Nat) : Int)) = false := by simp; omega
          clear hy h32
          go_wp2_with (at_builtin; refine wpList_append_own_at _ rfl _ _ 27 rfl w.heap.size 9 i0 (.string .empty) 1 16 Tryz.underlying27 hi0 hz0 hz1 hz2 rfl (by decide) _ _ _ rfl own1 ⟨wr.heap.size, 0, none⟩ 1 1 [.string (s.extract q k)] rfl rfl ?a1 ?a2 ?a3 ?a4 ?a5 ?_)
          case a1 => exact cell_one_new _ _ _
          case a2 => simp [Value.oneCell']
          case a3 => simp only [maxLen]; omega
          case a4 => omega
          case a5 => have := HSZ.out; rw [World.size_alloc]; omega
          intro v8 w8 hown8 hg8 _ _
          have HO8 := Lib.hid hown8
          have HG8 := Lib.hid hg8
          obtain ⟨A8, k8, c8, rfl⟩ := own_form hown8
          clear hown8 hg8
          go_wp2_with fail
          go_roundw
          case rel => exact ⟨k + 1, k + 1, l ++ [s.extract q k], Nat.le_refl _, by omega, by simp; omega, by go_num, by go_num, HST, Lib.hid (by rw [stV_snoc, List.length_append]; exact HO8.out), Lib.hid (gr_ownR (hg.out.trans (World.grownBy_alloc wr _ none)) HG8.out (fun j hj => (own1.lt j hj).1))⟩
          case measure => simp [intOf]; omega
      · have hst : l ++ cutF s (n + 1 - (k + 1)) q (k + 1) = cutB s := by
          rw [← hl.out, show n + 1 - k = (n + 1 - (k + 1)) + 1 from by omega, cutF_no (by rw [HN.out]; exact fun e => hy (.inl e)) (fun e => hy (.inr e))]
        have HST := Lib.hid hst
        have hkn : k ≠ n := fun e => hy (.inl e)
        have hks : k < s.size := by have := HN.out; omega
        have hb := ba_in hks
        have hne : (((s[k].toNat : Nat) : Int) == 32) = false := by rw [← hb]; simpa using fun e => hy (.inr e)
        have hkn2 : (((k : Nat) : Int) == ((n : Nat) : Int)) = false := by simp; omega
        clear hst hy hb
        go_wp2_with fail
        go_roundw
        case rel => exact ⟨q, k + 1, l, by omega, by omega, by omega, rfl, by go_num, HST, ho, hg⟩
        case measure => simp [intOf]; omega
    · have hk1 : k = n + 1 := by omega
      have hfin : l = cutB s := by rw [← hl.out, hk1, show n + 1 - (n + 1) = 0 from by omega]; simp [cutF]
      have HF := Lib.hid hfin
      clear hk1 hfin
      go_wp2_with fail
      go_ret
      exact ⟨_, rfl, hg.out, by rw [← HF.out]; exact ho.out⟩

end Go.Proofs.YtohdlnkkchijnaaGreatDoor
