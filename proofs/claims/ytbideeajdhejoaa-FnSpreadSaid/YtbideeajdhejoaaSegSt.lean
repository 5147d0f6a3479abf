/- What the model's l3Starts and StartsOf do. -/
import Derived.Test.YtbideeajdhejoaaSegS2
namespace Go.Proofs.Ytbideeajdhejoaa
open Go.RowKit

set_option maxHeartbeats 1000000 in
theorem sstarts_any (A : Option Addr) (c : Nat) (zs : List Int) (w : World) (h : Ints w A zs) (hok : okN 400 zs = true) (hn : zs.length ≤ 1048576) :
    Calls Try.prog 100 #[.slice A zs.length c] w (ListPost (startsI 0 zs) w) := by
  obtain ⟨i0, hi0, hz0', hz1', hz2'⟩ := info_parts infoJ
  have HS := Lib.hid h
  have HOK := Lib.hid hok
  obtain ⟨n, hnn⟩ : ∃ n, zs.length = n := ⟨_, rfl⟩
  have HN := Lib.hid hnn
  have HSL := Lib.hid (startsI_len zs 0)
  rw [hnn] at hn ⊢
  clear h hnn hok
  go_enter Try.func100, Try.ntmps100
  go_wp2_with fail
  go_loopw [3, 4, 10] (fun u a i wr => ∃ (j : Nat) (x : Int) (A1 : Option Addr) (c1 : Nat), j ≤ n ∧ i = .int .i64 j ∧ a = .int .i64 x ∧ 0 ≤ x ∧ x ≤ 419430400 ∧ Hid (x = sumI (zs.take j)) ∧ u = .slice A1 j c1 ∧ Hid (∃ g, A1 = some ⟨g, 0, none⟩) ∧ Hid (wr.ownsRow w.heap.size 3 1 (.slice A1 j c1) j (((startsI 0 zs).take j).map (Value.int .i64))) ∧ Hid (w.grownBy wr none)) (fun _ _ i _ => n - (intOf i).toNat)
  case atStart => exact ⟨0, 0, some ⟨w.heap.size, 0, none⟩, 0, Nat.zero_le _, rfl, rfl, by omega, by omega, Lib.hid rfl, rfl, Lib.hid ⟨_, rfl⟩, Lib.hid (made_row w w.heap.size (Nat.le_refl _)), Lib.hid (World.grownBy_alloc _ _ _)⟩
  case round =>
    obtain ⟨j, x, A1, c1, hj, rfl, rfl, hx0, hx1, hx, rfl, hA1, hown, hgr⟩ := hrel
    by_cases hlt : j < n
    · obtain ⟨z, hz⟩ : ∃ z, zs[j]? = some z := ⟨_, List.getElem?_eq_getElem (by have := HN.out; omega)⟩
      obtain ⟨b, off, rfl, _, hc⟩ := HS.out.grown hgr.out (by simp) (by have := HN.out; omega)
      have hcell := hc j z hz
      have HST := Lib.hid (sumI_step hz)
      have HSS := Lib.hid (startsI_step hz)
      have hb := sumI_take_bound HOK.out (j + 1)
      rw [HST.out, ← hx.out] at hb
      obtain ⟨hb0, hb1⟩ := hb
      have hbz := okN_at hz HOK.out
      obtain ⟨hz0, hz1⟩ := hbz
      clear hc hz
      have hj4 : j < 1048576 := by omega
      have hB := hgr.out.size
      have hnl : ∀ (i : Nat) (u : Value), ([.int .i64 x] : List Value)[i]? = some u → (wr.alloc (.cells #[.int .i64 x] 3)).cell? ((⟨wr.heap.size, 0, none⟩ : Addr).add i) = some u := cell_one_new _ _ _
      have HNL := Lib.hid hnl
      have hown2 := hown.out.alloc (.cells #[.int .i64 x] 3)
      clear hnl
      go_wp2_with (at_builtin; refine wpList_append_own_at _ rfl _ _ 23 rfl w.heap.size 3 i0 (.int .i64 0) 1 8 Try.underlying23 hi0 hz0' hz1' hz2' rfl (by decide) _ _ _ rfl hown2 ⟨wr.heap.size, 0, none⟩ 1 1 [.int .i64 x] rfl rfl HNL.out ?c2 ?c3 ?c4 ?c5 ?_)
      case c2 => simp [Value.oneCell']
      case c3 => simp only [maxLen]; omega
      case c4 => omega
      case c5 => simp; omega
      intro v8 w8 hown8 hg8 _ _
      rw [← List.map_take] at hown8
      obtain ⟨g8, o8, g8', c8, rfl⟩ := row_one hgr.out (Nat.le_refl _) hown.out hown8 hg8
      have HG8 := Lib.hid g8
      have HO8 := Lib.hid o8
      clear hown8 hg8 g8 o8 hown2
      go_wp2_with fail
      go_roundw
      case rel => exact ⟨j + 1, x + z, some ⟨g8', 0, none⟩, c8, by omega, by go_num, by go_num, by omega, by omega, Lib.hid (by rw [HST.out, hx.out]), rfl, Lib.hid ⟨_, rfl⟩, Lib.hid (by rw [HSS.out, ← hx.out]; exact HO8.out), HG8⟩
      case measure => simp [intOf]; omega
    · have hjn : j = n := by omega
      have HJ := Lib.hid hjn
      clear hjn
      go_wp2_with fail
      go_ret
      have e : (startsI 0 zs).take j = startsI 0 zs := List.take_of_length_le (by have := HSL.out; have := HN.out; have := HJ.out; omega)
      have e2 : (startsI 0 zs).length = j := by have := HSL.out; have := HN.out; have := HJ.out; omega
      have h3 := hown.out
      rw [e] at h3
      refine ⟨A1, c1, by rw [e2]; rfl, hgr.out, by rw [e2]; exact h3⟩

end Go.Proofs.Ytbideeajdhejoaa
