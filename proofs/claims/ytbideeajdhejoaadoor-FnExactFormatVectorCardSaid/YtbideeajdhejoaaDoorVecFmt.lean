/- What FormatVector of the program and of the model do. -/
import Derived.Test.YtbideeajdhejoaaDoorVec
import Derived.Test.YtbideeajdhejoaaDoorFmtI
import Derived.Test.YtbideeajdhejoaaDoorShelfB
import Derived.Test.YtbideeajdhejoaaDoorLytArg
import Derived.Laws.Concat
import Derived.Deep.RegionLaw
namespace Go.Proofs.YtbideeajdhejoaaDoor
open Go.RowKit

theorem str_addv (y x z : ByteArray) (h : x ++ y = z) (hs : x.size + y.size ≤ 9223372036854775807) (u : World) : (Op.stringOp .add x y).run Tryd.prog u = .ok (.string z) u := by
  rw [← h]; exact run_string_add_sum u x y hs
/-- The text of a vector. -/
def fmtV (k : Int) (LL : List (List Int)) (D : List Int) : List UInt8 := Lib.itoa k ++ (42 :: fmtText LL D)
theorem fmtText_len {LL : List (List Int)} {D : List Int} (h : ∀ L ∈ LL, Wf L) (hd : Wf D) (hn : LL.length + totL LL + D.length ≤ 1048576) : (fmtText LL D).length ≤ 60000000 := by
  have h1 := levT_len h
  have h2 := numText_len hd
  have e : fmtText LL D = levT LL ++ numText D := rfl
  rw [e, List.length_append]
  omega
theorem fmtV_of {s1 s2 z1 z2 : ByteArray} {k : Int} {LL : List (List Int)} {D : List Int} (h1 : s1.data.toList = Lib.itoa k) (h2 : s2.data.toList = fmtText LL D) (hz1 : s1 ++ ⟨#[42]⟩ = z1) (hz2 : z1 ++ s2 = z2) : z2.data.toList = fmtV k LL D := by
  rw [← hz2, ← hz1, ByteArray.data_append, ByteArray.data_append, Array.toList_append, Array.toList_append, h1, h2]
  simp [fmtV]
theorem tab_at8 {w u : World} (h : Lib.TabIs Tryd.prog w "internal/strconv.uint64pow10" .u64 Lib.pow10Tab) (hg : w.grownBy u none) : Lib.TabIs Tryd.prog u "internal/strconv.uint64pow10" .u64 Lib.pow10Tab := (Lib.tabBelow_of_tabIs h) u (below_of hg)

set_option maxRecDepth 100000 in
set_option maxHeartbeats 1000000 in
theorem vecfmt_any (v : Value) (k : Int) (LL : List (List Int)) (D : List Int) (w : World) (h : Vct w v k LL D) (hn : LL.length + totL LL + D.length ≤ 1048576) (hk : -9223372036854775808 ≤ k ∧ k ≤ 9223372036854775807) (hw : ∀ L ∈ LL, Wf L) (hwd : Wf D) (htab : Lib.TabIs Tryd.prog w "internal/strconv.uint64pow10" .u64 Lib.pow10Tab) :
    Calls Tryd.prog 7 #[v] w (TxtPost (fmtV k LL D) w) := by
  obtain ⟨x, y, rfl, hl⟩ := h.lyt
  have hg0 := World.grownBy_alloc w (.cells #[.int .i64 k, x, y] 32) none
  have HF := Lib.hid (fun w1 (hg : w.grownBy w1 none) => fmtl_any (.agg #[x, y]) LL D w1 (hl.grown hg) hn hw hwd (tab_at8 htab hg))
  have HI := Lib.hid (fun w1 (hg : w.grownBy w1 none) => Tryd.strconv_Itoa k hk.1 hk.2 w1 (tab_at8 htab hg))
  have HP := Lib.hid (Tri.new w 32 (.int .i64 k) x y)
  have HG := Lib.hid hg0
  have HLT := Lib.hid (fmtText_len hw hwd hn)
  have HLI := Lib.hid (Lib.itoa_length_le k hk.1 hk.2)
  obtain ⟨A, c, B, d, he, _⟩ := hl
  cases he
  obtain ⟨n, hnn⟩ : ∃ n, LL.length = n := ⟨_, rfl⟩
  obtain ⟨m, hm⟩ : ∃ m, D.length = m := ⟨_, rfl⟩
  rw [hnn, hm] at HF HP HG ⊢
  clear h hn hnn hm hg0 hw hwd htab hk
  go_enter Tryd.func7, Tryd.ntmps7
  have c0 := HP.out.c0
  have c1 := HP.out.c1
  have c2 := HP.out.c2
  go_wp2_with fail
  generalize w.alloc (.cells #[.int .i64 k, .slice A n c, .slice B m d] 32) = w0 at HG HP c0 c1 c2 ⊢
  go_region_law (first
      | (go_simp
         go_at_call 13
         refine (HI.out _ (HG.out.trans (gr_drewN w0 _ none))).mono ?_
         rintro e w1 ⟨rfl, k1, os1, hw1⟩
         have hg1 : w0.grownBy w1 none := by
           rw [hw1]
           exact (gr_drewN w0 _ none).trans (gr_below (Lib.below_grow _ _ (Nat.le_refl _) k1 os1) (Nat.le_refl _))
         obtain ⟨s1, hs1⟩ : ∃ s : ByteArray, s = ⟨(Lib.itoa k).toArray⟩ := ⟨_, rfl⟩
         rw [← hs1]
         have HS1 := Lib.hid (show s1.data.toList = Lib.itoa k by rw [hs1])
         have hsz : s1.size ≤ 30 := by have := HLI.out; have := txt_size HS1.out; omega
         obtain ⟨z1, hz1⟩ : ∃ z, s1 ++ (⟨#[42]⟩ : ByteArray) = z := ⟨_, rfl⟩
         have hd1 := fun u => str_addv ⟨#[42]⟩ s1 z1 hz1 (by have : (⟨#[42]⟩ : ByteArray).size = 1 := rfl; omega) u
         have hzz : z1.size ≤ 31 := by rw [← hz1, ByteArray.size_append]; have : (⟨#[42]⟩ : ByteArray).size = 1 := rfl; omega
         have d0 := (HP.out.grown hg1 (by simp)).c0
         have d1 := (HP.out.grown hg1 (by simp)).c1
         have d2 := (HP.out.grown hg1 (by simp)).c2
         have HZ1 := Lib.hid (And.intro hz1 hzz)
         have HG1 := Lib.hid (HG.out.trans hg1)
         clear hg1 hs1 hsz hw1 hz1 hzz)
      | (go_simp
         go_at_call 14
         refine (HF.out _ HG1.out).mono ?_
         rintro e w2 ⟨⟨s2, rfl, hs2⟩, hg2⟩
         have HS2 := Lib.hid hs2
         obtain ⟨z2, hz2⟩ : ∃ z, z1 ++ s2 = z := ⟨_, rfl⟩
         have hd2 := fun u => str_addv s2 z1 z2 hz2 (by have := HZ1.out.2; have := HLT.out; have := txt_size hs2; omega) u
         have HZ2 := Lib.hid hz2
         have HG2 := Lib.hid (HG1.out.trans hg2)
         clear hg2 hs2 hz2))
  all_goals
    go_wp2_with fail
    go_ret
    exact ⟨⟨z2, rfl, fmtV_of HS1.out HS2.out HZ1.out.1 HZ2.out⟩, HG2.out⟩

set_option maxRecDepth 100000 in
set_option maxHeartbeats 1000000 in
theorem svecfmt_any (v : Value) (k : Int) (LL : List (List Int)) (D : List Int) (w : World) (h : Vct w v k LL D) (hn : LL.length + totL LL + D.length ≤ 1048576) (hk : -9223372036854775808 ≤ k ∧ k ≤ 9223372036854775807) (hw : ∀ L ∈ LL, Wf L) (hwd : Wf D) :
    Calls Tryd.prog 5 #[v] w (TxtPost (fmtV k LL D) w) := by
  obtain ⟨x, y, rfl, hl⟩ := h.lyt
  have hg0 := World.grownBy_alloc w (.cells #[.int .i64 k, x, y] 32) none
  have HF := Lib.hid (fun w1 (hg : w.grownBy w1 none) => sfmt_any (.agg #[x, y]) LL D w1 (hl.grown hg) hn hw hwd)
  have HI := Lib.hid (fun w1 => sdec_any k w1 hk.1 hk.2)
  have HP := Lib.hid (Tri.new w 32 (.int .i64 k) x y)
  have HG := Lib.hid hg0
  have HLT := Lib.hid (fmtText_len hw hwd hn)
  have HLI := Lib.hid (Lib.itoa_length_le k hk.1 hk.2)
  obtain ⟨A, c, B, d, he, _⟩ := hl
  cases he
  obtain ⟨n, hnn⟩ : ∃ n, LL.length = n := ⟨_, rfl⟩
  obtain ⟨m, hm⟩ : ∃ m, D.length = m := ⟨_, rfl⟩
  rw [hnn, hm] at HF HP HG ⊢
  clear h hn hnn hm hg0 hw hwd hk
  go_enter Tryd.func5, Tryd.ntmps5
  have c0 := HP.out.c0
  have c1 := HP.out.c1
  have c2 := HP.out.c2
  go_wp2_with fail
  generalize w.alloc (.cells #[.int .i64 k, .slice A n c, .slice B m d] 32) = w0 at HG HP c0 c1 c2 ⊢
  go_region_law (first
      | (go_simp
         go_at_call 10
         refine (HI.out _).mono ?_
         rintro e w1 ⟨⟨s1, rfl, hs1⟩, hg1'⟩
         have hg1 := (gr_drewN w0 _ none).trans hg1'
         have HS1 := Lib.hid hs1
         have hsz : s1.size ≤ 30 := by have := HLI.out; have := txt_size HS1.out; omega
         obtain ⟨z1, hz1⟩ : ∃ z, s1 ++ (⟨#[42]⟩ : ByteArray) = z := ⟨_, rfl⟩
         have hd1 := fun u => str_addv ⟨#[42]⟩ s1 z1 hz1 (by have : (⟨#[42]⟩ : ByteArray).size = 1 := rfl; omega) u
         have hzz : z1.size ≤ 31 := by rw [← hz1, ByteArray.size_append]; have : (⟨#[42]⟩ : ByteArray).size = 1 := rfl; omega
         have d0 := (HP.out.grown hg1 (by simp)).c0
         have d1 := (HP.out.grown hg1 (by simp)).c1
         have d2 := (HP.out.grown hg1 (by simp)).c2
         have HZ1 := Lib.hid (And.intro hz1 hzz)
         have HG1 := Lib.hid (HG.out.trans hg1)
         clear hg1 hg1' hs1 hsz hz1 hzz)
      | (go_simp
         go_at_call 11
         refine (HF.out _ HG1.out).mono ?_
         rintro e w2 ⟨⟨s2, rfl, hs2⟩, hg2⟩
         have HS2 := Lib.hid hs2
         obtain ⟨z2, hz2⟩ : ∃ z, z1 ++ s2 = z := ⟨_, rfl⟩
         have hd2 := fun u => str_addv s2 z1 z2 hz2 (by have := HZ1.out.2; have := HLT.out; have := txt_size hs2; omega) u
         have HZ2 := Lib.hid hz2
         have HG2 := Lib.hid (HG1.out.trans hg2)
         clear hg2 hs2 hz2))
  all_goals
    go_wp2_with fail
    go_ret
    exact ⟨⟨z2, rfl, fmtV_of HS1.out HS2.out HZ1.out.1 HZ2.out⟩, HG2.out⟩

end Go.Proofs.YtbideeajdhejoaaDoor
