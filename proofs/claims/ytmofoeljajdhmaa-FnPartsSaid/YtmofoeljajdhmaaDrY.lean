/- What l5Some does: some text, mostly a term. -/
import Derived.Test.YtmofoeljajdhmaaDrX
import Derived.Test.YtmofoeljajdhmaaInvJ
namespace Go.Proofs.Ytmofoeljajdhmaa
open Go.RowKit

def s7L : List ByteArray := [⟨#[]⟩, ⟨#[97]⟩, ⟨#[120]⟩, ⟨#[83]⟩, ⟨#[40]⟩, ⟨#[93]⟩, ⟨#[113]⟩]
theorem s7_size : ∀ s ∈ s7L, s.size ≤ 1 := by
  intro s hs
  simp only [s7L, List.mem_cons, List.not_mem_nil, or_false] at hs
  rcases hs with rfl | rfl | rfl | rfl | rfl | rfl | rfl <;> decide
def cost7 : Nat → Nat
  | 5 => 1
  | 10 => 1
  | _ => 0
def sR (g i : Nat) (s : ByteArray) : Nat → Value → World → Prop
  | 0, v, _ => v = .string s
  | 7, v, _ => v = .string s
  | 1, v, _ => v = .int .i64 i
  | 8, v, _ => v = .int .i64 i
  | 2, v, _ => ∃ x, v = .string x ∧ x.size ≤ 80
  | 3, v, _ => v = .pointer (some ⟨g, 0, none⟩)
  | 9, v, _ => v = .pointer (some ⟨g, 0, none⟩)
  | 4, v, w => ∃ B, v = .slice (some ⟨B, 0, none⟩) 7 7 ∧ Strs w (some ⟨B, 0, none⟩) s7L ∧ B ≠ g
  | 5, v, _ => ∃ x, v = .string x ∧ x.size ≤ 1
  | 6, v, _ => ∃ x, v = .string x ∧ x.size ≤ 81
  | 10, v, _ => ∃ x, v = .int .i64 x ∧ 0 ≤ x ∧ x < 2
  | 11, v, _ => ∃ x, v = .int .i64 ((i : Int) + x) ∧ 0 ≤ x ∧ x < 2
  | 12, v, _ => ∃ x, v = .string x ∧ x.size ≤ 80
  | _, v, _ => ∃ x, v = .string x ∧ x.size ≤ 161
theorem sR_mono {g i : Nat} {s : ByteArray} {j : Nat} {v : Value} {w w' : World} (h : sR g i s j v w) (hg : w.grownBy w' (some g)) : sR g i s j v w' := by
  by_cases hj : j = 4
  · subst hj
    obtain ⟨B, e, hB, hne⟩ := h
    exact ⟨B, e, hB.grownG hg (fun b off e => by cases e; simpa using hne), hne⟩
  · unfold sR at h ⊢
    split at h <;> first | exact h | exact absurd rfl hj

/-- How l5Some ends. -/
def SomeP (g n c p : Nat) (A : Option Addr) (w : World) (e : Ending) (w' : World) : Prop := ∃ s p', e = .returned (.string s) ∧ s.size ≤ 161 ∧ p ≤ p' ∧ p' ≤ p + 1000 ∧ Rd13 w' g A n c p' ∧ w.grownBy w' (some g)

set_option maxRecDepth 100000 in
set_option maxHeartbeats 16000000 in
theorem some_any (g n c p : Nat) (A : Option Addr) (w : World) (h : Rd13 w g A n c p) (hp : p ≤ 100000) (hn2 : n ≤ 2000) :
    Calls Try.prog 84 #[.pointer (some ⟨g, 0, none⟩)] w (SomeP g n c p A w) := by
  have H16 := Lib.hid (pick_any g n c p A 16 w h (by omega) hn2 (by omega) (by omega))
  have HDR := Lib.hid (draw_any g n c A hn2 6 (by omega))
  have hbk : bk 6 = 254 := rfl
  have hbz : bsz 6 = 379 := rfl
  rw [hbk, hbz] at HDR
  clear h hbk hbz
  go_enter Try.func84, Try.ntmps84
  go_wp2_with fail
  refine H16.out.mono ?_
  rintro e w1 ⟨x, rfl, hx0, hx1, hr1, hg1⟩
  have HR1 := Lib.hid hr1
  have HG1 := Lib.hid hg1
  clear hr1 hg1 H16
  go_wp2_with fail
  refine (known_any x w1 hx0 hx1).mono ?_
  rintro e w2 ⟨s, rfl, hs1, hs2, hg2⟩
  have HR2 := Lib.hid (HR1.out.grown hg2 (by simp) (by simp))
  have HG2 := Lib.hid (HG1.out.trans (gr_someG hg2))
  have H3 := Lib.hid (pick_any g n c (p + 1) A 3 w2 HR2.out (by omega) hn2 (by omega) (by omega))
  clear hg2 hx0 hx1
  go_wp2_with fail
  refine H3.out.mono ?_
  rintro e w3 ⟨x3, rfl, hx0, hx1, hr3, hg3⟩
  have HR3 := Lib.hid hr3
  have HG3 := Lib.hid (HG2.out.trans hg3)
  clear hr3 hg3 H3
  by_cases hx : 0 < x3
  · clear hs1 hs2
    have H3b := Lib.hid (pick_any g n c (p + 1 + 1) A 3 w3 HR3.out (by omega) hn2 (by omega) (by omega))
    go_wp2_with fail
    refine H3b.out.mono ?_
    rintro e w4 ⟨x4, rfl, hx40, hx41, hr4, hg4⟩
    have HR4 := Lib.hid hr4
    have HG4 := Lib.hid (HG3.out.trans hg4)
    clear hr4 hg4 H3b
    have H5b := Lib.hid (pick_any g n c (p + 1 + 1 + 1) A 5 w4 HR4.out (by omega) hn2 (by omega) (by omega))
    go_wp2_with fail
    refine H5b.out.mono ?_
    rintro e w5 ⟨x5, rfl, hx50, hx51, hr5, hg5⟩
    have HR5 := Lib.hid hr5
    have HG5 := Lib.hid (HG4.out.trans hg5)
    clear hr5 hg5 H5b
    go_wp2_with fail
    refine (HDR.out x4 (2 + x5) ⟨#[]⟩ ⟨#[]⟩ (p + 1 + 1 + 1 + 1) w5 (by omega) (by omega) (by show 0 + 6 ≤ 50; omega) (by show 0 + 6 ≤ 50; omega) (by omega) HR5.out).mono ?_
    rintro e w6 ⟨s, p6, rfl, hs1, hs2, hp1, hp2, hr6, hg6⟩
    have HR6 := Lib.hid hr6
    have HG6 := Lib.hid (HG5.out.trans hg6)
    clear hr6 hg6
    by_cases h80 : 80 < s.size
    · obtain ⟨s0, hs0⟩ : ∃ z, s = z := ⟨_, rfl⟩
      rw [hs0] at h80 hs1 hs2 ⊢
      clear hs0 hs1 hs2 s
      obtain ⟨s, hsA⟩ : ∃ z, z = (⟨#[83, 97]⟩ : ByteArray) := ⟨_, rfl⟩
      have hs1 : 1 ≤ s.size := by rw [hsA]; decide
      have hs2 : s.size ≤ 80 := by rw [hsA]; decide
      have H18 := Lib.hid (pick_any g n c p6 A 18 w6 HR6.out (by omega) hn2 (by omega) (by omega))
      go_wp2_with fail
      rw [← hsA]
      clear hsA h80
      refine H18.out.mono ?_
      rintro e w8 ⟨x8, rfl, hx80, hx81, hr8, hg8⟩
      have HR8 := Lib.hid hr8
      have HG8 := Lib.hid (HG6.out.trans hg8)
      clear hr8 hg8 H18
      by_cases hx8 : 0 < x8
      · go_wp2_with fail
        go_ret
        exact ⟨s, p6 + 1, rfl, by omega, by omega, by omega, HR8.out, HG8.out⟩
      · obtain ⟨ss, hss⟩ : ∃ q, s.size = q := ⟨_, rfl⟩
        have HSS := Lib.hid hss
        have hss1 : 1 ≤ ss ∧ ss ≤ 80 := by omega
        have HLEN := Lib.hid (pick_any g n c (p6 + 1) A ss w8 HR8.out (by omega) hn2 (by omega) (by omega))
        clear hs1 hs2
        go_wp2_with fail
        refine HLEN.out.mono ?_
        rintro e w9 ⟨x9, rfl, hx90, hx91, hr9, hg9⟩
        obtain ⟨i, rfl⟩ : ∃ i : Nat, x9 = (i : Int) := ⟨x9.toNat, by omega⟩
        have HRK := Lib.hid hr9
        have HGK := Lib.hid (HG8.out.trans hg9)
        clear hr9 hg9
        go_wp2_with fail
        refine wp_region_jsteps (u := w9) 43 rfl (by kernel_rfl) (fun w w' => w.grownBy w' (some g)) (sR g i s) cost7 (fun k w => ∃ p', (p6 + 1 + 1) ≤ p' ∧ p' ≤ (p6 + 1 + 1) + k ∧ Rd13 w g A n c p') (by kernel_rfl) (fun _ _ _ h1 h2 => h1.trans h2) (fun j v w w' h hg => sR_mono h hg) ?_ ?_ _ (gr_drewN _ _ _) ⟨(p6 + 1 + 1), Nat.le_refl _, Nat.le_refl _, HRK.out.grown (gr_drewN _ 1 none) (by simp) (by simp)⟩
        · intro a' w' hdf hgr hfar hall ⟨k9, hk9, p9, j1, j2, j3⟩
          have hk8 : k9 ≤ 2 := hk9
          obtain ⟨x, e2, hx⟩ : ∃ x, a'.tmps.getD 2 undef = .string x ∧ x.size ≤ 161 := hall 14 _ 2 rfl rfl
          have e2' : a'.tmps[2]?.getD undef = .string x := by rw [← e2]; simp
          go_wp2_with fail
          refine bodyPost_ret (v := .string x) (by simp [results, Try.results84, go_sem, e2']) hdf ?_
          exact ⟨x, p9, rfl, by omega, by omega, by omega, j3, HGK.out.trans hgr⟩
        refine ⟨?_, ?_, ?_, ?_, ?_, ?_, ?_, ?_, ?_, ?_, ?_, ?_, ?_, ?_, ?_, trivial⟩
        · intro a' w' k hdf hgr hfar hdep hJ hk
          have hkk : k ≤ 2 := by have h9 : spentAll cost7 15 = 2 := rfl; exact Nat.le_trans (Nat.le_add_right _ _) (h9 ▸ hk)
          have e3 : a'.tmps.getD 3 undef = .string s := hfar 3 (by kernel_rfl)
          go_simp
          exact ⟨_, rfl, gr_refl _ _, rfl, hJ⟩
        · intro a' w' k hdf hgr hfar hdep hJ hk
          have hkk : k ≤ 2 := by have h9 : spentAll cost7 15 = 2 := rfl; exact Nat.le_trans (Nat.le_add_right _ _) (h9 ▸ hk)
          have e4 : a'.tmps.getD 4 undef = .int .i64 i := hfar 4 (by kernel_rfl)
          go_simp
          exact ⟨_, rfl, gr_refl _ _, rfl, hJ⟩
        · intro a' w' k hdf hgr hfar hdep hJ hk
          have hkk : k ≤ 2 := by have h9 : spentAll cost7 15 = 2 := rfl; exact Nat.le_trans (Nat.le_add_right _ _) (h9 ▸ hk)
          have e29 : a'.tmps.getD 29 undef = .string s := hdep 0 _ 29 (by kernel_rfl) rfl rfl
          have e30 : a'.tmps.getD 30 undef = .int .i64 i := hdep 1 _ 30 (by kernel_rfl) rfl rfl
          have q1 : i ≤ ss := by omega
          go_simp
          exact ⟨_, rfl, gr_refl _ _, ⟨_, rfl, by simp only [ByteArray.size_extract]; omega⟩, hJ⟩
        · intro a' w' k hdf hgr hfar hdep hJ hk
          have hkk : k ≤ 2 := by have h9 : spentAll cost7 15 = 2 := rfl; exact Nat.le_trans (Nat.le_add_right _ _) (h9 ▸ hk)
          have e0 : a'.tmps.getD 0 undef = .pointer (some ⟨g, 0, none⟩) := hfar 0 (by kernel_rfl)
          go_simp
          exact ⟨_, rfl, gr_refl _ _, rfl, hJ⟩
        · intro a' w' k hdf hgr hfar hdep hJ hk
          have hkk : k ≤ 2 := by have h9 : spentAll cost7 15 = 2 := rfl; exact Nat.le_trans (Nat.le_add_right _ _) (h9 ▸ hk)
          go_simp
          obtain ⟨p9, j1, j2, j3⟩ := hJ
          exact ⟨_, rfl, gr_someG (World.grownBy_alloc _ _ none), ⟨w'.heap.size, rfl, strs_new w' s7L _, by have := j3.lt; omega⟩, ⟨p9, j1, j2, j3.grown (World.grownBy_alloc _ _ none) (by simp) (by simp)⟩⟩
        · intro a' w' k hdf hgr hfar hdep hJ hk
          have hkk : k ≤ 2 := by have h9 : spentAll cost7 15 = 2 := rfl; exact Nat.le_trans (Nat.le_add_right _ _) (h9 ▸ hk)
          have e32 : a'.tmps.getD 32 undef = .pointer (some ⟨g, 0, none⟩) := hdep 3 _ 32 (by kernel_rfl) rfl rfl
          obtain ⟨B, e33, hB, hBg⟩ : ∃ B, a'.tmps.getD 33 undef = .slice (some ⟨B, 0, none⟩) 7 7 ∧ Strs w' (some ⟨B, 0, none⟩) s7L ∧ B ≠ g := hdep 4 _ 33 (by kernel_rfl) rfl rfl
          obtain ⟨p9, j1, j2, j3⟩ := hJ
          go_simp
          refine (of_any g n c p9 A _ 7 s7L w' j3 hB (fun b off e => by cases e; exact hBg) (by omega) hn2 (by decide) (by decide)).mono ?_
          rintro e w2 ⟨x, rfl, hx, hr, hg⟩
          exact ⟨_, rfl, hg, ⟨x, rfl, s7_size x hx⟩, ⟨p9 + 1, by omega, by simp only [cost7]; omega, hr⟩⟩
        · intro a' w' k hdf hgr hfar hdep hJ hk
          have hkk : k ≤ 2 := by have h9 : spentAll cost7 15 = 2 := rfl; exact Nat.le_trans (Nat.le_add_right _ _) (h9 ▸ hk)
          obtain ⟨x, e31, hx⟩ : ∃ x, a'.tmps.getD 31 undef = .string x ∧ x.size ≤ 80 := hdep 2 _ 31 (by kernel_rfl) rfl rfl
          obtain ⟨y, e34, hy⟩ : ∃ x, a'.tmps.getD 34 undef = .string x ∧ x.size ≤ 1 := hdep 5 _ 34 (by kernel_rfl) rfl rfl
          have q1 : ¬ 9223372036854775807 < x.size + y.size := by omega
          go_simp
          exact ⟨_, rfl, gr_refl _ _, ⟨_, rfl, by simp only [ByteArray.size_append]; omega⟩, hJ⟩
        · intro a' w' k hdf hgr hfar hdep hJ hk
          have hkk : k ≤ 2 := by have h9 : spentAll cost7 15 = 2 := rfl; exact Nat.le_trans (Nat.le_add_right _ _) (h9 ▸ hk)
          have e3 : a'.tmps.getD 3 undef = .string s := hfar 3 (by kernel_rfl)
          go_simp
          exact ⟨_, rfl, gr_refl _ _, rfl, hJ⟩
        · intro a' w' k hdf hgr hfar hdep hJ hk
          have hkk : k ≤ 2 := by have h9 : spentAll cost7 15 = 2 := rfl; exact Nat.le_trans (Nat.le_add_right _ _) (h9 ▸ hk)
          have e4 : a'.tmps.getD 4 undef = .int .i64 i := hfar 4 (by kernel_rfl)
          go_simp
          exact ⟨_, rfl, gr_refl _ _, rfl, hJ⟩
        · intro a' w' k hdf hgr hfar hdep hJ hk
          have hkk : k ≤ 2 := by have h9 : spentAll cost7 15 = 2 := rfl; exact Nat.le_trans (Nat.le_add_right _ _) (h9 ▸ hk)
          have e0 : a'.tmps.getD 0 undef = .pointer (some ⟨g, 0, none⟩) := hfar 0 (by kernel_rfl)
          go_simp
          exact ⟨_, rfl, gr_refl _ _, rfl, hJ⟩
        · intro a' w' k hdf hgr hfar hdep hJ hk
          have hkk : k ≤ 2 := by have h9 : spentAll cost7 15 = 2 := rfl; exact Nat.le_trans (Nat.le_add_right _ _) (h9 ▸ hk)
          have e38 : a'.tmps.getD 38 undef = .pointer (some ⟨g, 0, none⟩) := hdep 9 _ 38 (by kernel_rfl) rfl rfl
          obtain ⟨p9, j1, j2, j3⟩ := hJ
          go_simp
          refine (pick_any g n c p9 A 2 w' j3 (by omega) hn2 (by omega) (by omega)).mono ?_
          rintro e w2 ⟨x, rfl, hx0, hx1, hr, hg⟩
          exact ⟨_, rfl, hg, ⟨x, rfl, hx0, hx1⟩, ⟨p9 + 1, by omega, by simp only [cost7]; omega, hr⟩⟩
        · intro a' w' k hdf hgr hfar hdep hJ hk
          have hkk : k ≤ 2 := by have h9 : spentAll cost7 15 = 2 := rfl; exact Nat.le_trans (Nat.le_add_right _ _) (h9 ▸ hk)
          have e37 : a'.tmps.getD 37 undef = .int .i64 i := hdep 8 _ 37 (by kernel_rfl) rfl rfl
          obtain ⟨x, e39, hx0, hx1⟩ : ∃ x, a'.tmps.getD 39 undef = .int .i64 x ∧ 0 ≤ x ∧ x < 2 := hdep 10 _ 39 (by kernel_rfl) rfl rfl
          have q1 : IntKind.i64.wrap ((i : Int) + x) = (i : Int) + x := IntWalk.i64_in _ (by omega)
          go_simp
          exact ⟨_, rfl, gr_refl _ _, ⟨x, rfl, hx0, hx1⟩, hJ⟩
        · intro a' w' k hdf hgr hfar hdep hJ hk
          have hkk : k ≤ 2 := by have h9 : spentAll cost7 15 = 2 := rfl; exact Nat.le_trans (Nat.le_add_right _ _) (h9 ▸ hk)
          have e36 : a'.tmps.getD 36 undef = .string s := hdep 7 _ 36 (by kernel_rfl) rfl rfl
          obtain ⟨x, e40, hx0, hx1⟩ : ∃ x, a'.tmps.getD 40 undef = .int .i64 ((i : Int) + x) ∧ 0 ≤ x ∧ x < 2 := hdep 11 _ 40 (by kernel_rfl) rfl rfl
          obtain ⟨j, rfl⟩ : ∃ j : Nat, x = (j : Int) := ⟨x.toNat, by omega⟩
          have q1 : 0 ≤ (i : Int) + (j : Int) ∧ (i : Int) + (j : Int) ≤ (ss : Int) := by omega
          go_simp
          exact ⟨_, rfl, gr_refl _ _, ⟨_, rfl, by simp only [ByteArray.size_extract]; omega⟩, hJ⟩
        · intro a' w' k hdf hgr hfar hdep hJ hk
          have hkk : k ≤ 2 := by have h9 : spentAll cost7 15 = 2 := rfl; exact Nat.le_trans (Nat.le_add_right _ _) (h9 ▸ hk)
          obtain ⟨x, e35, hx⟩ : ∃ x, a'.tmps.getD 35 undef = .string x ∧ x.size ≤ 81 := hdep 6 _ 35 (by kernel_rfl) rfl rfl
          obtain ⟨y, e41, hy⟩ : ∃ x, a'.tmps.getD 41 undef = .string x ∧ x.size ≤ 80 := hdep 12 _ 41 (by kernel_rfl) rfl rfl
          have q1 : ¬ 9223372036854775807 < x.size + y.size := by omega
          go_simp
          exact ⟨_, rfl, gr_refl _ _, ⟨_, rfl, by simp only [ByteArray.size_append]; omega⟩, hJ⟩
        · intro a' w' k hdf hgr hfar hdep hJ hk
          have hkk : k ≤ 2 := by have h9 : spentAll cost7 15 = 2 := rfl; exact Nat.le_trans (Nat.le_add_right _ _) (h9 ▸ hk)
          obtain ⟨x, e42, hx⟩ : ∃ x, a'.tmps.getD 42 undef = .string x ∧ x.size ≤ 161 := hdep 13 _ 42 (by kernel_rfl) rfl rfl
          go_simp
          exact ⟨_, rfl, gr_refl _ _, ⟨x, rfl, hx⟩, hJ⟩
    · have hs2 : s.size ≤ 80 := by omega
      have H18 := Lib.hid (pick_any g n c p6 A 18 w6 HR6.out (by omega) hn2 (by omega) (by omega))
      go_wp2_with fail
      refine H18.out.mono ?_
      rintro e w8 ⟨x8, rfl, hx80, hx81, hr8, hg8⟩
      have HR8 := Lib.hid hr8
      have HG8 := Lib.hid (HG6.out.trans hg8)
      clear hr8 hg8 H18
      by_cases hx8 : 0 < x8
      · go_wp2_with fail
        go_ret
        exact ⟨s, p6 + 1, rfl, by omega, by omega, by omega, HR8.out, HG8.out⟩
      · obtain ⟨ss, hss⟩ : ∃ q, s.size = q := ⟨_, rfl⟩
        have HSS := Lib.hid hss
        have hss1 : 1 ≤ ss ∧ ss ≤ 80 := by omega
        have HLEN := Lib.hid (pick_any g n c (p6 + 1) A ss w8 HR8.out (by omega) hn2 (by omega) (by omega))
        clear hs1 hs2
        go_wp2_with fail
        refine HLEN.out.mono ?_
        rintro e w9 ⟨x9, rfl, hx90, hx91, hr9, hg9⟩
        obtain ⟨i, rfl⟩ : ∃ i : Nat, x9 = (i : Int) := ⟨x9.toNat, by omega⟩
        have HRK := Lib.hid hr9
        have HGK := Lib.hid (HG8.out.trans hg9)
        clear hr9 hg9
        go_wp2_with fail
        refine wp_region_jsteps (u := w9) 43 rfl (by kernel_rfl) (fun w w' => w.grownBy w' (some g)) (sR g i s) cost7 (fun k w => ∃ p', (p6 + 1 + 1) ≤ p' ∧ p' ≤ (p6 + 1 + 1) + k ∧ Rd13 w g A n c p') (by kernel_rfl) (fun _ _ _ h1 h2 => h1.trans h2) (fun j v w w' h hg => sR_mono h hg) ?_ ?_ _ (gr_drewN _ _ _) ⟨(p6 + 1 + 1), Nat.le_refl _, Nat.le_refl _, HRK.out.grown (gr_drewN _ 1 none) (by simp) (by simp)⟩
        · intro a' w' hdf hgr hfar hall ⟨k9, hk9, p9, j1, j2, j3⟩
          have hk8 : k9 ≤ 2 := hk9
          obtain ⟨x, e2, hx⟩ : ∃ x, a'.tmps.getD 2 undef = .string x ∧ x.size ≤ 161 := hall 14 _ 2 rfl rfl
          have e2' : a'.tmps[2]?.getD undef = .string x := by rw [← e2]; simp
          go_wp2_with fail
          refine bodyPost_ret (v := .string x) (by simp [results, Try.results84, go_sem, e2']) hdf ?_
          exact ⟨x, p9, rfl, by omega, by omega, by omega, j3, HGK.out.trans hgr⟩
        refine ⟨?_, ?_, ?_, ?_, ?_, ?_, ?_, ?_, ?_, ?_, ?_, ?_, ?_, ?_, ?_, trivial⟩
        · intro a' w' k hdf hgr hfar hdep hJ hk
          have hkk : k ≤ 2 := by have h9 : spentAll cost7 15 = 2 := rfl; exact Nat.le_trans (Nat.le_add_right _ _) (h9 ▸ hk)
          have e3 : a'.tmps.getD 3 undef = .string s := hfar 3 (by kernel_rfl)
          go_simp
          exact ⟨_, rfl, gr_refl _ _, rfl, hJ⟩
        · intro a' w' k hdf hgr hfar hdep hJ hk
          have hkk : k ≤ 2 := by have h9 : spentAll cost7 15 = 2 := rfl; exact Nat.le_trans (Nat.le_add_right _ _) (h9 ▸ hk)
          have e4 : a'.tmps.getD 4 undef = .int .i64 i := hfar 4 (by kernel_rfl)
          go_simp
          exact ⟨_, rfl, gr_refl _ _, rfl, hJ⟩
        · intro a' w' k hdf hgr hfar hdep hJ hk
          have hkk : k ≤ 2 := by have h9 : spentAll cost7 15 = 2 := rfl; exact Nat.le_trans (Nat.le_add_right _ _) (h9 ▸ hk)
          have e29 : a'.tmps.getD 29 undef = .string s := hdep 0 _ 29 (by kernel_rfl) rfl rfl
          have e30 : a'.tmps.getD 30 undef = .int .i64 i := hdep 1 _ 30 (by kernel_rfl) rfl rfl
          have q1 : i ≤ ss := by omega
          go_simp
          exact ⟨_, rfl, gr_refl _ _, ⟨_, rfl, by simp only [ByteArray.size_extract]; omega⟩, hJ⟩
        · intro a' w' k hdf hgr hfar hdep hJ hk
          have hkk : k ≤ 2 := by have h9 : spentAll cost7 15 = 2 := rfl; exact Nat.le_trans (Nat.le_add_right _ _) (h9 ▸ hk)
          have e0 : a'.tmps.getD 0 undef = .pointer (some ⟨g, 0, none⟩) := hfar 0 (by kernel_rfl)
          go_simp
          exact ⟨_, rfl, gr_refl _ _, rfl, hJ⟩
        · intro a' w' k hdf hgr hfar hdep hJ hk
          have hkk : k ≤ 2 := by have h9 : spentAll cost7 15 = 2 := rfl; exact Nat.le_trans (Nat.le_add_right _ _) (h9 ▸ hk)
          go_simp
          obtain ⟨p9, j1, j2, j3⟩ := hJ
          exact ⟨_, rfl, gr_someG (World.grownBy_alloc _ _ none), ⟨w'.heap.size, rfl, strs_new w' s7L _, by have := j3.lt; omega⟩, ⟨p9, j1, j2, j3.grown (World.grownBy_alloc _ _ none) (by simp) (by simp)⟩⟩
        · intro a' w' k hdf hgr hfar hdep hJ hk
          have hkk : k ≤ 2 := by have h9 : spentAll cost7 15 = 2 := rfl; exact Nat.le_trans (Nat.le_add_right _ _) (h9 ▸ hk)
          have e32 : a'.tmps.getD 32 undef = .pointer (some ⟨g, 0, none⟩) := hdep 3 _ 32 (by kernel_rfl) rfl rfl
          obtain ⟨B, e33, hB, hBg⟩ : ∃ B, a'.tmps.getD 33 undef = .slice (some ⟨B, 0, none⟩) 7 7 ∧ Strs w' (some ⟨B, 0, none⟩) s7L ∧ B ≠ g := hdep 4 _ 33 (by kernel_rfl) rfl rfl
          obtain ⟨p9, j1, j2, j3⟩ := hJ
          go_simp
          refine (of_any g n c p9 A _ 7 s7L w' j3 hB (fun b off e => by cases e; exact hBg) (by omega) hn2 (by decide) (by decide)).mono ?_
          rintro e w2 ⟨x, rfl, hx, hr, hg⟩
          exact ⟨_, rfl, hg, ⟨x, rfl, s7_size x hx⟩, ⟨p9 + 1, by omega, by simp only [cost7]; omega, hr⟩⟩
        · intro a' w' k hdf hgr hfar hdep hJ hk
          have hkk : k ≤ 2 := by have h9 : spentAll cost7 15 = 2 := rfl; exact Nat.le_trans (Nat.le_add_right _ _) (h9 ▸ hk)
          obtain ⟨x, e31, hx⟩ : ∃ x, a'.tmps.getD 31 undef = .string x ∧ x.size ≤ 80 := hdep 2 _ 31 (by kernel_rfl) rfl rfl
          obtain ⟨y, e34, hy⟩ : ∃ x, a'.tmps.getD 34 undef = .string x ∧ x.size ≤ 1 := hdep 5 _ 34 (by kernel_rfl) rfl rfl
          have q1 : ¬ 9223372036854775807 < x.size + y.size := by omega
          go_simp
          exact ⟨_, rfl, gr_refl _ _, ⟨_, rfl, by simp only [ByteArray.size_append]; omega⟩, hJ⟩
        · intro a' w' k hdf hgr hfar hdep hJ hk
          have hkk : k ≤ 2 := by have h9 : spentAll cost7 15 = 2 := rfl; exact Nat.le_trans (Nat.le_add_right _ _) (h9 ▸ hk)
          have e3 : a'.tmps.getD 3 undef = .string s := hfar 3 (by kernel_rfl)
          go_simp
          exact ⟨_, rfl, gr_refl _ _, rfl, hJ⟩
        · intro a' w' k hdf hgr hfar hdep hJ hk
          have hkk : k ≤ 2 := by have h9 : spentAll cost7 15 = 2 := rfl; exact Nat.le_trans (Nat.le_add_right _ _) (h9 ▸ hk)
          have e4 : a'.tmps.getD 4 undef = .int .i64 i := hfar 4 (by kernel_rfl)
          go_simp
          exact ⟨_, rfl, gr_refl _ _, rfl, hJ⟩
        · intro a' w' k hdf hgr hfar hdep hJ hk
          have hkk : k ≤ 2 := by have h9 : spentAll cost7 15 = 2 := rfl; exact Nat.le_trans (Nat.le_add_right _ _) (h9 ▸ hk)
          have e0 : a'.tmps.getD 0 undef = .pointer (some ⟨g, 0, none⟩) := hfar 0 (by kernel_rfl)
          go_simp
          exact ⟨_, rfl, gr_refl _ _, rfl, hJ⟩
        · intro a' w' k hdf hgr hfar hdep hJ hk
          have hkk : k ≤ 2 := by have h9 : spentAll cost7 15 = 2 := rfl; exact Nat.le_trans (Nat.le_add_right _ _) (h9 ▸ hk)
          have e38 : a'.tmps.getD 38 undef = .pointer (some ⟨g, 0, none⟩) := hdep 9 _ 38 (by kernel_rfl) rfl rfl
          obtain ⟨p9, j1, j2, j3⟩ := hJ
          go_simp
          refine (pick_any g n c p9 A 2 w' j3 (by omega) hn2 (by omega) (by omega)).mono ?_
          rintro e w2 ⟨x, rfl, hx0, hx1, hr, hg⟩
          exact ⟨_, rfl, hg, ⟨x, rfl, hx0, hx1⟩, ⟨p9 + 1, by omega, by simp only [cost7]; omega, hr⟩⟩
        · intro a' w' k hdf hgr hfar hdep hJ hk
          have hkk : k ≤ 2 := by have h9 : spentAll cost7 15 = 2 := rfl; exact Nat.le_trans (Nat.le_add_right _ _) (h9 ▸ hk)
          have e37 : a'.tmps.getD 37 undef = .int .i64 i := hdep 8 _ 37 (by kernel_rfl) rfl rfl
          obtain ⟨x, e39, hx0, hx1⟩ : ∃ x, a'.tmps.getD 39 undef = .int .i64 x ∧ 0 ≤ x ∧ x < 2 := hdep 10 _ 39 (by kernel_rfl) rfl rfl
          have q1 : IntKind.i64.wrap ((i : Int) + x) = (i : Int) + x := IntWalk.i64_in _ (by omega)
          go_simp
          exact ⟨_, rfl, gr_refl _ _, ⟨x, rfl, hx0, hx1⟩, hJ⟩
        · intro a' w' k hdf hgr hfar hdep hJ hk
          have hkk : k ≤ 2 := by have h9 : spentAll cost7 15 = 2 := rfl; exact Nat.le_trans (Nat.le_add_right _ _) (h9 ▸ hk)
          have e36 : a'.tmps.getD 36 undef = .string s := hdep 7 _ 36 (by kernel_rfl) rfl rfl
          obtain ⟨x, e40, hx0, hx1⟩ : ∃ x, a'.tmps.getD 40 undef = .int .i64 ((i : Int) + x) ∧ 0 ≤ x ∧ x < 2 := hdep 11 _ 40 (by kernel_rfl) rfl rfl
          obtain ⟨j, rfl⟩ : ∃ j : Nat, x = (j : Int) := ⟨x.toNat, by omega⟩
          have q1 : 0 ≤ (i : Int) + (j : Int) ∧ (i : Int) + (j : Int) ≤ (ss : Int) := by omega
          go_simp
          exact ⟨_, rfl, gr_refl _ _, ⟨_, rfl, by simp only [ByteArray.size_extract]; omega⟩, hJ⟩
        · intro a' w' k hdf hgr hfar hdep hJ hk
          have hkk : k ≤ 2 := by have h9 : spentAll cost7 15 = 2 := rfl; exact Nat.le_trans (Nat.le_add_right _ _) (h9 ▸ hk)
          obtain ⟨x, e35, hx⟩ : ∃ x, a'.tmps.getD 35 undef = .string x ∧ x.size ≤ 81 := hdep 6 _ 35 (by kernel_rfl) rfl rfl
          obtain ⟨y, e41, hy⟩ : ∃ x, a'.tmps.getD 41 undef = .string x ∧ x.size ≤ 80 := hdep 12 _ 41 (by kernel_rfl) rfl rfl
          have q1 : ¬ 9223372036854775807 < x.size + y.size := by omega
          go_simp
          exact ⟨_, rfl, gr_refl _ _, ⟨_, rfl, by simp only [ByteArray.size_append]; omega⟩, hJ⟩
        · intro a' w' k hdf hgr hfar hdep hJ hk
          have hkk : k ≤ 2 := by have h9 : spentAll cost7 15 = 2 := rfl; exact Nat.le_trans (Nat.le_add_right _ _) (h9 ▸ hk)
          obtain ⟨x, e42, hx⟩ : ∃ x, a'.tmps.getD 42 undef = .string x ∧ x.size ≤ 161 := hdep 13 _ 42 (by kernel_rfl) rfl rfl
          go_simp
          exact ⟨_, rfl, gr_refl _ _, ⟨x, rfl, hx⟩, hJ⟩
  · have h80 : ¬ 80 < s.size := by omega
    have H18 := Lib.hid (pick_any g n c (p + 1 + 1) A 18 w3 HR3.out (by omega) hn2 (by omega) (by omega))
    go_wp2_with fail
    refine H18.out.mono ?_
    rintro e w8 ⟨x8, rfl, hx80, hx81, hr8, hg8⟩
    have HR8 := Lib.hid hr8
    have HG8 := Lib.hid (HG3.out.trans hg8)
    clear hr8 hg8 H18
    by_cases hx8 : 0 < x8
    · go_wp2_with fail
      go_ret
      exact ⟨s, (p + 1 + 1) + 1, rfl, by omega, by omega, by omega, HR8.out, HG8.out⟩
    · obtain ⟨ss, hss⟩ : ∃ q, s.size = q := ⟨_, rfl⟩
      have HSS := Lib.hid hss
      have hss1 : 1 ≤ ss ∧ ss ≤ 80 := by omega
      have HLEN := Lib.hid (pick_any g n c ((p + 1 + 1) + 1) A ss w8 HR8.out (by omega) hn2 (by omega) (by omega))
      clear hs1 hs2
      go_wp2_with fail
      refine HLEN.out.mono ?_
      rintro e w9 ⟨x9, rfl, hx90, hx91, hr9, hg9⟩
      obtain ⟨i, rfl⟩ : ∃ i : Nat, x9 = (i : Int) := ⟨x9.toNat, by omega⟩
      have HRK := Lib.hid hr9
      have HGK := Lib.hid (HG8.out.trans hg9)
      clear hr9 hg9
      go_wp2_with fail
      refine wp_region_jsteps (u := w9) 43 rfl (by kernel_rfl) (fun w w' => w.grownBy w' (some g)) (sR g i s) cost7 (fun k w => ∃ p', ((p + 1 + 1) + 1 + 1) ≤ p' ∧ p' ≤ ((p + 1 + 1) + 1 + 1) + k ∧ Rd13 w g A n c p') (by kernel_rfl) (fun _ _ _ h1 h2 => h1.trans h2) (fun j v w w' h hg => sR_mono h hg) ?_ ?_ _ (gr_drewN _ _ _) ⟨((p + 1 + 1) + 1 + 1), Nat.le_refl _, Nat.le_refl _, HRK.out.grown (gr_drewN _ 1 none) (by simp) (by simp)⟩
      · intro a' w' hdf hgr hfar hall ⟨k9, hk9, p9, j1, j2, j3⟩
        have hk8 : k9 ≤ 2 := hk9
        obtain ⟨x, e2, hx⟩ : ∃ x, a'.tmps.getD 2 undef = .string x ∧ x.size ≤ 161 := hall 14 _ 2 rfl rfl
        have e2' : a'.tmps[2]?.getD undef = .string x := by rw [← e2]; simp
        go_wp2_with fail
        refine bodyPost_ret (v := .string x) (by simp [results, Try.results84, go_sem, e2']) hdf ?_
        exact ⟨x, p9, rfl, by omega, by omega, by omega, j3, HGK.out.trans hgr⟩
      refine ⟨?_, ?_, ?_, ?_, ?_, ?_, ?_, ?_, ?_, ?_, ?_, ?_, ?_, ?_, ?_, trivial⟩
      · intro a' w' k hdf hgr hfar hdep hJ hk
        have hkk : k ≤ 2 := by have h9 : spentAll cost7 15 = 2 := rfl; exact Nat.le_trans (Nat.le_add_right _ _) (h9 ▸ hk)
        have e3 : a'.tmps.getD 3 undef = .string s := hfar 3 (by kernel_rfl)
        go_simp
        exact ⟨_, rfl, gr_refl _ _, rfl, hJ⟩
      · intro a' w' k hdf hgr hfar hdep hJ hk
        have hkk : k ≤ 2 := by have h9 : spentAll cost7 15 = 2 := rfl; exact Nat.le_trans (Nat.le_add_right _ _) (h9 ▸ hk)
        have e4 : a'.tmps.getD 4 undef = .int .i64 i := hfar 4 (by kernel_rfl)
        go_simp
        exact ⟨_, rfl, gr_refl _ _, rfl, hJ⟩
      · intro a' w' k hdf hgr hfar hdep hJ hk
        have hkk : k ≤ 2 := by have h9 : spentAll cost7 15 = 2 := rfl; exact Nat.le_trans (Nat.le_add_right _ _) (h9 ▸ hk)
        have e29 : a'.tmps.getD 29 undef = .string s := hdep 0 _ 29 (by kernel_rfl) rfl rfl
        have e30 : a'.tmps.getD 30 undef = .int .i64 i := hdep 1 _ 30 (by kernel_rfl) rfl rfl
        have q1 : i ≤ ss := by omega
        go_simp
        exact ⟨_, rfl, gr_refl _ _, ⟨_, rfl, by simp only [ByteArray.size_extract]; omega⟩, hJ⟩
      · intro a' w' k hdf hgr hfar hdep hJ hk
        have hkk : k ≤ 2 := by have h9 : spentAll cost7 15 = 2 := rfl; exact Nat.le_trans (Nat.le_add_right _ _) (h9 ▸ hk)
        have e0 : a'.tmps.getD 0 undef = .pointer (some ⟨g, 0, none⟩) := hfar 0 (by kernel_rfl)
        go_simp
        exact ⟨_, rfl, gr_refl _ _, rfl, hJ⟩
      · intro a' w' k hdf hgr hfar hdep hJ hk
        have hkk : k ≤ 2 := by have h9 : spentAll cost7 15 = 2 := rfl; exact Nat.le_trans (Nat.le_add_right _ _) (h9 ▸ hk)
        go_simp
        obtain ⟨p9, j1, j2, j3⟩ := hJ
        exact ⟨_, rfl, gr_someG (World.grownBy_alloc _ _ none), ⟨w'.heap.size, rfl, strs_new w' s7L _, by have := j3.lt; omega⟩, ⟨p9, j1, j2, j3.grown (World.grownBy_alloc _ _ none) (by simp) (by simp)⟩⟩
      · intro a' w' k hdf hgr hfar hdep hJ hk
        have hkk : k ≤ 2 := by have h9 : spentAll cost7 15 = 2 := rfl; exact Nat.le_trans (Nat.le_add_right _ _) (h9 ▸ hk)
        have e32 : a'.tmps.getD 32 undef = .pointer (some ⟨g, 0, none⟩) := hdep 3 _ 32 (by kernel_rfl) rfl rfl
        obtain ⟨B, e33, hB, hBg⟩ : ∃ B, a'.tmps.getD 33 undef = .slice (some ⟨B, 0, none⟩) 7 7 ∧ Strs w' (some ⟨B, 0, none⟩) s7L ∧ B ≠ g := hdep 4 _ 33 (by kernel_rfl) rfl rfl
        obtain ⟨p9, j1, j2, j3⟩ := hJ
        go_simp
        refine (of_any g n c p9 A _ 7 s7L w' j3 hB (fun b off e => by cases e; exact hBg) (by omega) hn2 (by decide) (by decide)).mono ?_
        rintro e w2 ⟨x, rfl, hx, hr, hg⟩
        exact ⟨_, rfl, hg, ⟨x, rfl, s7_size x hx⟩, ⟨p9 + 1, by omega, by simp only [cost7]; omega, hr⟩⟩
      · intro a' w' k hdf hgr hfar hdep hJ hk
        have hkk : k ≤ 2 := by have h9 : spentAll cost7 15 = 2 := rfl; exact Nat.le_trans (Nat.le_add_right _ _) (h9 ▸ hk)
        obtain ⟨x, e31, hx⟩ : ∃ x, a'.tmps.getD 31 undef = .string x ∧ x.size ≤ 80 := hdep 2 _ 31 (by kernel_rfl) rfl rfl
        obtain ⟨y, e34, hy⟩ : ∃ x, a'.tmps.getD 34 undef = .string x ∧ x.size ≤ 1 := hdep 5 _ 34 (by kernel_rfl) rfl rfl
        have q1 : ¬ 9223372036854775807 < x.size + y.size := by omega
        go_simp
        exact ⟨_, rfl, gr_refl _ _, ⟨_, rfl, by simp only [ByteArray.size_append]; omega⟩, hJ⟩
      · intro a' w' k hdf hgr hfar hdep hJ hk
        have hkk : k ≤ 2 := by have h9 : spentAll cost7 15 = 2 := rfl; exact Nat.le_trans (Nat.le_add_right _ _) (h9 ▸ hk)
        have e3 : a'.tmps.getD 3 undef = .string s := hfar 3 (by kernel_rfl)
        go_simp
        exact ⟨_, rfl, gr_refl _ _, rfl, hJ⟩
      · intro a' w' k hdf hgr hfar hdep hJ hk
        have hkk : k ≤ 2 := by have h9 : spentAll cost7 15 = 2 := rfl; exact Nat.le_trans (Nat.le_add_right _ _) (h9 ▸ hk)
        have e4 : a'.tmps.getD 4 undef = .int .i64 i := hfar 4 (by kernel_rfl)
        go_simp
        exact ⟨_, rfl, gr_refl _ _, rfl, hJ⟩
      · intro a' w' k hdf hgr hfar hdep hJ hk
        have hkk : k ≤ 2 := by have h9 : spentAll cost7 15 = 2 := rfl; exact Nat.le_trans (Nat.le_add_right _ _) (h9 ▸ hk)
        have e0 : a'.tmps.getD 0 undef = .pointer (some ⟨g, 0, none⟩) := hfar 0 (by kernel_rfl)
        go_simp
        exact ⟨_, rfl, gr_refl _ _, rfl, hJ⟩
      · intro a' w' k hdf hgr hfar hdep hJ hk
        have hkk : k ≤ 2 := by have h9 : spentAll cost7 15 = 2 := rfl; exact Nat.le_trans (Nat.le_add_right _ _) (h9 ▸ hk)
        have e38 : a'.tmps.getD 38 undef = .pointer (some ⟨g, 0, none⟩) := hdep 9 _ 38 (by kernel_rfl) rfl rfl
        obtain ⟨p9, j1, j2, j3⟩ := hJ
        go_simp
        refine (pick_any g n c p9 A 2 w' j3 (by omega) hn2 (by omega) (by omega)).mono ?_
        rintro e w2 ⟨x, rfl, hx0, hx1, hr, hg⟩
        exact ⟨_, rfl, hg, ⟨x, rfl, hx0, hx1⟩, ⟨p9 + 1, by omega, by simp only [cost7]; omega, hr⟩⟩
      · intro a' w' k hdf hgr hfar hdep hJ hk
        have hkk : k ≤ 2 := by have h9 : spentAll cost7 15 = 2 := rfl; exact Nat.le_trans (Nat.le_add_right _ _) (h9 ▸ hk)
        have e37 : a'.tmps.getD 37 undef = .int .i64 i := hdep 8 _ 37 (by kernel_rfl) rfl rfl
        obtain ⟨x, e39, hx0, hx1⟩ : ∃ x, a'.tmps.getD 39 undef = .int .i64 x ∧ 0 ≤ x ∧ x < 2 := hdep 10 _ 39 (by kernel_rfl) rfl rfl
        have q1 : IntKind.i64.wrap ((i : Int) + x) = (i : Int) + x := IntWalk.i64_in _ (by omega)
        go_simp
        exact ⟨_, rfl, gr_refl _ _, ⟨x, rfl, hx0, hx1⟩, hJ⟩
      · intro a' w' k hdf hgr hfar hdep hJ hk
        have hkk : k ≤ 2 := by have h9 : spentAll cost7 15 = 2 := rfl; exact Nat.le_trans (Nat.le_add_right _ _) (h9 ▸ hk)
        have e36 : a'.tmps.getD 36 undef = .string s := hdep 7 _ 36 (by kernel_rfl) rfl rfl
        obtain ⟨x, e40, hx0, hx1⟩ : ∃ x, a'.tmps.getD 40 undef = .int .i64 ((i : Int) + x) ∧ 0 ≤ x ∧ x < 2 := hdep 11 _ 40 (by kernel_rfl) rfl rfl
        obtain ⟨j, rfl⟩ : ∃ j : Nat, x = (j : Int) := ⟨x.toNat, by omega⟩
        have q1 : 0 ≤ (i : Int) + (j : Int) ∧ (i : Int) + (j : Int) ≤ (ss : Int) := by omega
        go_simp
        exact ⟨_, rfl, gr_refl _ _, ⟨_, rfl, by simp only [ByteArray.size_extract]; omega⟩, hJ⟩
      · intro a' w' k hdf hgr hfar hdep hJ hk
        have hkk : k ≤ 2 := by have h9 : spentAll cost7 15 = 2 := rfl; exact Nat.le_trans (Nat.le_add_right _ _) (h9 ▸ hk)
        obtain ⟨x, e35, hx⟩ : ∃ x, a'.tmps.getD 35 undef = .string x ∧ x.size ≤ 81 := hdep 6 _ 35 (by kernel_rfl) rfl rfl
        obtain ⟨y, e41, hy⟩ : ∃ x, a'.tmps.getD 41 undef = .string x ∧ x.size ≤ 80 := hdep 12 _ 41 (by kernel_rfl) rfl rfl
        have q1 : ¬ 9223372036854775807 < x.size + y.size := by omega
        go_simp
        exact ⟨_, rfl, gr_refl _ _, ⟨_, rfl, by simp only [ByteArray.size_append]; omega⟩, hJ⟩
      · intro a' w' k hdf hgr hfar hdep hJ hk
        have hkk : k ≤ 2 := by have h9 : spentAll cost7 15 = 2 := rfl; exact Nat.le_trans (Nat.le_add_right _ _) (h9 ▸ hk)
        obtain ⟨x, e42, hx⟩ : ∃ x, a'.tmps.getD 42 undef = .string x ∧ x.size ≤ 161 := hdep 13 _ 42 (by kernel_rfl) rfl rfl
        go_simp
        exact ⟨_, rfl, gr_refl _ _, ⟨x, rfl, hx⟩, hJ⟩

end Go.Proofs.Ytmofoeljajdhmaa
