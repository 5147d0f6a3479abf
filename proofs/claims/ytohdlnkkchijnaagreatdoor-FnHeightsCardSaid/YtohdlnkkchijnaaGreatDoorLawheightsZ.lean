/- 7 texts in one: DrS SameZ HtsB HgtT HgtU TLevZ Lawheights. -/
import Derived.Test.YtohdlnkkchijnaaGreatDoorZB
import Derived.Test.YtohdlnkkchijnaaGreatDoorZA
import Derived.Test.YtohdlnkkchijnaaGreatDoorKids
import Derived.Test.YtohdlnkkchijnaaGreatDoorTAs
import Derived.Deep.RegionLaw
import Derived.ProofKit
import Derived.Test.YtohdlnkkchijnaaGreatDoorTie
import Derived.Test.YtohdlnkkchijnaaGreatDoorCards
import Derived.Lay
import Derived.OpenShut
import Derived.Stop.Joined
namespace Go.Proofs.YtohdlnkkchijnaaGreatDoor
/-! DrS -/
section
open Go.RowKit

def s7M : List ByteArray := [⟨#[]⟩, ⟨#[32]⟩, ⟨#[97]⟩, ⟨#[91, 120]⟩, ⟨#[93]⟩, ⟨#[43]⟩, ⟨#[113]⟩]
theorem s7m_size : ∀ s ∈ s7M, s.size ≤ 2 := by
  intro s hs
  simp only [s7M, List.mem_cons, List.not_mem_nil, or_false] at hs
  rcases hs with rfl | rfl | rfl | rfl | rfl | rfl | rfl <;> decide
def sS (g i : Nat) (s : ByteArray) : Nat → Value → World → Prop
  | 0, v, _ => v = .string s
  | 7, v, _ => v = .string s
  | 1, v, _ => v = .int .i64 i
  | 8, v, _ => v = .int .i64 i
  | 2, v, _ => ∃ x, v = .string x ∧ x.size ≤ 159
  | 3, v, _ => v = .pointer (some ⟨g, 0, none⟩)
  | 9, v, _ => v = .pointer (some ⟨g, 0, none⟩)
  | 4, v, w => ∃ B, v = .slice (some ⟨B, 0, none⟩) 7 7 ∧ Strs w (some ⟨B, 0, none⟩) s7M ∧ B ≠ g
  | 5, v, _ => ∃ x, v = .string x ∧ x.size ≤ 2
  | 6, v, _ => ∃ x, v = .string x ∧ x.size ≤ 161
  | 10, v, _ => ∃ x, v = .int .i64 x ∧ 0 ≤ x ∧ x < 2
  | 11, v, _ => ∃ x, v = .int .i64 ((i : Int) + x) ∧ 0 ≤ x ∧ x < 2
  | 12, v, _ => ∃ x, v = .string x ∧ x.size ≤ 159
  | _, v, _ => ∃ x, v = .string x ∧ x.size ≤ 320
theorem sS_mono {g i : Nat} {s : ByteArray} {j : Nat} {v : Value} {w w' : World} (h : sS g i s j v w) (hg : w.grownBy w' (some g)) : sS g i s j v w' := by
  by_cases hj : j = 4
  · subst hj
    obtain ⟨B, e, hB, hne⟩ := h
    exact ⟨B, e, hB.grownG hg (fun b off e => by cases e; simpa using hne), hne⟩
  · unfold sS at h ⊢
    split at h <;> first | exact h | exact absurd rfl hj

/-- How l7Some ends. -/
def SomeQ (g : Nat) (w : World) (e : Ending) (w' : World) : Prop := ∃ s, e = .returned (.string s) ∧ s.size ≤ 320 ∧ w.grownBy w' (some g)

set_option maxRecDepth 100000 in
set_option maxHeartbeats 16000000 in
theorem some7_any (g n c : Nat) (A : Option Addr) (w : World) (h : Rd13 w g A n c 0) (hn2 : n ≤ 2000) :
    Calls Tryz.prog 42 #[.pointer (some ⟨g, 0, none⟩)] w (SomeQ g w) := by
  have HSO := Lib.hid (some_any g n c 0 A w h (by omega) hn2)
  clear h
  go_enter Tryz.func42, Tryz.ntmps42
  go_wp2_with fail
  refine HSO.out.mono ?_
  rintro e w1 ⟨s0, p1, rfl, hs0, -, hp1, hr1, hg1⟩
  have HCO := Lib.hid (cod_spec s0 (by omega) w1)
  have HR1 := Lib.hid hr1
  have HG1 := Lib.hid hg1
  clear hr1 hg1 HSO
  unfold CodP at HCO
  cases hrd : readT s0 with
  | none =>
    have e1 : codeV s0 = (⟨#[]⟩, false) := by unfold codeV; rw [hrd]
    rw [e1] at HCO
    simp only at HCO
    clear hrd e1
    go_wp2_with fail
    refine HCO.out.mono ?_
    rintro e w6 ⟨rfl, hg6⟩
    have HR6 := Lib.hid (HR1.out.grown hg6 (by simp) (by simp))
    have HG6 := Lib.hid (HG1.out.trans (gr_someG hg6))
    clear hg6
    obtain ⟨s, hsA⟩ : ∃ z, z = (⟨#[97, 32, 83]⟩ : ByteArray) := ⟨_, rfl⟩
    have hs1 : 1 ≤ s.size := by rw [hsA]; decide
    have hs2 : s.size ≤ 159 := by rw [hsA]; decide
    have H18 := Lib.hid (pick_any g n c p1 A 10 w6 HR6.out (by omega) hn2 (by omega) (by omega))
    go_wp2_with fail
    rw [← hsA]
    clear hsA
    refine H18.out.mono ?_
    rintro e w8 ⟨x8, rfl, hx80, hx81, hr8, hg8⟩
    have HR8 := Lib.hid hr8
    have HG8 := Lib.hid (HG6.out.trans hg8)
    clear hr8 hg8 H18
    by_cases hx8 : 0 < x8
    · go_wp2_with fail
      go_ret
      exact ⟨s, rfl, by omega, HG8.out⟩
    · obtain ⟨ss, hss⟩ : ∃ q, s.size = q := ⟨_, rfl⟩
      have HSS := Lib.hid hss
      have hss1 : 1 ≤ ss ∧ ss ≤ 159 := by omega
      have HLEN := Lib.hid (pick_any g n c (p1 + 1) A ss w8 HR8.out (by omega) hn2 (by omega) (by omega))
      clear hs1 hs2
      go_wp2_with fail
      refine HLEN.out.mono ?_
      rintro e w9 ⟨x9, rfl, hx90, hx91, hr9, hg9⟩
      obtain ⟨i, rfl⟩ : ∃ i : Nat, x9 = (i : Int) := ⟨x9.toNat, by omega⟩
      have HRK := Lib.hid hr9
      have HGK := Lib.hid (HG8.out.trans hg9)
      clear hr9 hg9
      go_wp2_with fail
      refine wp_region_jsteps (u := w9) 36 rfl (by kernel_rfl) (fun w w' => w.grownBy w' (some g)) (sS g i s) cost7 (fun k w => ∃ p', (p1 + 1 + 1) ≤ p' ∧ p' ≤ (p1 + 1 + 1) + k ∧ Rd13 w g A n c p') (by kernel_rfl) (fun _ _ _ h1 h2 => h1.trans h2) (fun j v w w' h hg => sS_mono h hg) ?_ ?_ _ (gr_drewN _ _ _) ⟨(p1 + 1 + 1), Nat.le_refl _, Nat.le_refl _, HRK.out.grown (gr_drewN _ 1 none) (by simp) (by simp)⟩
      · intro a' w' hdf hgr hfar hall ⟨k9, hk9, p9, j1, j2, j3⟩
        have hk8 : k9 ≤ 2 := hk9
        obtain ⟨x, e2, hx⟩ : ∃ x, a'.tmps.getD 2 undef = .string x ∧ x.size ≤ 320 := hall 14 _ 2 rfl rfl
        have e2' : a'.tmps[2]?.getD undef = .string x := by rw [← e2]; simp
        go_wp2_with fail
        refine bodyPost_ret (v := .string x) (by simp [results, Tryz.results42, go_sem, e2']) hdf ?_
        exact ⟨x, rfl, by omega, HGK.out.trans hgr⟩
      refine ⟨?_, ?_, ?_, ?_, ?_, ?_, ?_, ?_, ?_, ?_, ?_, ?_, ?_, ?_, ?_, trivial⟩
      · intro a' w' k hdf hgr hfar hdep hJ hk
        have hkk : k ≤ 2 := by have h9 : spentAll cost7 15 = 2 := rfl; exact Nat.le_trans (Nat.le_add_right _ _) (h9 ▸ hk)
        have e3 : a'.tmps.getD 3 undef = .string s := hfar 3 (by kernel_rfl)
        go_simp
        exact ⟨_, rfl, gr_refl _ _, rfl, hJ⟩
      · intro a' w' k hdf hgr hfar hdep hJ hk
        have hkk : k ≤ 2 := by have h9 : spentAll cost7 15 = 2 := rfl; exact Nat.le_trans (Nat.le_add_right _ _) (h9 ▸ hk)
        have e4 : a'.tmps.getD 5 undef = .int .i64 i := hfar 5 (by kernel_rfl)
        go_simp
        exact ⟨_, rfl, gr_refl _ _, rfl, hJ⟩
      · intro a' w' k hdf hgr hfar hdep hJ hk
        have hkk : k ≤ 2 := by have h9 : spentAll cost7 15 = 2 := rfl; exact Nat.le_trans (Nat.le_add_right _ _) (h9 ▸ hk)
        have e29 : a'.tmps.getD 22 undef = .string s := hdep 0 _ 22 (by kernel_rfl) rfl rfl
        have e30 : a'.tmps.getD 23 undef = .int .i64 i := hdep 1 _ 23 (by kernel_rfl) rfl rfl
        have q1 : i ≤ ss := by omega
        go_simp
        exact ⟨_, rfl, gr_refl _ _, ⟨_, rfl, by simp only [ByteArray.size_extract]; omega⟩, hJ⟩
      · intro a' w' k hdf hgr hfar hdep hJ hk
        have hkk : k ≤ 2 := by have h9 : spentAll cost7 15 = 2 := rfl; exact Nat.le_trans (Nat.le_add_right _ _) (h9 ▸ hk)
        have e0 : a'.tmps.getD 0 undef = .pointer (some ⟨g, 0, none⟩) := hfar 0 (by kernel_rfl)
        go_simp
        exact ⟨_, rfl, gr_refl _ _, rfl, hJ⟩
      · intro a' w' k hdf hgr hfar hdep hJ hk
        have hkk : k ≤ 2 := by have h9 : spentAll cost7 15 = 2 := rfl; exact Nat.le_trans (Nat.le_add_right _ _) (h9 ▸ hk)
        go_simp
        obtain ⟨p9, j1, j2, j3⟩ := hJ
        exact ⟨_, rfl, gr_someG (World.grownBy_alloc _ _ none), ⟨w'.heap.size, rfl, strs_new w' s7M _, by have := j3.lt; omega⟩, ⟨p9, j1, j2, j3.grown (World.grownBy_alloc _ _ none) (by simp) (by simp)⟩⟩
      · intro a' w' k hdf hgr hfar hdep hJ hk
        have hkk : k ≤ 2 := by have h9 : spentAll cost7 15 = 2 := rfl; exact Nat.le_trans (Nat.le_add_right _ _) (h9 ▸ hk)
        have e32 : a'.tmps.getD 25 undef = .pointer (some ⟨g, 0, none⟩) := hdep 3 _ 25 (by kernel_rfl) rfl rfl
        obtain ⟨B, e33, hB, hBg⟩ : ∃ B, a'.tmps.getD 26 undef = .slice (some ⟨B, 0, none⟩) 7 7 ∧ Strs w' (some ⟨B, 0, none⟩) s7M ∧ B ≠ g := hdep 4 _ 26 (by kernel_rfl) rfl rfl
        obtain ⟨p9, j1, j2, j3⟩ := hJ
        go_simp
        refine (oftxt_any g n c p9 A _ 7 s7M w' j3 hB (fun b off e => by cases e; exact hBg) (by omega) hn2 (by decide) (by decide)).mono ?_
        rintro e w2 ⟨x, rfl, hx, hr, hg⟩
        exact ⟨_, rfl, hg, ⟨x, rfl, s7m_size x hx⟩, ⟨p9 + 1, by omega, by simp only [cost7]; omega, hr⟩⟩
      · intro a' w' k hdf hgr hfar hdep hJ hk
        have hkk : k ≤ 2 := by have h9 : spentAll cost7 15 = 2 := rfl; exact Nat.le_trans (Nat.le_add_right _ _) (h9 ▸ hk)
        obtain ⟨x, e31, hx⟩ : ∃ x, a'.tmps.getD 24 undef = .string x ∧ x.size ≤ 159 := hdep 2 _ 24 (by kernel_rfl) rfl rfl
        obtain ⟨y, e34, hy⟩ : ∃ x, a'.tmps.getD 27 undef = .string x ∧ x.size ≤ 2 := hdep 5 _ 27 (by kernel_rfl) rfl rfl
        have q1 : ¬ 9223372036854775807 < x.size + y.size := by omega
        go_simp
        exact ⟨_, rfl, gr_refl _ _, ⟨_, rfl, by simp only [ByteArray.size_append]; omega⟩, hJ⟩
      · intro a' w' k hdf hgr hfar hdep hJ hk
        have hkk : k ≤ 2 := by have h9 : spentAll cost7 15 = 2 := rfl; exact Nat.le_trans (Nat.le_add_right _ _) (h9 ▸ hk)
        have e3 : a'.tmps.getD 3 undef = .string s := hfar 3 (by kernel_rfl)
        go_simp
        exact ⟨_, rfl, gr_refl _ _, rfl, hJ⟩
      · intro a' w' k hdf hgr hfar hdep hJ hk
        have hkk : k ≤ 2 := by have h9 : spentAll cost7 15 = 2 := rfl; exact Nat.le_trans (Nat.le_add_right _ _) (h9 ▸ hk)
        have e4 : a'.tmps.getD 5 undef = .int .i64 i := hfar 5 (by kernel_rfl)
        go_simp
        exact ⟨_, rfl, gr_refl _ _, rfl, hJ⟩
      · intro a' w' k hdf hgr hfar hdep hJ hk
        have hkk : k ≤ 2 := by have h9 : spentAll cost7 15 = 2 := rfl; exact Nat.le_trans (Nat.le_add_right _ _) (h9 ▸ hk)
        have e0 : a'.tmps.getD 0 undef = .pointer (some ⟨g, 0, none⟩) := hfar 0 (by kernel_rfl)
        go_simp
        exact ⟨_, rfl, gr_refl _ _, rfl, hJ⟩
      · intro a' w' k hdf hgr hfar hdep hJ hk
        have hkk : k ≤ 2 := by have h9 : spentAll cost7 15 = 2 := rfl; exact Nat.le_trans (Nat.le_add_right _ _) (h9 ▸ hk)
        have e38 : a'.tmps.getD 31 undef = .pointer (some ⟨g, 0, none⟩) := hdep 9 _ 31 (by kernel_rfl) rfl rfl
        obtain ⟨p9, j1, j2, j3⟩ := hJ
        go_simp
        refine (pick_any g n c p9 A 2 w' j3 (by omega) hn2 (by omega) (by omega)).mono ?_
        rintro e w2 ⟨x, rfl, hx0, hx1, hr, hg⟩
        exact ⟨_, rfl, hg, ⟨x, rfl, hx0, hx1⟩, ⟨p9 + 1, by omega, by simp only [cost7]; omega, hr⟩⟩
      · intro a' w' k hdf hgr hfar hdep hJ hk
        have hkk : k ≤ 2 := by have h9 : spentAll cost7 15 = 2 := rfl; exact Nat.le_trans (Nat.le_add_right _ _) (h9 ▸ hk)
        have e37 : a'.tmps.getD 30 undef = .int .i64 i := hdep 8 _ 30 (by kernel_rfl) rfl rfl
        obtain ⟨x, e39, hx0, hx1⟩ : ∃ x, a'.tmps.getD 32 undef = .int .i64 x ∧ 0 ≤ x ∧ x < 2 := hdep 10 _ 32 (by kernel_rfl) rfl rfl
        have q1 : IntKind.i64.wrap ((i : Int) + x) = (i : Int) + x := IntWalk.i64_in _ (by omega)
        go_simp
        exact ⟨_, rfl, gr_refl _ _, ⟨x, rfl, hx0, hx1⟩, hJ⟩
      · intro a' w' k hdf hgr hfar hdep hJ hk
        have hkk : k ≤ 2 := by have h9 : spentAll cost7 15 = 2 := rfl; exact Nat.le_trans (Nat.le_add_right _ _) (h9 ▸ hk)
        have e36 : a'.tmps.getD 29 undef = .string s := hdep 7 _ 29 (by kernel_rfl) rfl rfl
        obtain ⟨x, e40, hx0, hx1⟩ : ∃ x, a'.tmps.getD 33 undef = .int .i64 ((i : Int) + x) ∧ 0 ≤ x ∧ x < 2 := hdep 11 _ 33 (by kernel_rfl) rfl rfl
        obtain ⟨j, rfl⟩ : ∃ j : Nat, x = (j : Int) := ⟨x.toNat, by omega⟩
        have q1 : 0 ≤ (i : Int) + (j : Int) ∧ (i : Int) + (j : Int) ≤ (ss : Int) := by omega
        go_simp
        exact ⟨_, rfl, gr_refl _ _, ⟨_, rfl, by simp only [ByteArray.size_extract]; omega⟩, hJ⟩
      · intro a' w' k hdf hgr hfar hdep hJ hk
        have hkk : k ≤ 2 := by have h9 : spentAll cost7 15 = 2 := rfl; exact Nat.le_trans (Nat.le_add_right _ _) (h9 ▸ hk)
        obtain ⟨x, e35, hx⟩ : ∃ x, a'.tmps.getD 28 undef = .string x ∧ x.size ≤ 161 := hdep 6 _ 28 (by kernel_rfl) rfl rfl
        obtain ⟨y, e41, hy⟩ : ∃ x, a'.tmps.getD 34 undef = .string x ∧ x.size ≤ 159 := hdep 12 _ 34 (by kernel_rfl) rfl rfl
        have q1 : ¬ 9223372036854775807 < x.size + y.size := by omega
        go_simp
        exact ⟨_, rfl, gr_refl _ _, ⟨_, rfl, by simp only [ByteArray.size_append]; omega⟩, hJ⟩
      · intro a' w' k hdf hgr hfar hdep hJ hk
        have hkk : k ≤ 2 := by have h9 : spentAll cost7 15 = 2 := rfl; exact Nat.le_trans (Nat.le_add_right _ _) (h9 ▸ hk)
        obtain ⟨x, e42, hx⟩ : ∃ x, a'.tmps.getD 35 undef = .string x ∧ x.size ≤ 320 := hdep 13 _ 35 (by kernel_rfl) rfl rfl
        go_simp
        exact ⟨_, rfl, gr_refl _ _, ⟨x, rfl, hx⟩, hJ⟩
  | some t =>
    have hF := codF hrd
    obtain ⟨s, hsA⟩ : ∃ z, mkB (codeL t) = z := ⟨_, rfl⟩
    rw [hsA] at hF
    have hs1 : 1 ≤ s.size := by
      rw [← hsA, mkB_size]
      exact List.length_pos_iff.2 (codeL_ne t)
    have hs2 := hF.short
    rw [hF.code] at HCO
    simp only at HCO
    clear hrd hF hsA
    go_wp2_with fail
    refine HCO.out.mono ?_
    rintro e w6 ⟨rfl, hg6⟩
    have HR6 := Lib.hid (HR1.out.grown hg6 (by simp) (by simp))
    have HG6 := Lib.hid (HG1.out.trans (gr_someG hg6))
    clear hg6
    have H18 := Lib.hid (pick_any g n c p1 A 10 w6 HR6.out (by omega) hn2 (by omega) (by omega))
    go_wp2_with fail
    refine H18.out.mono ?_
    rintro e w8 ⟨x8, rfl, hx80, hx81, hr8, hg8⟩
    have HR8 := Lib.hid hr8
    have HG8 := Lib.hid (HG6.out.trans hg8)
    clear hr8 hg8 H18
    by_cases hx8 : 0 < x8
    · go_wp2_with fail
      go_ret
      exact ⟨s, rfl, by omega, HG8.out⟩
    · obtain ⟨ss, hss⟩ : ∃ q, s.size = q := ⟨_, rfl⟩
      have HSS := Lib.hid hss
      have hss1 : 1 ≤ ss ∧ ss ≤ 159 := by omega
      have HLEN := Lib.hid (pick_any g n c (p1 + 1) A ss w8 HR8.out (by omega) hn2 (by omega) (by omega))
      clear hs1 hs2
      go_wp2_with fail
      refine HLEN.out.mono ?_
      rintro e w9 ⟨x9, rfl, hx90, hx91, hr9, hg9⟩
      obtain ⟨i, rfl⟩ : ∃ i : Nat, x9 = (i : Int) := ⟨x9.toNat, by omega⟩
      have HRK := Lib.hid hr9
      have HGK := Lib.hid (HG8.out.trans hg9)
      clear hr9 hg9
      go_wp2_with fail
      refine wp_region_jsteps (u := w9) 36 rfl (by kernel_rfl) (fun w w' => w.grownBy w' (some g)) (sS g i s) cost7 (fun k w => ∃ p', (p1 + 1 + 1) ≤ p' ∧ p' ≤ (p1 + 1 + 1) + k ∧ Rd13 w g A n c p') (by kernel_rfl) (fun _ _ _ h1 h2 => h1.trans h2) (fun j v w w' h hg => sS_mono h hg) ?_ ?_ _ (gr_drewN _ _ _) ⟨(p1 + 1 + 1), Nat.le_refl _, Nat.le_refl _, HRK.out.grown (gr_drewN _ 1 none) (by simp) (by simp)⟩
      · intro a' w' hdf hgr hfar hall ⟨k9, hk9, p9, j1, j2, j3⟩
        have hk8 : k9 ≤ 2 := hk9
        obtain ⟨x, e2, hx⟩ : ∃ x, a'.tmps.getD 2 undef = .string x ∧ x.size ≤ 320 := hall 14 _ 2 rfl rfl
        have e2' : a'.tmps[2]?.getD undef = .string x := by rw [← e2]; simp
        go_wp2_with fail
        refine bodyPost_ret (v := .string x) (by simp [results, Tryz.results42, go_sem, e2']) hdf ?_
        exact ⟨x, rfl, by omega, HGK.out.trans hgr⟩
      refine ⟨?_, ?_, ?_, ?_, ?_, ?_, ?_, ?_, ?_, ?_, ?_, ?_, ?_, ?_, ?_, trivial⟩
      · intro a' w' k hdf hgr hfar hdep hJ hk
        have hkk : k ≤ 2 := by have h9 : spentAll cost7 15 = 2 := rfl; exact Nat.le_trans (Nat.le_add_right _ _) (h9 ▸ hk)
        have e3 : a'.tmps.getD 3 undef = .string s := hfar 3 (by kernel_rfl)
        go_simp
        exact ⟨_, rfl, gr_refl _ _, rfl, hJ⟩
      · intro a' w' k hdf hgr hfar hdep hJ hk
        have hkk : k ≤ 2 := by have h9 : spentAll cost7 15 = 2 := rfl; exact Nat.le_trans (Nat.le_add_right _ _) (h9 ▸ hk)
        have e4 : a'.tmps.getD 5 undef = .int .i64 i := hfar 5 (by kernel_rfl)
        go_simp
        exact ⟨_, rfl, gr_refl _ _, rfl, hJ⟩
      · intro a' w' k hdf hgr hfar hdep hJ hk
        have hkk : k ≤ 2 := by have h9 : spentAll cost7 15 = 2 := rfl; exact Nat.le_trans (Nat.le_add_right _ _) (h9 ▸ hk)
        have e29 : a'.tmps.getD 22 undef = .string s := hdep 0 _ 22 (by kernel_rfl) rfl rfl
        have e30 : a'.tmps.getD 23 undef = .int .i64 i := hdep 1 _ 23 (by kernel_rfl) rfl rfl
        have q1 : i ≤ ss := by omega
        go_simp
        exact ⟨_, rfl, gr_refl _ _, ⟨_, rfl, by simp only [ByteArray.size_extract]; omega⟩, hJ⟩
      · intro a' w' k hdf hgr hfar hdep hJ hk
        have hkk : k ≤ 2 := by have h9 : spentAll cost7 15 = 2 := rfl; exact Nat.le_trans (Nat.le_add_right _ _) (h9 ▸ hk)
        have e0 : a'.tmps.getD 0 undef = .pointer (some ⟨g, 0, none⟩) := hfar 0 (by kernel_rfl)
        go_simp
        exact ⟨_, rfl, gr_refl _ _, rfl, hJ⟩
      · intro a' w' k hdf hgr hfar hdep hJ hk
        have hkk : k ≤ 2 := by have h9 : spentAll cost7 15 = 2 := rfl; exact Nat.le_trans (Nat.le_add_right _ _) (h9 ▸ hk)
        go_simp
        obtain ⟨p9, j1, j2, j3⟩ := hJ
        exact ⟨_, rfl, gr_someG (World.grownBy_alloc _ _ none), ⟨w'.heap.size, rfl, strs_new w' s7M _, by have := j3.lt; omega⟩, ⟨p9, j1, j2, j3.grown (World.grownBy_alloc _ _ none) (by simp) (by simp)⟩⟩
      · intro a' w' k hdf hgr hfar hdep hJ hk
        have hkk : k ≤ 2 := by have h9 : spentAll cost7 15 = 2 := rfl; exact Nat.le_trans (Nat.le_add_right _ _) (h9 ▸ hk)
        have e32 : a'.tmps.getD 25 undef = .pointer (some ⟨g, 0, none⟩) := hdep 3 _ 25 (by kernel_rfl) rfl rfl
        obtain ⟨B, e33, hB, hBg⟩ : ∃ B, a'.tmps.getD 26 undef = .slice (some ⟨B, 0, none⟩) 7 7 ∧ Strs w' (some ⟨B, 0, none⟩) s7M ∧ B ≠ g := hdep 4 _ 26 (by kernel_rfl) rfl rfl
        obtain ⟨p9, j1, j2, j3⟩ := hJ
        go_simp
        refine (oftxt_any g n c p9 A _ 7 s7M w' j3 hB (fun b off e => by cases e; exact hBg) (by omega) hn2 (by decide) (by decide)).mono ?_
        rintro e w2 ⟨x, rfl, hx, hr, hg⟩
        exact ⟨_, rfl, hg, ⟨x, rfl, s7m_size x hx⟩, ⟨p9 + 1, by omega, by simp only [cost7]; omega, hr⟩⟩
      · intro a' w' k hdf hgr hfar hdep hJ hk
        have hkk : k ≤ 2 := by have h9 : spentAll cost7 15 = 2 := rfl; exact Nat.le_trans (Nat.le_add_right _ _) (h9 ▸ hk)
        obtain ⟨x, e31, hx⟩ : ∃ x, a'.tmps.getD 24 undef = .string x ∧ x.size ≤ 159 := hdep 2 _ 24 (by kernel_rfl) rfl rfl
        obtain ⟨y, e34, hy⟩ : ∃ x, a'.tmps.getD 27 undef = .string x ∧ x.size ≤ 2 := hdep 5 _ 27 (by kernel_rfl) rfl rfl
        have q1 : ¬ 9223372036854775807 < x.size + y.size := by omega
        go_simp
        exact ⟨_, rfl, gr_refl _ _, ⟨_, rfl, by simp only [ByteArray.size_append]; omega⟩, hJ⟩
      · intro a' w' k hdf hgr hfar hdep hJ hk
        have hkk : k ≤ 2 := by have h9 : spentAll cost7 15 = 2 := rfl; exact Nat.le_trans (Nat.le_add_right _ _) (h9 ▸ hk)
        have e3 : a'.tmps.getD 3 undef = .string s := hfar 3 (by kernel_rfl)
        go_simp
        exact ⟨_, rfl, gr_refl _ _, rfl, hJ⟩
      · intro a' w' k hdf hgr hfar hdep hJ hk
        have hkk : k ≤ 2 := by have h9 : spentAll cost7 15 = 2 := rfl; exact Nat.le_trans (Nat.le_add_right _ _) (h9 ▸ hk)
        have e4 : a'.tmps.getD 5 undef = .int .i64 i := hfar 5 (by kernel_rfl)
        go_simp
        exact ⟨_, rfl, gr_refl _ _, rfl, hJ⟩
      · intro a' w' k hdf hgr hfar hdep hJ hk
        have hkk : k ≤ 2 := by have h9 : spentAll cost7 15 = 2 := rfl; exact Nat.le_trans (Nat.le_add_right _ _) (h9 ▸ hk)
        have e0 : a'.tmps.getD 0 undef = .pointer (some ⟨g, 0, none⟩) := hfar 0 (by kernel_rfl)
        go_simp
        exact ⟨_, rfl, gr_refl _ _, rfl, hJ⟩
      · intro a' w' k hdf hgr hfar hdep hJ hk
        have hkk : k ≤ 2 := by have h9 : spentAll cost7 15 = 2 := rfl; exact Nat.le_trans (Nat.le_add_right _ _) (h9 ▸ hk)
        have e38 : a'.tmps.getD 31 undef = .pointer (some ⟨g, 0, none⟩) := hdep 9 _ 31 (by kernel_rfl) rfl rfl
        obtain ⟨p9, j1, j2, j3⟩ := hJ
        go_simp
        refine (pick_any g n c p9 A 2 w' j3 (by omega) hn2 (by omega) (by omega)).mono ?_
        rintro e w2 ⟨x, rfl, hx0, hx1, hr, hg⟩
        exact ⟨_, rfl, hg, ⟨x, rfl, hx0, hx1⟩, ⟨p9 + 1, by omega, by simp only [cost7]; omega, hr⟩⟩
      · intro a' w' k hdf hgr hfar hdep hJ hk
        have hkk : k ≤ 2 := by have h9 : spentAll cost7 15 = 2 := rfl; exact Nat.le_trans (Nat.le_add_right _ _) (h9 ▸ hk)
        have e37 : a'.tmps.getD 30 undef = .int .i64 i := hdep 8 _ 30 (by kernel_rfl) rfl rfl
        obtain ⟨x, e39, hx0, hx1⟩ : ∃ x, a'.tmps.getD 32 undef = .int .i64 x ∧ 0 ≤ x ∧ x < 2 := hdep 10 _ 32 (by kernel_rfl) rfl rfl
        have q1 : IntKind.i64.wrap ((i : Int) + x) = (i : Int) + x := IntWalk.i64_in _ (by omega)
        go_simp
        exact ⟨_, rfl, gr_refl _ _, ⟨x, rfl, hx0, hx1⟩, hJ⟩
      · intro a' w' k hdf hgr hfar hdep hJ hk
        have hkk : k ≤ 2 := by have h9 : spentAll cost7 15 = 2 := rfl; exact Nat.le_trans (Nat.le_add_right _ _) (h9 ▸ hk)
        have e36 : a'.tmps.getD 29 undef = .string s := hdep 7 _ 29 (by kernel_rfl) rfl rfl
        obtain ⟨x, e40, hx0, hx1⟩ : ∃ x, a'.tmps.getD 33 undef = .int .i64 ((i : Int) + x) ∧ 0 ≤ x ∧ x < 2 := hdep 11 _ 33 (by kernel_rfl) rfl rfl
        obtain ⟨j, rfl⟩ : ∃ j : Nat, x = (j : Int) := ⟨x.toNat, by omega⟩
        have q1 : 0 ≤ (i : Int) + (j : Int) ∧ (i : Int) + (j : Int) ≤ (ss : Int) := by omega
        go_simp
        exact ⟨_, rfl, gr_refl _ _, ⟨_, rfl, by simp only [ByteArray.size_extract]; omega⟩, hJ⟩
      · intro a' w' k hdf hgr hfar hdep hJ hk
        have hkk : k ≤ 2 := by have h9 : spentAll cost7 15 = 2 := rfl; exact Nat.le_trans (Nat.le_add_right _ _) (h9 ▸ hk)
        obtain ⟨x, e35, hx⟩ : ∃ x, a'.tmps.getD 28 undef = .string x ∧ x.size ≤ 161 := hdep 6 _ 28 (by kernel_rfl) rfl rfl
        obtain ⟨y, e41, hy⟩ : ∃ x, a'.tmps.getD 34 undef = .string x ∧ x.size ≤ 159 := hdep 12 _ 34 (by kernel_rfl) rfl rfl
        have q1 : ¬ 9223372036854775807 < x.size + y.size := by omega
        go_simp
        exact ⟨_, rfl, gr_refl _ _, ⟨_, rfl, by simp only [ByteArray.size_append]; omega⟩, hJ⟩
      · intro a' w' k hdf hgr hfar hdep hJ hk
        have hkk : k ≤ 2 := by have h9 : spentAll cost7 15 = 2 := rfl; exact Nat.le_trans (Nat.le_add_right _ _) (h9 ▸ hk)
        obtain ⟨x, e42, hx⟩ : ∃ x, a'.tmps.getD 35 undef = .string x ∧ x.size ≤ 320 := hdep 13 _ 35 (by kernel_rfl) rfl rfl
        go_simp
        exact ⟨_, rfl, gr_refl _ _, ⟨x, rfl, hx⟩, hJ⟩

/-- How a drawn text comes. -/
def TxtQ (w : World) (e : Ending) (w' : World) : Prop := ∃ s, e = .returned (.string s) ∧ s.size ≤ 320 ∧ w.grownBy w' none

theorem drawTermOf_any (A : Option Addr) (n c : Nat) (w : World) (h : Byts w A n) (hc : n ≤ c) (hn : n ≤ 9223372036854775807) :
    Calls Tryz.prog 16 #[.slice A n c] w (TxtQ w) := by
  have HO := Lib.hid (open_anyT A n c w h hc hn)
  clear h hc hn
  go_enter Tryz.func16, Tryz.ntmps16
  go_wp2_with fail
  refine HO.out.mono ?_
  rintro e w1 ⟨rfl, ⟨n', c', hn', hr, _⟩, hg⟩
  have HS := Lib.hid (some7_any w.heap.size n' c' A w1 hr hn')
  have HG := Lib.hid hg
  clear hr hg
  go_wp2_with fail
  refine HS.out.mono ?_
  rintro e w2 ⟨s, rfl, hs, hg2⟩
  have HG2 := Lib.hid (gr_row5 HG.out hg2 (fun k e => by cases e; exact Nat.le_refl _))
  clear hg2
  go_wp2_with fail
  go_ret
  exact ⟨s, rfl, hs, HG2.out⟩

theorem drawHeightsOf_any (A : Option Addr) (n c : Nat) (w : World) (h : Byts w A n) (hc : n ≤ c) (hn : n ≤ 9223372036854775807) :
    Calls Tryz.prog 22 #[.slice A n c] w (TxtQ w) := by
  have HO := Lib.hid (open_anyT A n c w h hc hn)
  clear h hc hn
  go_enter Tryz.func22, Tryz.ntmps22
  go_wp2_with fail
  refine HO.out.mono ?_
  rintro e w1 ⟨rfl, ⟨n', c', hn', hr, _⟩, hg⟩
  have HS := Lib.hid (some7_any w.heap.size n' c' A w1 hr hn')
  have HG := Lib.hid hg
  clear hr hg
  go_wp2_with fail
  refine HS.out.mono ?_
  rintro e w2 ⟨s, rfl, hs, hg2⟩
  have HG2 := Lib.hid (gr_row5 HG.out hg2 (fun k e => by cases e; exact Nat.le_refl _))
  clear hg2
  go_wp2_with fail
  go_ret
  exact ⟨s, rfl, hs, HG2.out⟩

theorem strs_own7 {w : World} {B : Nat} {u : Value} {ss : List ByteArray} (h : OwnS w B u ss) : ∃ A c, u = .slice A ss.length c ∧ Strs w A ss := by
  obtain ⟨A, c, rfl⟩ := h.form
  obtain ⟨_, hc⟩ := h.cells
  refine ⟨A, c, rfl, fun hl => ?_⟩
  obtain ⟨g, rfl, hg, _⟩ := hc 0 _ (List.getElem?_eq_getElem hl)
  refine ⟨g, 0, rfl, hg, fun j s hj => ?_⟩
  obtain ⟨g2, e, _, h2, _⟩ := hc j s hj
  cases e
  rw [Nat.zero_add]
  exact h2
end

/-! SameZ -/
section
open Go.RowKit

set_option maxHeartbeats 1000000 in
theorem same_any (A B : Option Addr) (c d : Nat) (zs : List Int) (w : World) (h : Ints w A zs) (h2 : Ints w B zs) (hn : zs.length ≤ 1048576) :
    Calls Tryz.prog 27 #[.slice A zs.length c, .slice B zs.length d] w fun e w' => e = .returned (.bool true) ∧ ∃ m, w' = w.drewN m := by
  have HS := Lib.hid h
  have HS2 := Lib.hid h2
  obtain ⟨n, hnn⟩ : ∃ n, zs.length = n := ⟨_, rfl⟩
  have HN := Lib.hid hnn
  rw [hnn] at hn ⊢
  clear h h2 hnn
  have hnn : ((n : Int) == (n : Int)) = true := by simp
  go_enter Tryz.func27, Tryz.ntmps27
  go_wp2_with fail
  go_loopw [11] (fun i wr => ∃ j : Nat, j ≤ n ∧ i = .int .i64 j ∧ Hid (∃ m, wr = w.drewN m)) (fun i _ => n - (intOf i).toNat)
  case atStart => exact ⟨0, Nat.zero_le _, rfl, Lib.hid ⟨0, rfl⟩⟩
  case round =>
    obtain ⟨j, hj, rfl, hgr⟩ := hrel
    have hgr2 : w.grownBy wr none := by obtain ⟨m, rfl⟩ := hgr.out; exact gr_drewN _ _ _
    have HGR := Lib.hid hgr2
    clear hgr2
    by_cases hlt : j < n
    · have hjz : j < zs.length := by have := HN.out; omega
      obtain ⟨b, off, rfl, hcell⟩ := (HS.out.grown HGR.out (by simp)).at_ hjz
      obtain ⟨b2, off2, rfl, hcell2⟩ := (HS2.out.grown HGR.out (by simp)).at_ hjz
      generalize zs[j] = z at hcell hcell2
      have hj0 : (0 : Int) ≤ (j : Int) := by omega
      have hj1 : (j : Int) < (n : Int) := by omega
      have hzz : (z != z) = false := by simp
      go_wp2_with fail
      go_quiet (fail)
      go_wp2_with fail
      go_roundw
      case rel => exact ⟨j + 1, by omega, by go_num, Lib.hid (by obtain ⟨m, rfl⟩ := hgr.out; exact ⟨m + _, World.drewN_drewN _ _ _⟩)⟩
      case measure => simp [intOf]; omega
    · go_wp2_with fail
      go_ret
      exact ⟨rfl, hgr.out⟩
end

/-! HtsB -/
section
open Go.RowKit

set_option maxRecDepth 100000 in
set_option maxHeartbeats 4000000 in
theorem levels_any (base : Nat) (A : Option Addr) (k c : Nat) (ty : TypeId) (pv : Value) (xs : List ByteArray) (w : World) (h : w.ownsRow base 66 3 (.slice A k c) xs.length (flatI xs)) (hl : xs.length ≤ 1000) :
    Calls Tryz.prog 48 #[.agg #[.slice A k c, .iface ty pv]] w (RowP (lvsG 0 xs) w) := by
  obtain ⟨hk, hkc, hrow⟩ := irow3 h
  have HK := Lib.hid hk
  have hk2 : k ≤ 1000 := by omega
  have HROW := Lib.hid hrow
  have hmk := makeH_run k (by omega)
  obtain ⟨w1, hw1⟩ : ∃ z, w.alloc (.cells #[.slice A k c, .iface ty pv] 59) = z := ⟨_, rfl⟩
  have g1 : w.grownBy w1 none := by rw [← hw1]; exact World.grownBy_alloc _ _ _
  have hx : Pr w1 w.heap.size 59 (.slice A k c) (.iface ty pv) := by rw [← hw1]; exact Pr.new _ _ _ _
  have x0 := hx.c0
  have hx2 := hx.alloc (.cells (madeCells #[.int .i64 0] k) 3)
  have y0 := hx2.c0
  have HO := Lib.hid (own_base (madeH_own w1 k (by omega)) g1.size)
  have HG1 := Lib.hid (g1.trans (World.grownBy_alloc w1 (.cells (madeCells #[.int .i64 0] k) 3) none))
  clear h hk hrow g1 hx hx2
  go_enter Tryz.func48, Tryz.ntmps48
  go_wp2_with fail
  go_loopw [3, 14] (fun u i wr => ∃ (j : Nat) (hh : Int) (ys : List Value), j ≤ k ∧ i = .int .i64 j ∧ u = .int .i64 hh ∧ -1000 ≤ hh ∧ hh ≤ 1000 ∧ Hid (hh = lAt 0 (xs.take j)) ∧ Hid (wr.ownsRow w.heap.size 3 1 (.slice (some ⟨w1.heap.size, 0, none⟩) k k) k ys) ∧ Hid (ys.take j = inV (lvsG 0 (xs.take j))) ∧ Hid (w.grownBy wr none)) (fun _ i _ => k - (intOf i).toNat)
  case atStart => exact ⟨0, 0, _, Nat.zero_le _, rfl, rfl, by omega, by omega, Lib.hid (by simp [lAt]), HO, Lib.hid (by simp [lvsG, inV]), HG1⟩
  case round =>
    obtain ⟨j, hh, ys, hj, rfl, rfl, hlo, hhi, hhA, hown, hyt, hgr⟩ := hrel
    by_cases hlt : j < k
    · obtain ⟨g, rfl, hg1, hcell⟩ := HROW.out (by omega)
      obtain ⟨x, hx⟩ : ∃ x, xs[j]? = some x := ⟨_, List.getElem?_eq_getElem (by have := HK.out; omega)⟩
      obtain ⟨q0, q1, q2⟩ := hcell j x hx
      have c0 := hgr.out.cell q0 (by simp)
      have c1 := hgr.out.cell q1 (by simp)
      have c2 := hgr.out.cell q2 (by simp)
      have HTK := Lib.hid (take_snocH hx)
      have hbd := lb2_bd (ri3 x).1 hh
      have HH2 : Hid (lb2 (ri3 x).1 hh = lAt 0 (xs.take (j + 1))) := Lib.hid (by rw [HTK.out, lAt_snoc, ← hhA.out])
      have hbd2 := lAt_bd 0 (xs.take (j + 1))
      rw [← HH2.out] at hbd2
      have HS2 : Hid (lvsG 0 (xs.take (j + 1)) = lvsG 0 (xs.take j) ++ [lk (ri3 x).1 hh]) := Lib.hid (by rw [HTK.out, lvsG_snoc, ← hhA.out])
      obtain ⟨kk, hkk⟩ : ∃ q, (ri3 x).1 = q := ⟨_, rfl⟩
      obtain ⟨sg, hsg⟩ : ∃ q, (ri3 x).2.1 = q := ⟨_, rfl⟩
      obtain ⟨vr, hvr⟩ : ∃ q, (ri3 x).2.2 = q := ⟨_, rfl⟩
      rw [hkk] at c0 hbd HH2 hbd2 HS2
      rw [hsg] at c1
      rw [hvr] at c2
      have hlen : (xs.take (j + 1)).length ≤ 1000 := by rw [List.length_take]; omega
      have hb1 : -1000 ≤ lb2 kk hh := by omega
      have hb2 : lb2 kk hh ≤ 1000 := by omega
      have ww : IntKind.i64.wrap (hh - 1) = hh - 1 := IntWalk.i64_in _ (by omega)
      have ww2 : IntKind.i64.wrap (hh + 1) = hh + 1 := IntWalk.i64_in _ (by omega)
      have hyl : ys.length = k := by have := hown.out.1; omega
      obtain ⟨y0v, hy0⟩ : ∃ y, ys[j]? = some y := ⟨_, List.getElem?_eq_getElem (by omega)⟩
      have HYL := Lib.hid hyl
      have hx3 := c3_new wr (.int .i64 kk) (.int .u8 sg) (.int .u8 vr) 66
      have t0 := hx3.c0
      have hg2 := World.grownBy_alloc wr (.cells #[.int .i64 kk, .int .u8 sg, .int .u8 vr] 66) none
      have hown2 := own_keep hown.out (fun b hb => hg2.block b (hown.out.lt b hb).2 (by simp))
      have hcell3 : (wr.alloc (.cells #[.int .i64 kk, .int .u8 sg, .int .u8 vr] 66)).cell? ⟨w1.heap.size, j, none⟩ = some y0v := by have := (hown2.cellAt j (by omega)).trans hy0; simpa using this
      have hfr : (wr.alloc (.cells #[.int .i64 kk, .int .u8 sg, .int .u8 vr] 66)).frozen? ⟨w1.heap.size, j, none⟩ = false := by have := hown2.frozenAt j; simpa using this
      have HST := Lib.hid (hown2.stored j (.int .i64 (lk kk hh)))
      have HB := Lib.hid ((hown2.lt _ rfl).1)
      have hbw : w1.heap.size ≠ wr.heap.size := Nat.ne_of_lt (hown.out.lt _ rfl).2
      have HYT : Hid ((ys.set j (.int .i64 (lk kk hh))).take (j + 1) = inV (lvsG 0 (xs.take (j + 1)))) := Lib.hid (by
        rw [take_setH _ _ _ (by rw [HYL.out]; exact hlt), hyt.out, HS2.out, inV_snoc])
      have HG2 := Lib.hid (hgr.out.trans hg2)
      have hx4 := fun u => hx3.grown (gr_set _ w1.heap.size j u) (by simpa using fun e => hbw e.symm)
      have t5 := fun u => (hx4 u).c0
      clear hcell q0 q1 q2 hx hbd hbd2 hkk hsg hvr hlen hyl hy0 x0 y0 hown2 hg2 hx3 hx4
      by_cases h6 : kk = 6
      · subst h6
        have e1 : lk 6 hh = hh - 1 := rfl
        have e2 : lb2 6 hh = hh - 1 := rfl
        rw [e1] at HS2 HST HYT
        rw [e2] at HH2 hb1 hb2
        clear e1 e2
        go_wp2_with fail
        go_roundw
        case rel => exact ⟨j + 1, hh - 1, _, by omega, by go_num, rfl, hb1, hb2, HH2, Lib.hid HST.out.1, HYT, Lib.hid (gr_ownF HG2.out HST.out.2 (fun k e => by cases e; exact HB.out))⟩
        case measure => simp [intOf]; omega
      have h6b : (kk == 6) = false := by simpa using h6
      by_cases h5 : kk = 5
      · subst h5
        have e1 : lk 5 hh = hh := rfl
        have e2 : lb2 5 hh = hh + 1 := rfl
        rw [e1] at HS2 HST HYT
        rw [e2] at HH2 hb1 hb2
        clear e1 e2
        go_wp2_with fail
        go_roundw
        case rel => exact ⟨j + 1, hh + 1, _, by omega, by go_num, rfl, hb1, hb2, HH2, Lib.hid HST.out.1, HYT, Lib.hid (gr_ownF HG2.out HST.out.2 (fun k e => by cases e; exact HB.out))⟩
        case measure => simp [intOf]; omega
      have h5b : (kk == 5) = false := by simpa using h5
      have e1 : lk kk hh = hh := by unfold lk; rw [if_neg h6]
      have e2 : lb2 kk hh = hh := by unfold lb2; rw [if_neg h5, e1]
      rw [e1] at HS2 HST HYT
      rw [e2] at HH2 hb1 hb2
      clear e1 e2
      go_wp2_with fail
      go_roundw
      case rel => exact ⟨j + 1, hh, _, by omega, by go_num, rfl, hb1, hb2, HH2, Lib.hid HST.out.1, HYT, Lib.hid (gr_ownF HG2.out HST.out.2 (fun k e => by cases e; exact HB.out))⟩
      case measure => simp [intOf]; omega
    · have hjk : j = k := by omega
      have HJ := Lib.hid hjk
      clear hjk
      go_wp2_with fail
      go_ret
      have e1 : xs.take j = xs := by rw [HJ.out, HK.out, List.take_length]
      have h3 := hyt.out
      have h4 := hown.out
      rw [e1, HJ.out, List.take_of_length_le (by have := h4.1; omega)] at h3
      rw [h3] at h4
      exact ⟨_, rfl, hgr.out, by rw [lvsG_len, ← HK.out]; exact h4⟩


set_option maxHeartbeats 1000000 in
theorem hts_spec (s : ByteArray) (w : World) : Calls Tryz.prog 25 #[.string s] w fun e w' => ∃ A c, e = .returned (.tuple #[.slice A (htA s).length c, .bool (codeT s).isSome]) ∧ w.grownBy w' none ∧ Ints w' A (htA s) := by
  have H := Lib.hid (bld_any s w)
  cases hc : codeT s with
  | none =>
    have HC := Lib.hid hc
    have HA : Hid (htA s = []) := Lib.hid (by unfold htA; rw [hc])
    clear hc
    go_enter Tryz.func25, Tryz.ntmps25
    go_wp2_with fail
    refine H.out.mono ?_
    intro e w1 hp
    obtain ⟨hg, hp⟩ := hp
    rw [HC.out] at hp
    obtain ⟨hv, lv, rfl, h1, h2⟩ := hp
    obtain ⟨A1, k1, c1, rfl⟩ := own_form h1
    obtain ⟨A2, k2, c2, rfl⟩ := own_form h2
    obtain rfl := own_len h1
    obtain rfl := own_len h2
    have HG := Lib.hid (hg.trans (World.grownBy_alloc w1 (.cells #[.int .u8 0, .int .u8 0, .slice none 0 0] 52) none))
    clear hg h1 h2
    go_wp2_with fail
    go_ret2
    rw [HA.out]
    exact ⟨_, _, rfl, HG.out, fun h => by simp at h⟩
  | some t =>
    have HC := Lib.hid hc
    have HA := Lib.hid (show htA s = _ by unfold htA; rw [hc])
    clear hc
    go_enter Tryz.func25, Tryz.ntmps25
    go_wp2_with fail
    refine H.out.mono ?_
    intro e w1 hp
    obtain ⟨hg, hp⟩ := hp
    rw [HC.out] at hp
    obtain ⟨a, c, A, k, d, hv, lv, rfl, hsn, h1, h2⟩ := hp
    obtain ⟨A1, k1, c1, rfl⟩ := own_form h1
    obtain ⟨A2, k2, c2, rfl⟩ := own_form h2
    obtain rfl := own_len h1
    obtain rfl := own_len h2
    have HI := Lib.hid h1
    have hgn := World.grownBy_alloc w1 (.cells #[.int .u8 a, .int .u8 c, .slice A k d] 52) none
    have HGN := Lib.hid hgn
    have HG := Lib.hid (hg.trans hgn)
    obtain ⟨n, hn⟩ : ∃ n, (cutB s).length = n := ⟨_, rfl⟩
    rw [hn] at HI ⊢
    clear hg h1 h2 hsn hgn hn
    go_wp2_with fail
    go_ret2
    rw [HA.out]
    have hlen := HI.out.1
    simp only [inV, List.length_map, Nat.mul_one] at hlen
    refine ⟨_, _, by rw [hlen]; rfl, HG.out, Ints.grown (Ints.of_own (e := 3) (by rw [hlen]; exact HI.out)) HGN.out (by simp)⟩

set_option maxHeartbeats 1000000 in
theorem hts_impl (s : ByteArray) (w : World) : Calls Tryz.prog 23 #[.string s] w fun e w' => ∃ A c, e = .returned (.tuple #[.slice A (htA s).length c, .bool (codeT s).isSome]) ∧ w.grownBy w' none ∧ w'.ownsRow w.heap.size 3 1 (.slice A (htA s).length c) (htA s).length ((htA s).map (Value.int .i64)) := by
  have H := Lib.hid (readc_any s w)
  cases hc : codeT s with
  | none =>
    have HC := Lib.hid hc
    have HA : Hid (htA s = []) := Lib.hid (by unfold htA; rw [hc])
    clear hc
    go_enter Tryz.func23, Tryz.ntmps23
    go_wp2_with fail
    refine H.out.mono ?_
    intro e w1 hp
    obtain ⟨hg, hp⟩ := hp
    rw [HC.out] at hp
    obtain rfl := hp
    have HG := Lib.hid (hg.trans (World.grownBy_alloc w1 (.cells #[.slice none 0 0, .nilIface] 59) none))
    clear hg
    go_wp2_with fail
    go_ret2
    rw [HA.out]
    exact ⟨none, 0, rfl, HG.out, ⟨rfl, .inl ⟨rfl, rfl⟩⟩⟩
  | some t =>
    have HC := Lib.hid hc
    have HA := Lib.hid (htA_sums hc)
    have HLE := Lib.hid (show (cutB s).length ≤ 1000 by have := cutB_len s; have := (codeT_ran hc).1; omega)
    clear hc
    go_enter Tryz.func23, Tryz.ntmps23
    go_wp2_with fail
    refine H.out.mono ?_
    intro e w1 hp
    obtain ⟨hg, hp⟩ := hp
    rw [HC.out] at hp
    obtain ⟨iv, xv, rfl, h1, h2⟩ := hp
    obtain ⟨A1, k1, c1, rfl⟩ := own_form h1
    obtain ⟨ty, pv, rfl⟩ := h2.iface
    obtain ⟨w2, hw2⟩ : ∃ z, w1.alloc (.cells #[.slice A1 k1 c1, .iface ty pv] 59) = z := ⟨_, rfl⟩
    have g2 : w1.grownBy w2 none := by rw [← hw2]; exact World.grownBy_alloc _ _ _
    have hx : Pr w2 w1.heap.size 59 (.slice A1 k1 c1) (.iface ty pv) := by rw [← hw2]; exact Pr.new _ _ _ _
    have x0 := hx.c0
    have x1 := hx.c1
    have HT := Lib.hid (heights_any w.heap.size A1 k1 c1 ty pv (cutB s) w2 (own_keep h1 (fun g hk => g2.block g (h1.lt g hk).2 (by simp))) HLE.out)
    have HG := Lib.hid (hg.trans g2)
    clear hg h1 h2 g2 hx
    go_wp2_with fail
    refine HT.out.mono ?_
    rintro e w3 ⟨v, rfl, hg3, ho3⟩
    obtain ⟨A3, k3, c3, rfl⟩ := own_form ho3
    obtain rfl := own_len ho3
    have HO3 := Lib.hid (own_base ho3 HG.out.size)
    have HG3 := Lib.hid (HG.out.trans hg3)
    obtain ⟨n, hn⟩ : ∃ n, (sumsG 0 (cutB s)).length = n := ⟨_, rfl⟩
    rw [hn] at HO3 ⊢
    have HN := Lib.hid hn
    clear hg3 ho3 hn
    go_wp2_with fail
    go_ret2
    rw [HA.out, HN.out]
    exact ⟨_, _, rfl, HG3.out, HO3.out⟩

theorem both_hts (s : ByteArray) : ∃ (zs : List Int) (b : Bool), zs.length ≤ 400 ∧
    (∀ w, Calls Tryz.prog 25 #[.string s] w fun e w' => ∃ A c, e = .returned (.tuple #[.slice A zs.length c, .bool b]) ∧ w.grownBy w' none ∧ Ints w' A zs) ∧
    (∀ w, Calls Tryz.prog 23 #[.string s] w fun e w' => ∃ A c, e = .returned (.tuple #[.slice A zs.length c, .bool b]) ∧ w.grownBy w' none ∧
      w'.ownsRow w.heap.size 3 1 (.slice A zs.length c) zs.length (zs.map (Value.int .i64))) :=
  ⟨htA s, (codeT s).isSome, Nat.le_trans (htA_len s) (by omega), hts_spec s, hts_impl s⟩

set_option maxHeartbeats 1000000 in
theorem lvs_spec (s : ByteArray) (w : World) : Calls Tryz.prog 26 #[.string s] w fun e w' => ∃ A c, e = .returned (.tuple #[.slice A (lvA s).length c, .bool (codeT s).isSome]) ∧ w.grownBy w' none ∧ Ints w' A (lvA s) := by
  have H := Lib.hid (bld_any s w)
  cases hc : codeT s with
  | none =>
    have HC := Lib.hid hc
    have HA : Hid (lvA s = []) := Lib.hid (by unfold lvA; rw [hc])
    clear hc
    go_enter Tryz.func26, Tryz.ntmps26
    go_wp2_with fail
    refine H.out.mono ?_
    intro e w1 hp
    obtain ⟨hg, hp⟩ := hp
    rw [HC.out] at hp
    obtain ⟨hv, lv, rfl, h1, h2⟩ := hp
    obtain ⟨A1, k1, c1, rfl⟩ := own_form h1
    obtain ⟨A2, k2, c2, rfl⟩ := own_form h2
    obtain rfl := own_len h1
    obtain rfl := own_len h2
    have HG := Lib.hid (hg.trans (World.grownBy_alloc w1 (.cells #[.int .u8 0, .int .u8 0, .slice none 0 0] 52) none))
    clear hg h1 h2
    go_wp2_with fail
    go_ret2
    rw [HA.out]
    exact ⟨_, _, rfl, HG.out, fun h => by simp at h⟩
  | some t =>
    have HC := Lib.hid hc
    have HA := Lib.hid (show lvA s = _ by unfold lvA; rw [hc])
    clear hc
    go_enter Tryz.func26, Tryz.ntmps26
    go_wp2_with fail
    refine H.out.mono ?_
    intro e w1 hp
    obtain ⟨hg, hp⟩ := hp
    rw [HC.out] at hp
    obtain ⟨a, c, A, k, d, hv, lv, rfl, hsn, h1, h2⟩ := hp
    obtain ⟨A1, k1, c1, rfl⟩ := own_form h1
    obtain ⟨A2, k2, c2, rfl⟩ := own_form h2
    obtain rfl := own_len h1
    obtain rfl := own_len h2
    have HI := Lib.hid h2
    have hgn := World.grownBy_alloc w1 (.cells #[.int .u8 a, .int .u8 c, .slice A k d] 52) none
    have HGN := Lib.hid hgn
    have HG := Lib.hid (hg.trans hgn)
    obtain ⟨n, hn⟩ : ∃ n, (cutB s).length = n := ⟨_, rfl⟩
    rw [hn] at HI ⊢
    clear hg h1 h2 hsn hgn hn
    go_wp2_with fail
    go_ret2
    rw [HA.out]
    have hlen := HI.out.1
    simp only [inV, List.length_map, Nat.mul_one] at hlen
    refine ⟨_, _, by rw [hlen]; rfl, HG.out, Ints.grown (Ints.of_own (e := 3) (by rw [hlen]; exact HI.out)) HGN.out (by simp)⟩

set_option maxHeartbeats 1000000 in
theorem lvs_impl (s : ByteArray) (w : World) : Calls Tryz.prog 24 #[.string s] w fun e w' => ∃ A c, e = .returned (.tuple #[.slice A (lvA s).length c, .bool (codeT s).isSome]) ∧ w.grownBy w' none ∧ w'.ownsRow w.heap.size 3 1 (.slice A (lvA s).length c) (lvA s).length ((lvA s).map (Value.int .i64)) := by
  have H := Lib.hid (readc_any s w)
  cases hc : codeT s with
  | none =>
    have HC := Lib.hid hc
    have HA : Hid (lvA s = []) := Lib.hid (by unfold lvA; rw [hc])
    clear hc
    go_enter Tryz.func24, Tryz.ntmps24
    go_wp2_with fail
    refine H.out.mono ?_
    intro e w1 hp
    obtain ⟨hg, hp⟩ := hp
    rw [HC.out] at hp
    obtain rfl := hp
    have HG := Lib.hid (hg.trans (World.grownBy_alloc w1 (.cells #[.slice none 0 0, .nilIface] 59) none))
    clear hg
    go_wp2_with fail
    go_ret2
    rw [HA.out]
    exact ⟨none, 0, rfl, HG.out, ⟨rfl, .inl ⟨rfl, rfl⟩⟩⟩
  | some t =>
    have HC := Lib.hid hc
    have HA := Lib.hid (lvA_sums hc)
    have HLE := Lib.hid (show (cutB s).length ≤ 1000 by have := cutB_len s; have := (codeT_ran hc).1; omega)
    clear hc
    go_enter Tryz.func24, Tryz.ntmps24
    go_wp2_with fail
    refine H.out.mono ?_
    intro e w1 hp
    obtain ⟨hg, hp⟩ := hp
    rw [HC.out] at hp
    obtain ⟨iv, xv, rfl, h1, h2⟩ := hp
    obtain ⟨A1, k1, c1, rfl⟩ := own_form h1
    obtain ⟨ty, pv, rfl⟩ := h2.iface
    obtain ⟨w2, hw2⟩ : ∃ z, w1.alloc (.cells #[.slice A1 k1 c1, .iface ty pv] 59) = z := ⟨_, rfl⟩
    have g2 : w1.grownBy w2 none := by rw [← hw2]; exact World.grownBy_alloc _ _ _
    have hx : Pr w2 w1.heap.size 59 (.slice A1 k1 c1) (.iface ty pv) := by rw [← hw2]; exact Pr.new _ _ _ _
    have x0 := hx.c0
    have x1 := hx.c1
    have HT := Lib.hid (levels_any w.heap.size A1 k1 c1 ty pv (cutB s) w2 (own_keep h1 (fun g hk => g2.block g (h1.lt g hk).2 (by simp))) HLE.out)
    have HG := Lib.hid (hg.trans g2)
    clear hg h1 h2 g2 hx
    go_wp2_with fail
    refine HT.out.mono ?_
    rintro e w3 ⟨v, rfl, hg3, ho3⟩
    obtain ⟨A3, k3, c3, rfl⟩ := own_form ho3
    obtain rfl := own_len ho3
    have HO3 := Lib.hid (own_base ho3 HG.out.size)
    have HG3 := Lib.hid (HG.out.trans hg3)
    obtain ⟨n, hn⟩ : ∃ n, (lvsG 0 (cutB s)).length = n := ⟨_, rfl⟩
    rw [hn] at HO3 ⊢
    have HN := Lib.hid hn
    clear hg3 ho3 hn
    go_wp2_with fail
    go_ret2
    rw [HA.out, HN.out]
    exact ⟨_, _, rfl, HG3.out, HO3.out⟩

theorem both_lvs (s : ByteArray) : ∃ (zs : List Int) (b : Bool), zs.length ≤ 400 ∧
    (∀ w, Calls Tryz.prog 26 #[.string s] w fun e w' => ∃ A c, e = .returned (.tuple #[.slice A zs.length c, .bool b]) ∧ w.grownBy w' none ∧ Ints w' A zs) ∧
    (∀ w, Calls Tryz.prog 24 #[.string s] w fun e w' => ∃ A c, e = .returned (.tuple #[.slice A zs.length c, .bool b]) ∧ w.grownBy w' none ∧
      w'.ownsRow w.heap.size 3 1 (.slice A zs.length c) zs.length (zs.map (Value.int .i64))) :=
  ⟨lvA s, (codeT s).isSome, Nat.le_trans (lvA_len s) (by omega), lvs_spec s, lvs_impl s⟩
end

/-! HgtT -/
section

theorem step_pos {i : Ins} {m m' : MS} (h : step i m = some m') : 1 ≤ hgt m' := by
  rw [hgt_eq]
  obtain ⟨ts, os⟩ := m
  cases i with
  | dig c => cases h; simp <;> omega
  | var c => cases h; simp <;> omega
  | pre c =>
    cases ts with
    | nil => cases h
    | cons x ts => cases h; simp <;> omega
  | two c =>
    cases ts with
    | nil => cases h
    | cons y ts =>
      cases ts with
      | nil => cases h
      | cons x ts => cases h; simp <;> omega
  | beg c v =>
    cases ts with
    | nil => cases h
    | cons x ts => cases h; simp [low] <;> omega
  | fin c =>
    cases ts with
    | nil => cases h
    | cons y ts =>
      cases ts with
      | cons x ts => cases h
      | nil =>
        cases os with
        | nil => cases h
        | cons o os =>
          simp only [step] at h
          split at h
          · cases h; simp <;> omega
          · cases h
theorem hAt_run : ∀ (l : List ByteArray) (m m' : MS), runB l m = some m' → hAt (hgt m) l = hgt m' ∧ lAt m.2.length l = m'.2.length
  | [], m, m', h => by cases h; exact ⟨rfl, rfl⟩
  | x :: l, m, m', h => by
    simp only [runB] at h
    cases hs : stepB x m with
    | none => rw [hs] at h; cases h
    | some m1 =>
      rw [hs] at h
      have h2 := hs
      unfold stepB at h2
      cases hi : insOf x with
      | none => rw [hi] at h2; cases h2
      | some i =>
        rw [hi] at h2
        have h3 := step_hgt h2
        have h4 := lk_kn i m.2.length m1.2.length (step_lev h2)
        obtain ⟨e1, e2⟩ := hAt_run l m1 m' h
        simp only [hAt, lAt]
        rw [ri3_ins hi, gk_kn, ← h3, h4.2]
        exact ⟨e1, e2⟩
theorem runB_pre : ∀ (l k : List ByteArray) (m m' : MS), runB (l ++ k) m = some m' → ∃ m1, runB l m = some m1 ∧ runB k m1 = some m'
  | l, k, m, m', h => by
    rw [runB_append] at h
    cases hr : runB l m with
    | none => rw [hr] at h; cases h
    | some m1 => rw [hr] at h; exact ⟨m1, rfl, h⟩
/-- Behind each instruction of code there is at least one vector. -/
theorem hAt_pos {l : List ByteArray} {m : MS} (h : runB l ([], []) = some m) (j : Nat) (hj : j < l.length) : 1 ≤ hAt 0 (l.take (j + 1)) := by
  have e : l = l.take (j + 1) ++ l.drop (j + 1) := (List.take_append_drop _ _).symm
  rw [e] at h
  obtain ⟨m1, h1, _⟩ := runB_pre _ _ _ _ h
  have h2 := (hAt_run _ _ _ h1).1
  have h0 : hgt (([], []) : MS) = 0 := rfl
  rw [h0] at h2
  obtain ⟨x, hx⟩ : ∃ x, l[j]? = some x := ⟨_, List.getElem?_eq_getElem hj⟩
  have ht : l.take (j + 1) = l.take j ++ [x] := by rw [List.take_add_one, hx]; rfl
  rw [ht] at h1
  obtain ⟨m0, _, h4⟩ := runB_pre _ _ _ _ h1
  simp only [runB] at h4
  cases hs : stepB x m0 with
  | none => rw [hs] at h4; cases h4
  | some m2 =>
    rw [hs] at h4
    cases h4
    unfold stepB at hs
    cases hi : insOf x with
    | none => rw [hi] at hs; cases hs
    | some i =>
      rw [hi] at hs
      have := step_pos hs
      have h5 : (((hgt m1 : Nat) : Int)) = hAt 0 (l.take (j + 1)) := h2.symm
      omega
theorem sumsG_at : ∀ (h : Int) (l : List ByteArray) (j : Nat), j < l.length → (sumsG h l)[j]? = some (hAt h (l.take (j + 1)))
  | h, [], j, hj => by simp at hj
  | h, x :: l, 0, _ => by simp [sumsG, hAt]
  | h, x :: l, j + 1, hj => by
    simp only [sumsG, List.getElem?_cons_succ, List.take_succ_cons, hAt]
    exact sumsG_at _ l j (by simpa using hj)
theorem lvsG_at : ∀ (h : Int) (l : List ByteArray) (j : Nat) (x : ByteArray), l[j]? = some x → (lvsG h l)[j]? = some (lk (ri3 x).1 (lAt h (l.take j)))
  | h, [], j, x, hj => by simp at hj
  | h, y :: l, 0, x, hj => by simp at hj; subst hj; simp [lvsG, lAt]
  | h, y :: l, j + 1, x, hj => by
    simp only [lvsG, List.getElem?_cons_succ, List.take_succ_cons, lAt]
    exact lvsG_at _ l j x (by simpa using hj)

/-- The greatest of a number and those of a list. -/
def mxI (a : Int) (l : List Int) : Int := l.foldl max a
theorem mx_snoc (a : Int) (l : List Int) (x : Int) : mxI a (l ++ [x]) = max (mxI a l) x := by simp [mxI]
theorem mx_app (a : Int) (l k : List Int) : mxI a (l ++ k) = mxI (mxI a l) k := by simp [mxI]
theorem lvsG_app (h : Int) (l k : List ByteArray) : lvsG h (l ++ k) = lvsG h l ++ lvsG (lAt h l) k := by
  induction l generalizing h with
  | nil => rfl
  | cons x l ih => simp only [List.cons_append, lvsG, lAt, ih]
theorem lAt_app (h : Int) (l k : List ByteArray) : lAt h (l ++ k) = lAt (lAt h l) k := by
  induction l generalizing h with
  | nil => rfl
  | cons x l ih => simp only [List.cons_append, lAt, ih]
theorem lev_one {x : ByteArray} {i : Ins} (h : insOf x = some i) (L : Int) : lvsG L [x] = [lk (kn i) L] ∧ lAt L [x] = lb2 (kn i) L := by
  simp only [lvsG, lAt, ri3_ins h]
  exact ⟨trivial, trivial⟩
theorem lev_ins : ∀ {t : Tm}, t.Ok → ∀ (L a : Int), lAt L (t.ins.map mkB) = L ∧ mxI a (lvsG L (t.ins.map mkB)) = max a (L + t.levels)
  | .dig c, ho, L, a => by
    have := sgn_bd (.inl ho)
    have h := lev_one (insOf_one (by omega) (by omega) (ins1_dig ho)) L
    show lAt L [mkB [byt c]] = L ∧ mxI a (lvsG L [mkB [byt c]]) = _
    rw [h.1, h.2]
    simp [lk, lb2, kn, mxI, Tm.levels]
  | .var c, ho, L, a => by
    have := sgn_bd (.inr (.inl ho))
    have h := lev_one (insOf_one (by omega) (by omega) (ins1_var ho)) L
    show lAt L [mkB [byt c]] = L ∧ mxI a (lvsG L [mkB [byt c]]) = _
    rw [h.1, h.2]
    simp [lk, lb2, kn, mxI, Tm.levels]
  | .pre c s, ho, L, a => by
    have := sgn_bd (.inr (.inr (.inl ho.1)))
    have h := lev_one (insOf_one (by omega) (by omega) (ins1_pre ho.1)) L
    have ih := lev_ins ho.2 L a
    simp only [Tm.ins, List.map_append, List.map_cons, List.map_nil]
    rw [lAt_app, lvsG_app, mx_app, ih.1, ih.2, h.1, h.2]
    simp [lk, lb2, kn, mxI, Tm.levels]
    omega
  | .two c s t, ho, L, a => by
    have := sgn_bd (.inr (.inr (.inr (.inl ho.1))))
    have h := lev_one (insOf_one (by omega) (by omega) (ins1_two ho.1)) L
    have ih := lev_ins ho.2.1 L a
    have ih2 := lev_ins ho.2.2 L (max a (L + s.levels))
    simp only [Tm.ins, List.map_append, List.map_cons, List.map_nil]
    rw [lAt_app, lvsG_app, mx_app, ih.1, ih.2, lAt_app, lvsG_app, mx_app, ih2.1, ih2.2, h.1, h.2]
    simp [lk, lb2, kn, mxI, Tm.levels]
    omega
  | .loop c v s t, ho, L, a => by
    have hc := ho.1
    have hb := lev_one (insOf_two hc ho.2.1) L
    have hf := lev_one (insOf_one (c := c + 2) (i := .fin (c + 2)) (by omega) (by omega) (ins1_fin (by omega))) (L + 1)
    have ih := lev_ins ho.2.2.1 L a
    have ih2 := lev_ins ho.2.2.2 (L + 1) (max (max a (L + s.levels)) L)
    simp only [Tm.ins, List.map_append, List.map_cons, List.map_nil]
    rw [lAt_app, lvsG_app, mx_app, ih.1, ih.2, lAt_app, lvsG_app, mx_app, hb.1, hb.2]
    have e1 : lk (kn (.beg c v)) L = L := rfl
    have e2 : lb2 (kn (.beg c v)) L = L + 1 := rfl
    have e3 : mxI (max a (L + s.levels)) [L] = max (max a (L + s.levels)) L := rfl
    rw [e1, e2, e3, lAt_app, lvsG_app, mx_app, ih2.1, ih2.2, hf.1, hf.2]
    simp [lk, lb2, kn, mxI, Tm.levels]
    omega
/-- What code says of its heights and levels. -/
theorem lvA_most {s : ByteArray} {t : Tm} (h : codeT s = some t) : mxI 0 (lvA s) = t.levels := by
  obtain ⟨_, ho, _, e⟩ := code_codeT h
  rw [lvA_sums h]
  have h2 := (lev_ins ho 0 0).2
  rw [e] at h2
  rw [List.map_map] at h2
  have e3 : (mkB ∘ fun x : ByteArray => x.data.toList) = id := by funext x; exact mkB_of x
  rw [e3, List.map_id] at h2
  rw [h2]
  omega
end

/-! HgtU -/
section

theorem end7 {s : ByteArray} {t : Tm} (h : codeT s = some t) : hAt 0 (cutB s) = 1 ∧ lAt 0 (cutB s) = 0 := by
  unfold codeT at h
  split at h
  · cases h
  · cases hr : runB (cutB s) ([], []) with
    | none => rw [hr] at h; cases h
    | some m =>
      rw [hr] at h
      simp only at h
      have h2 := hAt_run _ _ _ hr
      have h0 : hgt (([], []) : MS) = 0 := rfl
      rw [h0] at h2
      cases hw : whole m with
      | none => rw [hw] at h; cases h
      | some t' =>
        unfold whole at hw
        split at hw
        · rename_i t2
          have h3 : hgt (([t2], []) : MS) = 1 := rfl
          rw [h3] at h2
          exact ⟨h2.1, h2.2⟩
        · cases hw
theorem arm7 {x : ByteArray} {i : Ins} (h : insOf x = some i) (H L : Int) : 0 < x.size ∧ ∃ c : Int, ba x 0 = c ∧
    ((((48 ≤ c ∧ c ≤ 57) ∨ c = 97 ∨ c = 98 ∨ (118 ≤ c ∧ c ≤ 122)) ∧ H + gk (ri3 x).1 = H + 1 ∧ lb2 (ri3 x).1 L = L ∧ lk (ri3 x).1 L = L) ∨
     ((c = 83 ∨ c = 77 ∨ c = 73 ∨ c = 78 ∨ c = 82 ∨ c = 67 ∨ c = 80) ∧ H + gk (ri3 x).1 = H ∧ lb2 (ri3 x).1 L = L ∧ lk (ri3 x).1 L = L) ∨
     ((c = 91 ∨ c = 123) ∧ H + gk (ri3 x).1 = H ∧ lb2 (ri3 x).1 L = L + 1 ∧ lk (ri3 x).1 L = L) ∨
     ((c = 93 ∨ c = 125) ∧ H + gk (ri3 x).1 = H - 1 ∧ lb2 (ri3 x).1 L = L - 1 ∧ lk (ri3 x).1 L = L - 1) ∨
     ((c = 43 ∨ c = 42 ∨ c = 94 ∨ c = 45 ∨ c = 61 ∨ c = 60 ∨ c = 64) ∧ H + gk (ri3 x).1 = H - 1 ∧ lb2 (ri3 x).1 L = L ∧ lk (ri3 x).1 L = L)) := by
  rw [ri3_ins h]
  unfold insOf ins1 at h
  split at h
  · refine ⟨by omega, _, rfl, ?_⟩
    split at h
    · rename_i hd
      cases h
      simp [isD] at hd
      exact .inl ⟨.inl hd, by simp [gk, kn], by simp [lb2, lk, kn], by simp [lk, kn]⟩
    · split at h
      · rename_i hd
        cases h
        simp [isV] at hd
        exact .inl ⟨.inr hd, by simp [gk, kn], by simp [lb2, lk, kn], by simp [lk, kn]⟩
      · split at h
        · rename_i hd
          cases h
          simp [isP] at hd
          exact .inr (.inl ⟨hd, by simp [gk, kn], by simp [lb2, lk, kn], by simp [lk, kn]⟩)
        · split at h
          · rename_i hd
            cases h
            simp [isB] at hd
            exact .inr (.inr (.inr (.inr ⟨hd, by simp [gk, kn]; omega, by simp [lb2, lk, kn], by simp [lk, kn]⟩)))
          · split at h
            · rename_i hd
              cases h
              exact .inr (.inr (.inr (.inl ⟨hd, by simp [gk, kn]; omega, by simp [lb2, lk, kn], by simp [lk, kn]⟩)))
            · cases h
  · split at h
    · rename_i hd
      cases h
      exact ⟨by omega, _, rfl, .inr (.inr (.inl ⟨hd.2.1, by simp [gk, kn], by simp [lb2, lk, kn], by simp [lk, kn]⟩))⟩
    · cases h
theorem mxI_step (l : List Int) (j : Nat) (z : Int) (h : l[j]? = some z) : mxI 0 (l.take (j + 1)) = max (mxI 0 (l.take j)) z := by
  rw [List.take_add_one, h, Option.toList_some, mx_snoc]
theorem ins_all {l : List ByteArray} {m m' : MS} (h : runB l m = some m') (j : Nat) (x : ByteArray) (hx : l[j]? = some x) : ∃ i, insOf x = some i :=
  runB_ins l m m' h x (List.mem_of_getElem? hx)
/-- All that is known at an instruction. -/
theorem at7 {s : ByteArray} {t : Tm} (h : codeT s = some t) (j : Nat) (hj : j < (cutB s).length) : ∃ (x : ByteArray) (c H2 L2 V : Int), (instA s)[j]? = some x ∧ 0 < x.size ∧ ba x 0 = c ∧ (htA s)[j]? = some H2 ∧ (lvA s)[j]? = some V ∧
    hAt 0 ((cutB s).take (j + 1)) = H2 ∧ lAt 0 ((cutB s).take (j + 1)) = L2 ∧ 1 ≤ H2 ∧
    ((((48 ≤ c ∧ c ≤ 57) ∨ c = 97 ∨ c = 98 ∨ (118 ≤ c ∧ c ≤ 122)) ∧ H2 = hAt 0 ((cutB s).take j) + 1 ∧ L2 = lAt 0 ((cutB s).take j) ∧ V = lAt 0 ((cutB s).take j)) ∨
     ((c = 83 ∨ c = 77 ∨ c = 73 ∨ c = 78 ∨ c = 82 ∨ c = 67 ∨ c = 80) ∧ H2 = hAt 0 ((cutB s).take j) ∧ L2 = lAt 0 ((cutB s).take j) ∧ V = lAt 0 ((cutB s).take j)) ∨
     ((c = 91 ∨ c = 123) ∧ H2 = hAt 0 ((cutB s).take j) ∧ L2 = lAt 0 ((cutB s).take j) + 1 ∧ V = lAt 0 ((cutB s).take j)) ∨
     ((c = 93 ∨ c = 125) ∧ H2 = hAt 0 ((cutB s).take j) - 1 ∧ L2 = lAt 0 ((cutB s).take j) - 1 ∧ V = lAt 0 ((cutB s).take j) - 1) ∨
     ((c = 43 ∨ c = 42 ∨ c = 94 ∨ c = 45 ∨ c = 61 ∨ c = 60 ∨ c = 64) ∧ H2 = hAt 0 ((cutB s).take j) - 1 ∧ L2 = lAt 0 ((cutB s).take j) ∧ V = lAt 0 ((cutB s).take j))) := by
  obtain ⟨_, m, hm⟩ := codeT_ran h
  obtain ⟨x, hx⟩ : ∃ x, (cutB s)[j]? = some x := ⟨_, List.getElem?_eq_getElem hj⟩
  obtain ⟨i, hi⟩ := ins_all hm j x hx
  obtain ⟨h0, c, hc, ha⟩ := arm7 hi (hAt 0 ((cutB s).take j)) (lAt 0 ((cutB s).take j))
  have ht : (cutB s).take (j + 1) = (cutB s).take j ++ [x] := by rw [List.take_add_one, hx]; rfl
  have e1 : hAt 0 ((cutB s).take (j + 1)) = hAt 0 ((cutB s).take j) + gk (ri3 x).1 := by rw [ht, hAt_snoc]
  have e2 : lAt 0 ((cutB s).take (j + 1)) = lb2 (ri3 x).1 (lAt 0 ((cutB s).take j)) := by rw [ht, lAt_snoc]
  refine ⟨x, c, _, _, _, ?_, h0, hc, by rw [htA_sums h]; exact sumsG_at _ _ _ hj, by rw [lvA_sums h]; exact lvsG_at _ _ _ _ hx, rfl, rfl, hAt_pos hm j hj, ?_⟩
  · unfold instA; rw [h]; exact hx
  · rw [e1, e2]; exact ha
end

/-! TLevZ -/
section
open Go.RowKit

/-- A term that is no loop, behind the interface: the assertion to a loop fails. -/
theorem ta_noloop {w : World} {S : Nat → Prop} {t : Tm} {ty : TypeId} {pv : Value} (h : PT w S t (.iface ty pv)) (hl : t.isLoop = false) (xT : TypeId) (u : World) :
    (Instr.typeAssert (.iface ty pv) xT 87 true).run Tryz.prog u = .ok (.tuple #[.pointer none, .bool false]) u := by
  cases t with
  | dig c => cases h; exact ta_dig_loop _ _ _
  | var c => cases h; exact ta_var_loop _ _ _
  | pre c s => obtain ⟨b, x, hv, _⟩ := h; cases hv; exact ta_pre_loop _ _ _
  | two c s t => obtain ⟨b, x, y, hv, _⟩ := h; cases hv; exact ta_two_loop _ _ _
  | loop c i s t => cases hl
theorem levL_plain {t : Tm} (hl : t.isLoop = false) : levL t = t.kids.map Tm.levels := by cases t <;> first | rfl | cases hl

theorem ret_max {x y : Int} (h : x = y) : Ending.returned (.int .i64 x) = .returned (.int .i64 y) := by rw [h]

set_option maxRecDepth 100000 in
set_option maxHeartbeats 2000000 in
theorem tlevels_any : ∀ (n : Nat) (t : Tm) (S : Nat → Prop) (ty : TypeId) (pv : Value) (w : World), t.size ≤ n → n ≤ 1000000 → PT w S t (.iface ty pv) →
    Calls Tryz.prog 49 #[.iface ty pv] w fun e w' => e = .returned (.int .i64 (t.levels : Nat)) ∧ w.grownBy w' none
  | 0, t, S, ty, pv, w, hn, _, h => by have := t.size_pos; omega
  | n + 1, t, S, ty, pv, w, hn, hn2, h => by
    have HI := Lib.hid (tlevels_any n)
    cases hl : t.isLoop
    · have hm := method_parts h
      have hrun := run_parts t pv
      have hta := ta_noloop h hl
      have HK := Lib.hid (parts_any t S ty pv w h)
      have HKS := Lib.hid (csum_kids t)
      have HLV := Lib.hid t.levels_le
      have HMX := Lib.hid (levels_mx t)
      have HLP := Lib.hid (levL_plain hl)
      have HN := Lib.hid hn
      clear h hn hl
      go_enter Tryz.func49, Tryz.ntmps49
      go_wp2_with fail
      refine HK.out.mono ?_
      rintro e w1 ⟨hg1, sv, xs, rfl, ho, ha⟩
      obtain ⟨A, k, c, rfl⟩ := own_form ho
      obtain ⟨hk, hkc, hrow⟩ := orow ho
      have hlen := All2.length _ _ ha
      have HKL := Lib.hid hk
      have HLEN := Lib.hid hlen
      have HROW := Lib.hid hrow
      have HA := Lib.hid ha
      have HG1 := Lib.hid hg1
      have hk2 : k ≤ 2 := by have := kids_len t; omega
      clear hg1 ho ha hk hlen hrow hm hrun hta
      go_wp2_with fail
      go_loopw [5, 29] (fun u i wr => ∃ j m : Nat, j ≤ k ∧ i = .int .i64 j ∧ u = .int .i64 m ∧ m ≤ n + 1 ∧ Hid (m = mx ((levL t).take j)) ∧ Hid (w1.grownBy wr none)) (fun _ i _ => k - (intOf i).toNat)
      case atStart => exact ⟨0, 0, Nat.zero_le _, rfl, rfl, by omega, Lib.hid (by simp [mx]), Lib.hid (gr_refl _ _)⟩
      case round =>
        obtain ⟨j, m, hj, rfl, rfl, hmn, hm, hgr⟩ := hrel
        by_cases hlt : j < k
        · obtain ⟨g, rfl, hg0, hg1, hcell⟩ := HROW.out (by omega)
          obtain ⟨tj, xj, htj, hxj, hpj⟩ := HA.out.get (j := j) (by have := HKL.out; omega)
          have hc := hcell j xj hxj
          obtain ⟨tyj, pvj, rfl⟩ := hpj.iface
          have hcw := hgr.out.cell hc (by simp)
          have hbd : tj.size ≤ n := by
            have hst := csum_step htj
            have hlq := csum_take t.kids (j + 1)
            have hks2 := HKS.out
            have hn3 := HN.out
            omega
          have HP := Lib.hid ((hpj.grown HG1.out).grown hgr.out)
          have HST := Lib.hid (mx_step (l := levL t) (j := j) (x := tj.levels) (by rw [HLP.out, List.getElem?_map, htj]; rfl))
          have hlv := tj.levels_le
          obtain ⟨z, hz⟩ : ∃ z, tj.levels = z := ⟨_, rfl⟩
          have HCALL := Lib.hid (HI.out tj _ tyj pvj wr hbd (by omega) HP.out)
          rw [hz] at HCALL hlv
          have HZ := Lib.hid hz
          have hz2 : z ≤ n := by omega
          clear hpj htj hxj hc hcell hbd hz hlv
          go_wp2_with fail
          refine HCALL.out.mono ?_
          rintro e w2 ⟨rfl, hg2⟩
          have HG2 := Lib.hid (hgr.out.trans hg2)
          clear hg2 hcw
          go_wp2_with fail
          refine ⟨⟨j + 1, if m < z then z else m, by omega, by go_num, by split <;> first | rfl | (refine congrArg _ ?_; omega), by split <;> omega, Lib.hid ?_, HG2⟩, by simp [intOf]; omega⟩
          rw [HST.out, HZ.out, ← hm.out]
          split <;> omega
        · have hjk : j = k := by omega
          have HJ := Lib.hid hjk
          clear hjk
          go_wp2_with fail
          go_ret
          refine ⟨?_, HG1.out.trans hgr.out⟩
          have e1 : m = t.levels := by
            rw [hm.out, HMX.out, HJ.out, List.take_of_length_le (by rw [levL_len, HLEN.out, HKL.out]; exact Nat.le_refl _)]
          rw [← e1]
          rfl
    · cases t with
      | dig c => cases hl
      | var c => cases hl
      | pre c s => cases hl
      | two c s t => cases hl
      | loop c i s t =>
        obtain ⟨b, x, y, hv, _, hh, hx, hy⟩ := h
        cases hv
        have c2 : w.cell? ⟨b, 2, none⟩ = some x := cell_of_row w b 2 _ _ (0, 0) hh
        have c3 : w.cell? ⟨b, 3, none⟩ = some y := cell_of_row w b 3 _ _ (0, 0) hh
        obtain ⟨tx, px, rfl⟩ := hx.iface
        obtain ⟨t2, p2, rfl⟩ := hy.iface
        have HX := Lib.hid hx
        have HY := Lib.hid hy
        have hta := fun xT u => ta_loop_loop (.pointer (some ⟨b, 0, none⟩)) xT u
        simp only [Tm.size] at hn
        have hs1 : s.size ≤ n := by omega
        have hs2 : t.size ≤ n := by omega
        have hlv1 := s.levels_le
        have hlv2 := t.levels_le
        obtain ⟨z1, hz1⟩ : ∃ z, s.levels = z := ⟨_, rfl⟩
        obtain ⟨z2, hz2⟩ : ∃ z, t.levels = z := ⟨_, rfl⟩
        rw [hz1] at hlv1
        rw [hz2] at hlv2
        have HC1 := Lib.hid (fun (u : World) (hg : w.grownBy u none) => HI.out s S tx px u hs1 (by omega) (HX.out.grown hg))
        have HC2 := Lib.hid (fun (u : World) (hg : w.grownBy u none) => HI.out t S t2 p2 u hs2 (by omega) (HY.out.grown hg))
        simp only [hz1] at HC1
        simp only [hz2] at HC2
        have HZ : Hid ((Tm.loop c i s t).levels = max z1 (1 + z2)) := Lib.hid (by simp only [Tm.levels, hz1, hz2])
        have hb1 : z1 ≤ n := by omega
        have hb2 : z2 ≤ n := by omega
        have w1 : IntKind.i64.wrap (1 + (z2 : Int)) = 1 + (z2 : Int) := IntWalk.i64_in _ (by omega)
        clear hh hx hy hn hl hs1 hs2 hlv1 hlv2 hz1 hz2
        go_enter Tryz.func49, Tryz.ntmps49
        go_wp2_with fail
        go_region_law (first
          | (go_simp
             go_at_call 49
             refine (HC2.out _ (((gr_drewN w 1 none).trans HGa.out))).mono ?_
             rintro e wb ⟨rfl, hgb⟩
             have HGb := Lib.hid hgb
             clear hgb)
          | (go_simp
             go_at_call 49
             refine (HC1.out _ (gr_drewN w 1 none)).mono ?_
             rintro e wa ⟨rfl, hga⟩
             have HGa := Lib.hid hga
             have c3a := ((gr_drewN w 1 none).trans hga).cell c3 (by simp)
             clear hga))
        all_goals
          go_wp2_with fail
        all_goals
          go_ret
          refine ⟨?_, ((gr_drewN w 1 none).trans HGa.out).trans HGb.out⟩
          rw [HZ.out]
          refine ret_max ?_
          first
            | omega
            | (split <;> omega)

def tlevA (s : ByteArray) : Int := match readT s with
  | some t => (t.levels : Int)
  | none => -1

theorem tlev_impl (s : ByteArray) (_hs : s.size ≤ 1048576) (w : World) :
    Calls Tryz.prog 28 #[.string s] w fun e w' => e = .returned (.int .i64 (tlevA s)) ∧ w.grownBy w' none := by
  have H := Lib.hid (term_any s w)
  obtain ⟨b, hb⟩ : ∃ b, tlevA s = b := ⟨_, rfl⟩
  rw [hb]
  have HB := Lib.hid hb
  clear hb
  go_enter Tryz.func28, Tryz.ntmps28
  go_wp2_with fail
  refine H.out.mono ?_
  intro e w1 hp
  unfold TermPost at hp
  have hb := HB.out
  unfold tlevA at hb
  cases hr : readT s with
  | none =>
    rw [hr] at hp hb
    obtain rfl : b = -1 := hb.symm
    obtain ⟨rfl, hg⟩ := hp
    have HG := Lib.hid hg
    clear hg hr hb
    go_wp2_with fail
    go_ret
    exact ⟨rfl, HG.out⟩
  | some t =>
    rw [hr] at hp hb
    obtain ⟨v, rfl, hg, ha⟩ := hp
    obtain ⟨ty, pv, rfl⟩ := ha.iface
    have HG := Lib.hid hg
    have HC := Lib.hid (tlevels_any t.size t _ ty pv w1 (Nat.le_refl _) (by have := (readT_some hr).2.2.2; omega) ha)
    simp only [hb] at HC
    clear hg ha hr hb
    go_wp2_with fail
    refine HC.out.mono ?_
    rintro e w2 ⟨rfl, hg2⟩
    have HG2 := Lib.hid hg2
    clear hg2
    go_wp2_with fail
    go_ret
    exact ⟨rfl, HG.out.trans HG2.out⟩
end

/-! Lawheights -/
section
open Go.ChangeShapes Go.WideShapes Go.ChangeAt Go.RowKit

theorem knob_own : ownKnob Tryz.prog.godebug = none := by kernel_rfl
theorem below_of {w w' : World} (h : w.grownBy w' none) : Below w.heap.size w w' := ⟨h.os, h.tape, h.output, h.size, fun k hk => h.block k hk (by simp)⟩

set_option maxRecDepth 100000 in
set_option maxHeartbeats 16000000 in
theorem law_heights (A : Option Addr) (n c : Nat) (w : World) (h : Byts w A n) (hc : n ≤ c) (hn : n ≤ 9223372036854775807) :
    Calls Tryz.prog 5 #[.slice A n c] w fun e w' => e = .returned (.bool true) ∧ w.grownBy w' none := by
  have HD := Lib.hid (drawHeightsOf_any A n c w h hc hn)
  unfold TxtQ at HD
  clear h
  by_cases hbig : 1048576 < n
  · go_enter Tryz.func5, Tryz.ntmps5
    go_wp2_with fail
    go_ret
    exact ⟨rfl, gr_refl _ _⟩
  go_enter Tryz.func5, Tryz.ntmps5
  go_wp2_with fail
  refine HD.out.mono ?_
  rintro e w1 ⟨s, rfl, hs, hg1⟩
  have HG1 := Lib.hid hg1
  have HA := Lib.hid (fun w => hts_impl s w)
  have HB := Lib.hid (fun w => lvs_impl s w)
  have HC := Lib.hid (fun w => hts_spec s w)
  have HD2 := Lib.hid (fun w => lvs_spec s w)
  have H3 := Lib.hid (fun w => cval_impl s w)
  have H7 := Lib.hid (fun w => inst_impl s w)
  have H1 := Lib.hid (fun w => tof_impl s w)
  unfold TofP at H1
  unfold InsP at H7
  clear hg1
  have HZL := Lib.hid (htA_len s)
  have HYL := Lib.hid (lvA_len s)
  cases hr : codeT s with
  | none =>
    have e2 : cvalA s = false := by unfold cvalA; rw [hr]; rfl
    have e3 : (codeT s).isSome = false := by rw [hr]; rfl
    rw [e3] at HA HB HC HD2
    rw [e2] at H3
    obtain ⟨zs, hzs⟩ : ∃ q, htA s = q := ⟨_, rfl⟩
    obtain ⟨ys, hys⟩ : ∃ q, lvA s = q := ⟨_, rfl⟩
    rw [hzs] at HA HC HZL
    rw [hys] at HB HD2 HYL
    clear hr e2 e3 hzs hys H1 H7
    go_wp2_with fail
    refine (HA.out _).mono ?_
    rintro e w2 ⟨Ap, cp, rfl, hg2, ho2⟩
    have HG2 := Lib.hid (HG1.out.trans hg2)
    have HIp : Hid (Ints w2 Ap zs) := Lib.hid (Ints.of_own (e := 3) ho2)
    have HW2 := Lib.hid hg2
    clear hg2 ho2
    go_wp2_with fail
    refine (HB.out _).mono ?_
    rintro e w3 ⟨Aq, cq, rfl, hg3, ho3⟩
    have HG3 := Lib.hid (HG2.out.trans hg3)
    have HIq : Hid (Ints w3 Aq ys) := Lib.hid (Ints.of_own (e := 3) ho3)
    have HW3 := Lib.hid hg3
    clear hg3 ho3
    go_wp2_with fail
    refine (HC.out _).mono ?_
    rintro e w4 ⟨Ar, cr, rfl, hg4, ho4⟩
    have HG4 := Lib.hid (HG3.out.trans hg4)
    have HIr : Hid (Ints w4 Ar zs) := Lib.hid (ho4)
    have HW4 := Lib.hid hg4
    clear hg4 ho4
    go_wp2_with fail
    refine (HD2.out _).mono ?_
    rintro e w5 ⟨Au, cu, rfl, hg5, ho5⟩
    have HG5 := Lib.hid (HG4.out.trans hg5)
    have HIu : Hid (Ints w5 Au ys) := Lib.hid (ho5)
    have HW5 := Lib.hid hg5
    clear hg5 ho5
    have HP5 : Hid (Ints w5 Ap zs) := Lib.hid (((HIp.out.grown HW3.out (by simp)).grown HW4.out (by simp)).grown HW5.out (by simp))
    have HQ5 : Hid (Ints w5 Aq ys) := Lib.hid ((HIq.out.grown HW4.out (by simp)).grown HW5.out (by simp))
    have HR5 : Hid (Ints w5 Ar zs) := Lib.hid (HIr.out.grown HW5.out (by simp))
    have HE1 : Hid (∀ w', w5.grownBy w' none → Calls Tryz.prog 27 #[.slice Ap zs.length cp, .slice Ar zs.length cr] w' fun e w2 => e = .returned (.bool true) ∧ w'.grownBy w2 none) :=
      Lib.hid (fun w' hg => (same_any Ap Ar cp cr zs w' (HP5.out.grown hg (by simp)) (HR5.out.grown hg (by simp)) (by have := HZL.out; omega)).mono fun e w2 h => ⟨h.1, by obtain ⟨m, rfl⟩ := h.2; exact gr_drewN _ _ _⟩)
    have HE2 : Hid (∀ w', w5.grownBy w' none → Calls Tryz.prog 27 #[.slice Aq ys.length cq, .slice Au ys.length cu] w' fun e w2 => e = .returned (.bool true) ∧ w'.grownBy w2 none) :=
      Lib.hid (fun w' hg => (same_any Aq Au cq cu ys w' (HQ5.out.grown hg (by simp)) (HIu.out.grown hg (by simp)) (by have := HYL.out; omega)).mono fun e w2 h => ⟨h.1, by obtain ⟨m, rfl⟩ := h.2; exact gr_drewN _ _ _⟩)
    have HV5 : Hid (w5.grownBy w5 none) := Lib.hid (gr_refl _ _)
    obtain ⟨n1, hn1⟩ : ∃ n, zs.length = n := ⟨_, rfl⟩
    obtain ⟨n2, hn2⟩ : ∃ n, ys.length = n := ⟨_, rfl⟩
    have HN1 := Lib.hid hn1
    have HN2 := Lib.hid hn2
    rw [hn1] at HE1 ⊢
    rw [hn2] at HE2 ⊢
    clear hn1 hn2
    go_wp2_with fail
    refine (HE1.out _ HV5.out).mono ?_
    rintro e w6 ⟨rfl, hg6⟩
    have HG6 := Lib.hid (HG5.out.trans hg6)
    have HV6 := Lib.hid (HV5.out.trans hg6)
    clear hg6
    go_wp2_with fail
    refine (HE2.out _ HV6.out).mono ?_
    rintro e w7 ⟨rfl, hg7⟩
    have HG7 := Lib.hid (HG6.out.trans hg7)
    have HV7 := Lib.hid (HV6.out.trans hg7)
    clear hg7
    go_wp2_with fail
    refine (H3.out _).mono ?_
    rintro e w8 ⟨rfl, hg8⟩
    have HG8 := Lib.hid (HG7.out.trans hg8)
    have HV8 := Lib.hid (HV7.out.trans hg8)
    clear hg8
    go_wp2_with fail
    refine (HE1.out _ HV8.out).mono ?_
    rintro e w9 ⟨rfl, hg9⟩
    have HG9 := Lib.hid (HG8.out.trans hg9)
    have HV9 := Lib.hid (HV8.out.trans hg9)
    clear hg9
    go_wp2_with fail
    refine (HE2.out _ HV9.out).mono ?_
    rintro e w10 ⟨rfl, hg10⟩
    have HG10 := Lib.hid (HG9.out.trans hg10)
    have HV10 := Lib.hid (HV9.out.trans hg10)
    clear hg10
    go_wp2_with fail
    refine (H3.out _).mono ?_
    rintro e w11 ⟨rfl, hg11⟩
    have HG11 := Lib.hid (HG10.out.trans hg11)
    have HV11 := Lib.hid (HV10.out.trans hg11)
    clear hg11
    go_wp2_with fail
    go_ret
    exact ⟨rfl, HG11.out⟩
  | some t =>
    have hk := code_codeT hr
    have hb : readT (bytesOf t.txt) = some t := readT_back hk.2.1 (by simp [bytesOf]) (by have := hk.2.2.1; simp [bytesOf, ByteArray.size]; omega)
    have e1 : tofV s = (bytesOf t.txt, true) := by unfold tofV; rw [hr]
    have e2 : cvalA s = true := by unfold cvalA; rw [hr]; rfl
    have e3 : (codeT s).isSome = true := by rw [hr]; rfl
    have HAT := Lib.hid (fun j hj => at7 hr j hj)
    have hend := end7 hr
    have hmost := lvA_most hr
    have hl1 : (htA s).length = (cutB s).length := by rw [htA_sums hr, sumsG_len]
    have hl2 : (lvA s).length = (cutB s).length := by rw [lvA_sums hr, lvsG_len]
    have hl3 : (instA s).length = (cutB s).length := by unfold instA; rw [hr]
    have H9 := Lib.hid (fun w => tlev_impl (bytesOf t.txt) (by have := hk.2.2.1; simp [bytesOf, ByteArray.size]; omega) w)
    have e9 : tlevA (bytesOf t.txt) = (t.levels : Int) := by unfold tlevA; rw [hb]
    rw [e9] at H9
    obtain ⟨x0, hx0⟩ : ∃ x, bytesOf t.txt = x := ⟨_, rfl⟩
    rw [hx0] at e1 H9
    rw [e1] at H1
    rw [e2] at H3
    rw [e3] at HA HB HC HD2
    simp only at H1
    obtain ⟨tl, htl⟩ : ∃ q, t.levels = q := ⟨_, rfl⟩
    rw [htl] at hmost H9
    obtain ⟨zs, hzs⟩ : ∃ q, htA s = q := ⟨_, rfl⟩
    obtain ⟨ys, hys⟩ : ∃ q, lvA s = q := ⟨_, rfl⟩
    obtain ⟨ss, hss⟩ : ∃ q, instA s = q := ⟨_, rfl⟩
    obtain ⟨ks, hks⟩ : ∃ q, cutB s = q := ⟨_, rfl⟩
    rw [hzs] at HA HC HZL hl1 HAT
    rw [hys] at HB HD2 HYL hl2 HAT hmost
    rw [hss] at H7 hl3 HAT
    rw [hks] at hl1 hl2 hl3 HAT hend
    have HEND := Lib.hid hend
    have HMOST := Lib.hid hmost
    have HL1 := Lib.hid hl1
    have HL2 := Lib.hid hl2
    have HL3 := Lib.hid hl3
    clear hr hk hb e1 e2 e3 e9 hx0 htl hzs hys hss hks hend hmost hl1 hl2 hl3
    go_wp2_with fail
    refine (HA.out _).mono ?_
    rintro e w2 ⟨Ap, cp, rfl, hg2, ho2⟩
    have HG2 := Lib.hid (HG1.out.trans hg2)
    have HIp : Hid (Ints w2 Ap zs) := Lib.hid (Ints.of_own (e := 3) ho2)
    have HW2 := Lib.hid hg2
    clear hg2 ho2
    go_wp2_with fail
    refine (HB.out _).mono ?_
    rintro e w3 ⟨Aq, cq, rfl, hg3, ho3⟩
    have HG3 := Lib.hid (HG2.out.trans hg3)
    have HIq : Hid (Ints w3 Aq ys) := Lib.hid (Ints.of_own (e := 3) ho3)
    have HW3 := Lib.hid hg3
    clear hg3 ho3
    go_wp2_with fail
    refine (HC.out _).mono ?_
    rintro e w4 ⟨Ar, cr, rfl, hg4, ho4⟩
    have HG4 := Lib.hid (HG3.out.trans hg4)
    have HIr : Hid (Ints w4 Ar zs) := Lib.hid (ho4)
    have HW4 := Lib.hid hg4
    clear hg4 ho4
    go_wp2_with fail
    refine (HD2.out _).mono ?_
    rintro e w5 ⟨Au, cu, rfl, hg5, ho5⟩
    have HG5 := Lib.hid (HG4.out.trans hg5)
    have HIu : Hid (Ints w5 Au ys) := Lib.hid (ho5)
    have HW5 := Lib.hid hg5
    clear hg5 ho5
    have HP5 : Hid (Ints w5 Ap zs) := Lib.hid (((HIp.out.grown HW3.out (by simp)).grown HW4.out (by simp)).grown HW5.out (by simp))
    have HQ5 : Hid (Ints w5 Aq ys) := Lib.hid ((HIq.out.grown HW4.out (by simp)).grown HW5.out (by simp))
    have HR5 : Hid (Ints w5 Ar zs) := Lib.hid (HIr.out.grown HW5.out (by simp))
    have HE1 : Hid (∀ w', w5.grownBy w' none → Calls Tryz.prog 27 #[.slice Ap zs.length cp, .slice Ar zs.length cr] w' fun e w2 => e = .returned (.bool true) ∧ w'.grownBy w2 none) :=
      Lib.hid (fun w' hg => (same_any Ap Ar cp cr zs w' (HP5.out.grown hg (by simp)) (HR5.out.grown hg (by simp)) (by have := HZL.out; omega)).mono fun e w2 h => ⟨h.1, by obtain ⟨m, rfl⟩ := h.2; exact gr_drewN _ _ _⟩)
    have HE2 : Hid (∀ w', w5.grownBy w' none → Calls Tryz.prog 27 #[.slice Aq ys.length cq, .slice Au ys.length cu] w' fun e w2 => e = .returned (.bool true) ∧ w'.grownBy w2 none) :=
      Lib.hid (fun w' hg => (same_any Aq Au cq cu ys w' (HQ5.out.grown hg (by simp)) (HIu.out.grown hg (by simp)) (by have := HYL.out; omega)).mono fun e w2 h => ⟨h.1, by obtain ⟨m, rfl⟩ := h.2; exact gr_drewN _ _ _⟩)
    have HV5 : Hid (w5.grownBy w5 none) := Lib.hid (gr_refl _ _)
    obtain ⟨n1, hn1⟩ : ∃ n, zs.length = n := ⟨_, rfl⟩
    obtain ⟨n2, hn2⟩ : ∃ n, ys.length = n := ⟨_, rfl⟩
    have HN1 := Lib.hid hn1
    have HN2 := Lib.hid hn2
    rw [hn1] at HE1 ⊢
    rw [hn2] at HE2 ⊢
    clear hn1 hn2
    go_wp2_with fail
    refine (HE1.out _ HV5.out).mono ?_
    rintro e w6 ⟨rfl, hg6⟩
    have HG6 := Lib.hid (HG5.out.trans hg6)
    have HV6 := Lib.hid (HV5.out.trans hg6)
    clear hg6
    go_wp2_with fail
    refine (HE2.out _ HV6.out).mono ?_
    rintro e w7 ⟨rfl, hg7⟩
    have HG7 := Lib.hid (HG6.out.trans hg7)
    have HV7 := Lib.hid (HV6.out.trans hg7)
    clear hg7
    go_wp2_with fail
    refine (H3.out _).mono ?_
    rintro e w8 ⟨rfl, hg8⟩
    have HG8 := Lib.hid (HG7.out.trans hg8)
    have HV8 := Lib.hid (HV7.out.trans hg8)
    clear hg8
    go_wp2_with fail
    refine (H7.out _).mono ?_
    rintro e w9 ⟨u9, rfl, hg9, ho9⟩
    have HG9 := Lib.hid (HG8.out.trans hg9)
    have HV9 := Lib.hid (HV8.out.trans hg9)
    obtain ⟨Ax, cx, rfl⟩ := ho9.form
    obtain ⟨hk6, hcl6⟩ := ho9.cells
    have HCL := Lib.hid hcl6
    have HPX : Hid (Ints w9 Ap zs) := Lib.hid (HP5.out.grown HV9.out (by simp))
    have HQX : Hid (Ints w9 Aq ys) := Lib.hid (HQ5.out.grown HV9.out (by simp))
    obtain ⟨m, hm⟩ : ∃ m, ks.length = m := ⟨_, rfl⟩
    have HM := Lib.hid hm
    have q1 : ss.length = m := by rw [HL3.out]; exact hm
    have q2 : n1 = m := by rw [← HN1.out, HL1.out]; exact hm
    have q3 : n2 = m := by rw [← HN2.out, HL2.out]; exact hm
    have hml : m ≤ 201 := by have := HZL.out; have := HL1.out; omega
    subst q2
    subst q3
    rw [q1] at hk6 ⊢
    clear hg9 ho9 hcl6 hm q1
    go_wp2_with fail
    go_loopw [13, 14, 106] (fun hh l i wr => ∃ (j : Nat) (H L : Int), j ≤ n2 ∧ i = .int .i64 j ∧ hh = .int .i64 H ∧ l = .int .i64 L ∧ -300 ≤ H ∧ H ≤ 300 ∧ -300 ≤ L ∧ L ≤ 300 ∧ Hid (H = hAt 0 (ks.take j)) ∧ Hid (L = lAt 0 (ks.take j)) ∧ Hid (w9.grownBy wr none)) (fun _ _ i _ => n2 - (intOf i).toNat)
    case atStart => exact ⟨0, 0, 0, Nat.zero_le _, rfl, rfl, rfl, by omega, by omega, by omega, by omega, Lib.hid (by simp [hAt]), Lib.hid (by simp [lAt]), Lib.hid (gr_refl _ _)⟩
    case round =>
      obtain ⟨j, H, LL, hj, rfl, rfl, rfl, hb1, hb2, hb3, hb4, hH, hL, hgr⟩ := hrel
      by_cases hlt : j < n2
      · obtain ⟨x, d, H2, L2, V, hx, hxz, hd, hz, hy, eH, eL, hpos, harm⟩ := HAT.out j (by have := HM.out; omega)
        rw [← hH.out, ← hL.out] at harm
        obtain ⟨g, rfl, _, hcg, _⟩ := HCL.out j x hx
        have hcx := hgr.out.cell hcg (by simp)
        have hjz : j < zs.length := by have := HN1.out; omega
        have hjy : j < ys.length := by have := HN2.out; omega
        obtain ⟨b1, o1, rfl, hc1⟩ := (HPX.out.grown hgr.out (by simp)).at_ hjz
        obtain ⟨b2, o2, rfl, hc2⟩ := (HQX.out.grown hgr.out (by simp)).at_ hjy
        have ez : zs[j] = H2 := by rw [List.getElem?_eq_getElem hjz] at hz; exact Option.some.inj hz
        have ey : ys[j] = V := by rw [List.getElem?_eq_getElem hjy] at hy; exact Option.some.inj hy
        rw [ez] at hc1
        rw [ey] at hc2
        have hb0 : ((x[0].toNat : Nat) : Int) = d := by rw [← ba_in hxz]; exact hd
        have hbH := hAt_bd 0 (ks.take (j + 1))
        have hbL := lAt_bd 0 (ks.take (j + 1))
        rw [eH] at hbH
        rw [eL] at hbL
        have hlen : (ks.take (j + 1)).length ≤ 201 := by rw [List.length_take]; omega
        have k1 : -300 ≤ H2 ∧ H2 ≤ 300 := by omega
        have k2 : -300 ≤ L2 ∧ L2 ≤ 300 := by omega
        have HEH : Hid (H2 = hAt 0 (ks.take (j + 1))) := Lib.hid eH.symm
        have HEL : Hid (L2 = lAt 0 (ks.take (j + 1))) := Lib.hid eL.symm
        have hp1 : ¬ (H2 < 1) := by omega
        have hn1 : (H2 != H2) = false := by simp
        have hn2 : (V != V) = false := by simp
        clear hx hz hy eH eL hcg ez ey hjz hjy hbH hbL hlen hd HD HA HB HC HD2 H3 H7
        obtain ⟨e, he⟩ : ∃ e, ((x[0].toNat : Nat) : Int) = e := ⟨_, rfl⟩
        rw [he] at hb0
        subst hb0
        rcases harm with ⟨hch, a1, a2, a3⟩ | ⟨hch, a1, a2, a3⟩ | ⟨hch, a1, a2, a3⟩ | ⟨hch, a1, a2, a3⟩ | ⟨hch, a1, a2, a3⟩
        · have w1 : IntKind.i64.wrap (H + 1) = H2 := by rw [← a1]; exact IntWalk.i64_in _ (by omega)
          have w2 : wrap64 (H + 1) = H2 := by rw [← a1]; unfold wrap64; omega
          have d1 : (e == 83) = false := by simp; omega
          have d2 : (e == 77) = false := by simp; omega
          have d3 : (e == 73) = false := by simp; omega
          have d4 : (e == 78) = false := by simp; omega
          have d5 : (e == 82) = false := by simp; omega
          have d6 : (e == 67) = false := by simp; omega
          have d7 : (e == 80) = false := by simp; omega
          have d8 : (e == 91) = false := by simp; omega
          have d9 : (e == 123) = false := by simp; omega
          have da : (e == 93) = false := by simp; omega
          have db : (e == 125) = false := by simp; omega
          have dc : (e == 43) = false := by simp; omega
          have dd : (e == 42) = false := by simp; omega
          have de : (e == 94) = false := by simp; omega
          have df : (e == 45) = false := by simp; omega
          have dg : (e == 61) = false := by simp; omega
          have dh : (e == 60) = false := by simp; omega
          have di : (e == 64) = false := by simp; omega
          subst a2
          subst a3
          clear hch a1
          go_wp2_with fail
          go_roundw
          case rel => exact ⟨j + 1, _, _, by omega, by go_num, rfl, rfl, k1.1, k1.2, k2.1, k2.2, HEH, HEL, hgr⟩
          case measure => simp [intOf]; omega
        · subst a1
          subst a2
          subst a3
          rcases hch with rfl | rfl | rfl | rfl | rfl | rfl | rfl
          all_goals
            go_wp2_with fail
            go_roundw
          all_goals first | exact ⟨j + 1, _, _, by omega, by go_num, rfl, rfl, k1.1, k1.2, k2.1, k2.2, HEH, HEL, hgr⟩ | (simp [intOf]; omega)
        · have w1 : IntKind.i64.wrap (LL + 1) = L2 := by rw [← a2]; exact IntWalk.i64_in _ (by omega)
          have w2 : wrap64 (LL + 1) = L2 := by rw [← a2]; unfold wrap64; omega
          have w3 : IntKind.i64.wrap (L2 - 1) = LL := by rw [a2]; rw [show LL + 1 - 1 = LL by omega]; exact IntWalk.i64_in _ (by omega)
          have w4 : wrap64 (L2 - 1) = LL := by rw [a2]; unfold wrap64; omega
          subst a1
          subst a3
          clear a2
          rcases hch with rfl | rfl
          all_goals
            go_wp2_with fail
            go_roundw
          all_goals first | exact ⟨j + 1, _, _, by omega, by go_num, rfl, rfl, k1.1, k1.2, k2.1, k2.2, HEH, HEL, hgr⟩ | (simp [intOf]; omega)
        · have w1 : IntKind.i64.wrap (LL - 1) = L2 := by rw [← a2]; exact IntWalk.i64_in _ (by omega)
          have w2 : wrap64 (LL - 1) = L2 := by rw [← a2]; unfold wrap64; omega
          have w3 : IntKind.i64.wrap (H - 1) = H2 := by rw [← a1]; exact IntWalk.i64_in _ (by omega)
          have w4 : wrap64 (H - 1) = H2 := by rw [← a1]; unfold wrap64; omega
          obtain rfl : V = L2 := by omega
          clear a1 a2 a3
          rcases hch with rfl | rfl
          all_goals
            go_wp2_with fail
            go_roundw
          all_goals first | exact ⟨j + 1, _, _, by omega, by go_num, rfl, rfl, k1.1, k1.2, k2.1, k2.2, HEH, HEL, hgr⟩ | (simp [intOf]; omega)
        · have w3 : IntKind.i64.wrap (H - 1) = H2 := by rw [← a1]; exact IntWalk.i64_in _ (by omega)
          have w4 : wrap64 (H - 1) = H2 := by rw [← a1]; unfold wrap64; omega
          subst a2
          subst a3
          clear a1
          rcases hch with rfl | rfl | rfl | rfl | rfl | rfl | rfl
          all_goals
            go_wp2_with fail
            go_roundw
          all_goals first | exact ⟨j + 1, _, _, by omega, by go_num, rfl, rfl, k1.1, k1.2, k2.1, k2.2, HEH, HEL, hgr⟩ | (simp [intOf]; omega)
      · have hjm : j = n2 := by omega
        subst hjm
        have hf1 : H = 1 := by
          rw [hH.out, ← HM.out, List.take_length]; exact HEND.out.1
        have hf2 : LL = 0 := by
          rw [hL.out, ← HM.out, List.take_length]; exact HEND.out.2
        subst hf1
        subst hf2
        clear hb1 hb2 hb3 hb4 HD HA HB HC HD2 H3 H7
        go_wp2_with fail
        refine (H1.out _).mono ?_
        rintro e wa ⟨rfl, hga⟩
        have HGA := Lib.hid (HG9.out.trans (hgr.out.trans hga))
        have HVA := Lib.hid (hgr.out.trans hga)
        clear hga
        go_wp2_with fail
        go_loopw [20, 182] (fun l i wr => ∃ (k : Nat) (M : Int), k ≤ j ∧ i = .int .i64 k ∧ l = .int .i64 M ∧ Hid (M = mxI 0 (ys.take k)) ∧ Hid (wa.grownBy wr none)) (fun _ i _ => j - (intOf i).toNat)
        case atStart => exact ⟨0, 0, Nat.zero_le _, rfl, rfl, Lib.hid (by simp [mxI]), Lib.hid (gr_refl _ _)⟩
        case round =>
          obtain ⟨k, M, hk, rfl, rfl, hM, hgk⟩ := hrel
          by_cases hlk : k < j
          · have hky : k < ys.length := by have := HN2.out; omega
            obtain ⟨b2, o2, rfl, hc2⟩ := ((HQX.out.grown HVA.out (by simp)).grown hgk.out (by simp)).at_ hky
            have HST := Lib.hid (mxI_step ys k _ (List.getElem?_eq_getElem hky))
            generalize ys[k] = z at hc2 HST
            clear hky
            go_wp2_with fail
            go_roundw
            case rel => exact ⟨k + 1, max M z, by omega, by go_num, by first | rfl | (refine congrArg _ ?_; omega) | (split <;> (refine congrArg _ ?_; omega)), Lib.hid (by rw [HST.out, hM.out]), hgk⟩
            case measure => simp [intOf]; omega
          · have hkj : k = j := by omega
            subst hkj
            have hf3 : M = tl := by
              have h2 := HMOST.out
              have h3 : ys.take k = ys := by rw [← HN2.out, List.take_length]
              rw [hM.out, h3]
              exact h2
            subst hf3
            go_wp2_with fail
            refine (H9.out _).mono ?_
            rintro e wb ⟨rfl, hgb⟩
            have HGB := Lib.hid (HGA.out.trans (hgk.out.trans hgb))
            clear hgb
            go_wp2_with fail
            go_ret
            exact ⟨rfl, HGB.out⟩

theorem door_met_heights (os : Os) (args : Array Value) : laidMetH Tryz.prog Rows.fnHeightsRow.laid ((World.laidAll Tryz.prog os Rows.fnHeightsRow.laid).forCall (fun _ _ => 0) ⟨#[], args, []⟩).memory := by
  rw [MakeChecks.laidMetH_plain _ _ _ (by kernel_rfl)]
  exact laidMet_laidAll _ (by kernel_rfl) (by kernel_rfl)

set_option maxRecDepth 100000 in
theorem heights_lifted (os : Os) (started : os.Started) (H : Type) (enc : TypeId × Value → H) :
    ReturnsInHanded {} Tryz.checked os 5 .any (fun w args => (Rows.fnHeightsSpec.pre enc Tryz.prog Tryz.f5 [] false w args ∧ laidMetH Tryz.prog Rows.fnHeightsRow.laid w) ∧ sizedMet enc Tryz.prog Tryz.f5 (OpenSpec.ofChange Rows.fnHeightsSpec) false w args) (Rows.fnHeightsSpec.post enc Tryz.prog Tryz.f5 false true false false) := by
  refine returnsInHanded_of_change_and (C := Tryz.checked) (X := fun w _ => laidMetH Tryz.prog Rows.fnHeightsRow.laid w) (fun _ _ _ hh h => h.of_heap hh) knob_own started (by kernel_rfl) Tryz.func5
    (ChangeSpec.witness_shaped (enc := enc) (C := Tryz.checked) (os := os) (X := fun w _ => laidMetH Tryz.prog Rows.fnHeightsRow.laid w) false (World.laidAll Tryz.prog os Rows.fnHeightsRow.laid) #[.slice none 0 0] 8 (World.laidAll_os _ _ _) (World.shaped_of_ZipB (by kernel_rfl) (by kernel_rfl)) (by kernel_rfl) (by kernel_rfl) (by kernel_rfl) (door_met_heights os _)) ?_
  intro W base args ds gs before hval0 hW _ _ hL _
  have hval : ∀ (j : Nat) t v, Tryz.f5.params[j]? = some t → args[j]? = some v → Value.okWide Tryz.prog W .any base t v := hval0
  have hW' := hW
  obtain ⟨p, q, hA0, hV, rfl, hfz, hnd⟩ := hW
  have hA : DataW.TrodAll enc Tryz.prog W 0 (fun _ => true) true Tryz.f5.params.toList args.toList ds p := hA0
  rw [Tryz.params5] at hA hval
  obtain ⟨v0, d0, rfl, rfl, h0⟩ := trodAll_one hA
  obtain ⟨rfl, rfl⟩ := trodVars_none hV
  obtain ⟨A, n, c, rfl, a1, a2, a3⟩ := open_bytsT (hval 0 22 v0 rfl rfl) h0
  clear hA0 hval0
  simp only [List.append_nil] at hW'
  have hlt : ∀ x ∈ p, x.block < W.heap.size := fun x hx => by simpa using hW'.lt x hx
  refine (law_heights A n c W a3 a1 a2).mono fun e W' ⟨he, hg⟩ => ?_
  subst he
  refine ⟨_, rfl, _, _, _, [], p, [], hW', ?_, ?_, rfl, (below_of hg).frame _, fun h => by cases h⟩
  · exact trodAll_mk1 (shut_bool Tryz.underlying4 _)
  · exact trodAll_mk1 (Below.trod laid_out_p (by kernel_rfl) (of_decide_eq_true (by kernel_rfl)) h0 (below_of hg) hlt)

theorem heights_row : Rows.FnHeightsSaid :=
  OpenClaim.holds_of_wide 5 Tryz.f5 rfl rfl rfl rfl rfl rfl rfl ⟨rfl, rfl, rfl, rfl, rfl⟩ rfl rfl rfl rfl rfl (by kernel_rfl) Tryz.func5 (by kernel_rfl)
    (of_decide_eq_true (by kernel_rfl)) (by unfold Func.isWrapper; first | (rw [if_pos (by decide +kernel)]; kernel_rfl) | (rw [if_neg (by decide +kernel)]; exact ⟨rfl, rfl⟩))
    (fun os started H enc _ => heights_lifted os started H enc)

theorem heights_holds : Rows.FnHeightsCardSaid :=
  Claim7.holds_tied_plain_at .later [] [.data, .pinned] true (true, "999fc285215b73e06408df5e1375aa887be9e4118474698f1ad7a5ae6367b45e") true
    heights_row (fun _ h => by cases h) (by kernel_rfl) (fun _ h => by cases h) fnHeights_row_tie rfl ⟨rfl, rfl⟩ (by kernel_rfl) rfl
    (fun f fn hf hfn => by
      obtain rfl : f = 5 := Option.some.inj ((show Tryz.prog.funcNamed "loop.example/flatarrays/laws.FnHeights" = some 5 by kernel_rfl).symm.trans hf) |>.symm
      obtain rfl : fn = Tryz.f5 := (Option.some.inj (Tryz.func5.symm.trans hfn)).symm
      exact ⟨by kernel_rfl, fun j t ht => by
        rw [Tryz.params5] at ht
        have hm : t ∈ [22] := by simpa using Array.mem_of_getElem? ht
        have hall : ([22].all fun u => !Tryz.prog.wantsStandIn u) = true := by kernel_rfl
        exact (show Tryz.prog.wantsStandIn t = false by simpa using List.all_eq_true.1 hall t hm)⟩)
    (by kernel_rfl)

#print axioms heights_holds
end

end Go.Proofs.YtohdlnkkchijnaaGreatDoor
