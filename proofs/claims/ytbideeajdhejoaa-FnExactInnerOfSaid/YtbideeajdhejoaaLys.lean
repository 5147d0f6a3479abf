/- Lists of layouts as they read; what eqLayoutS of the laws does. -/
import Derived.Test.YtbideeajdhejoaaFamL
import Derived.Test.YtbideeajdhejoaaFam
import Derived.Test.YtbideeajdhejoaaOwnI
import Derived.Deep.RegionWith
namespace Go.Proofs.Ytbideeajdhejoaa
open Go.RowKit

/-- A list of layouts in memory: two cells each. -/
def Lys (w : World) (A : Option Addr) (P : List (List (List Int) × List Int)) : Prop :=
  0 < P.length → ∃ b off, A = some ⟨b, off, none⟩ ∧ b < w.heap.size ∧ ∀ (j : Nat) (p : List (List Int) × List Int), P[j]? = some p → ∃ x y, w.cell? ⟨b, off + j * 2, none⟩ = some x ∧ w.cell? ⟨b, off + j * 2 + 1, none⟩ = some y ∧ Lyt w (.agg #[x, y]) p.1 p.2
theorem Lys.grown {w w' : World} {A : Option Addr} {P : List (List (List Int) × List Int)} (h : Lys w A P) (hg : w.grownBy w' none) : Lys w' A P := fun hl => by
  obtain ⟨b, off, rfl, hb, hc⟩ := h hl
  refine ⟨b, off, rfl, Nat.lt_of_lt_of_le hb hg.size, fun j p hj => ?_⟩
  obtain ⟨x, y, h1, h2, h3⟩ := hc j p hj
  exact ⟨x, y, hg.cell h1 (by simp), hg.cell h2 (by simp), h3.grown hg⟩

set_option maxRecDepth 100000 in
set_option maxHeartbeats 2000000 in
theorem eqlys_any (A B : Option Addr) (c d : Nat) (P : List (List (List Int) × List Int)) (w : World) (h : Lys w A P) (h2 : Lys w B P) (hn : P.length ≤ 1048576) (hm : ∀ p ∈ P, p.1.length + totL p.1 + p.2.length ≤ 1048576) :
    Calls Try.prog 37 #[.slice A P.length c, .slice B P.length d] w fun e w' => e = .returned (.bool true) ∧ w.grownBy w' none := by
  have HS := Lib.hid h
  have HS2 := Lib.hid h2
  have HM := Lib.hid hm
  obtain ⟨n, hnn⟩ : ∃ n, P.length = n := ⟨_, rfl⟩
  have HN := Lib.hid hnn
  rw [hnn] at hn ⊢
  clear h h2 hnn hm
  have hnn : ((n : Int) != (n : Int)) = false := by simp
  go_enter Try.func37, Try.ntmps37
  go_wp2_with fail
  clear hnn
  go_loopw [5] (fun i wr => ∃ j : Nat, j ≤ n ∧ i = .int .i64 j ∧ Hid (w.grownBy wr none)) (fun i _ => n - (intOf i).toNat)
  case atStart => exact ⟨0, Nat.zero_le _, rfl, Lib.hid (gr_refl _ _)⟩
  case round =>
    obtain ⟨j, hj, rfl, hgr⟩ := hrel
    obtain ⟨wo, rfl⟩ : ∃ wo : World, wo = wr := ⟨_, rfl⟩
    by_cases hlt : j < n
    · obtain ⟨p, hp⟩ : ∃ p, P[j]? = some p := ⟨_, List.getElem?_eq_getElem (by have := HN.out; omega)⟩
      obtain ⟨b, off, rfl, _, hc⟩ := (HS.out.grown hgr.out) (by have := HN.out; omega)
      obtain ⟨b2, off2, rfl, _, hc2⟩ := (HS2.out.grown hgr.out) (by have := HN.out; omega)
      obtain ⟨x, y, hx, hy, hl⟩ := hc j p hp
      obtain ⟨x2, y2, hx2, hy2, hl2⟩ := hc2 j p hp
      have HE := Lib.hid (fun w' (hg : wo.grownBy w' none) => eql_any _ _ p.1 p.2 w' (hl.grown hg) (hl2.grown hg) (HM.out p (List.mem_of_getElem? hp)))
      clear hc hc2 hl hl2 hp
      go_wp2_with fail
      go_region_with (go_at_call 18; refine (HE.out _ (by first | exact gr_refl _ _ | exact gr_drewN wo _ none | exact gr_drewN wo 1 none)).mono ?_; rintro e w5 ⟨rfl, hg5⟩; have hg5b : wo.grownBy w5 none := World.grownBy.trans (by first | exact gr_refl _ _ | exact gr_drewN wo _ none | exact gr_drewN wo 1 none) hg5; have HG5 := Lib.hid (hgr.out.trans hg5b); clear hg5 hg5b)
      all_goals
        go_wp2_with fail
        go_roundw
        case rel => exact ⟨j + 1, by omega, by go_num, HG5⟩
        case measure => simp [intOf]; omega
    · go_wp2_with fail
      go_ret
      exact ⟨rfl, hgr.out⟩

end Go.Proofs.Ytbideeajdhejoaa
