/- What the drawn laws on segments share: drawn arguments, faSame, and an input of bytes that came in. -/
import Derived.Test.YtbideeajdhejoaaDraw
import Derived.Test.YtbideeajdhejoaaListArg
namespace Go.Proofs.Ytbideeajdhejoaa
open Go.ChangeShapes Go.WideShapes Go.ChangeAt Go.RowKit Go.Joins Go.Deep

set_option maxRecDepth 100000 in
/-- Bytes that came in as an argument. -/
theorem open_byts {H : Type} {enc : TypeId × Value → H} {W : World} {base : Nat} {v : Value} {d : DataW H} {p : List MemPlace} (hval : Value.okWide Try.prog W .any base 57 v) (h : DataW.Trod enc Try.prog W 0 (fun _ => true) true 57 v d p) :
    ∃ A n c, v = .slice A n c ∧ n ≤ c ∧ n ≤ 9223372036854775807 ∧ Byts W A n := by
  obtain ⟨E0, len, cap, rfl⟩ := okWide_slice Try.underlying57 hval
  have h1' := h
  obtain ⟨fuel, h1'⟩ := h1'
  simp only [Value.cells] at h1'
  have hmx : maxLen ≤ 9223372036854775807 := by simp [maxLen]
  rcases open_ints Try.underlying57 Try.underlying5 (by kernel_rfl) h1' with ⟨hcs, _⟩ | ⟨a, len', cap', zs, hcs, _, hl, hm, hz, _, hcell, hwz⟩
  · simp only [List.cons.injEq, and_true] at hcs
    cases hcs
    exact ⟨none, 0, 0, rfl, Nat.le_refl _, by omega, fun h => by omega⟩
  · simp only [List.cons.injEq, and_true] at hcs
    cases hcs
    simp only [if_true] at hz
    refine ⟨some a, _, _, rfl, hl, by omega, fun hpos => ?_⟩
    obtain ⟨b, off, spot⟩ := a
    have hspot : spot = none := by simpa [Addr.add] using World.cell?_spot (hcell 0 (by omega))
    subst hspot
    have hc0 := hcell 0 (by omega)
    rw [addr_flat] at hc0
    refine ⟨b, off, rfl, World.block_lt_of_cell? W _ hc0, fun k hk => ?_⟩
    have hck := hcell k (by omega)
    rw [addr_flat] at hck
    refine ⟨_, hck, ?_⟩
    have hmem : zs.getD k 0 ∈ zs := by
      rw [List.getD_eq_getElem?_getD, List.getElem?_eq_getElem (by omega)]
      exact List.getElem_mem _
    exact bounds_u8 (hwz _ hmem)

set_option maxHeartbeats 1000000 in
theorem same_any (A B : Option Addr) (c d : Nat) (zs : List Int) (w : World) (h : Ints w A zs) (h2 : Ints w B zs) (hn : zs.length ≤ 1048576) :
    Calls Try.prog 44 #[.slice A zs.length c, .slice B zs.length d] w fun e w' => e = .returned (.bool true) ∧ ∃ m, w' = w.drewN m := by
  have HS := Lib.hid h
  have HS2 := Lib.hid h2
  obtain ⟨n, hnn⟩ : ∃ n, zs.length = n := ⟨_, rfl⟩
  have HN := Lib.hid hnn
  rw [hnn] at hn ⊢
  clear h h2 hnn
  have hnn : ((n : Int) == (n : Int)) = true := by simp
  go_enter Try.func44, Try.ntmps44
  go_wp2_with fail
  go_loopw [11] (fun i wr => ∃ j : Nat, j ≤ n ∧ i = .int .i64 j ∧ Hid (∃ m, wr = w.drewN m)) (fun i _ => n - (intOf i).toNat)
  case atStart => exact ⟨0, Nat.zero_le _, rfl, Lib.hid ⟨0, rfl⟩⟩
  case round =>
    obtain ⟨j, hj, rfl, hgr⟩ := hrel
    have hgr2 : w.grownBy wr none := by obtain ⟨m, rfl⟩ := hgr.out; exact gr_drewN _ _ _
    have HGR := Lib.hid hgr2
    clear hgr2
    by_cases hlt : j < n
    · have hjz : j < zs.length := by have := HN.out; omega
      obtain ⟨b, off, rfl, hcell⟩ := (HS.out.grown HGR.out (by simp)).at_ hjz
      obtain ⟨b2, off2, rfl, hcell2⟩ := (HS2.out.grown HGR.out (by simp)).at_ hjz
      generalize zs[j] = z at hcell hcell2
      have hj0 : (0 : Int) ≤ (j : Int) := by omega
      have hj1 : (j : Int) < (n : Int) := by omega
      have hzz : (z != z) = false := by simp
      go_wp2_with fail
      go_quiet (fail)
      go_wp2_with fail
      go_roundw
      case rel => exact ⟨j + 1, by omega, by go_num, Lib.hid (by obtain ⟨m, rfl⟩ := hgr.out; exact ⟨m + _, World.drewN_drewN _ _ _⟩)⟩
      case measure => simp [intOf]; omega
    · go_wp2_with fail
      go_ret
      exact ⟨rfl, hgr.out⟩

/-- How drawn pairs of lists come. -/
def PairPostK (K : Nat) (w : World) (e : Ending) (w' : World) : Prop :=
  ∃ u v L D, e = .returned (.tuple #[u, v]) ∧ OwnI w' u L ∧ OwnI w' v D ∧ L.length ≤ K ∧ D.length ≤ K ∧ w.grownBy w' none
/-- How drawn triples of lists come. -/
def TriPostK (K : Nat) (w : World) (e : Ending) (w' : World) : Prop :=
  ∃ u v f L D F, e = .returned (.tuple #[u, v, f]) ∧ OwnI w' u L ∧ OwnI w' v D ∧ OwnI w' f F ∧ L.length ≤ K ∧ D.length ≤ K ∧ F.length ≤ K ∧ w.grownBy w' none

end Go.Proofs.Ytbideeajdhejoaa
