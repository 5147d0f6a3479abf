/- What foldList and foldSegments of the program do, for a function that returns a number and leaves all as it is. -/
import Derived.Test.YtbideeajdhejoaaSegIt
import Derived.Test.YtbideeajdhejoaaSegS
import Derived.Maps.AppendAt
namespace Go.Proofs.Ytbideeajdhejoaa
open Go.RowKit Go.Shelf
attribute [local go_sem] Oper.semAt_some

/-- A function of the program that joins two numbers, where these are in bounds; the bound may grow with each number that is joined. -/
structure Joins2 (gf : Nat) (f : Int → Int → Int) (lo : Int) (hi : Nat → Int) : Prop where
  enters : ∀ (args : Array Value) (w : World), (callFunc gf args).run Try.prog w = .ok (.enter gf args) w
  call : ∀ (j : Nat) (a b : Int) (u : World), j ≤ 1048576 → lo ≤ a → a ≤ hi j → 0 ≤ b → b ≤ 10006 → Calls Try.prog gf #[.int .i64 a, .int .i64 b] u fun e u' => e = .returned (.int .i64 (f a b)) ∧ u = u'
  stays : ∀ (j : Nat) (a b : Int), lo ≤ a → a ≤ hi j → 0 ≤ b → b ≤ 10006 → lo ≤ f a b ∧ f a b ≤ hi (j + 1)

theorem fold_step {f : Int → Int → Int} {r : Int} {l : List Int} {j : Nat} {z : Int} (h : l[j]? = some z) : (l.take (j + 1)).foldl f r = f ((l.take j).foldl f r) z := by
  rw [at_take h, List.foldl_append]; rfl

set_option maxHeartbeats 400000 in
theorem foldl_any (gf : Nat) (f : Int → Int → Int) (lo : Int) (hi : Nat → Int) (hj : Joins2 gf f lo hi) (A : Option Addr) (c : Nat) (zs : List Int) (r : Int) (w : World) (h : Ints w A zs) (hn : zs.length ≤ 1048576) (hok : okN 10006 zs = true) (h0 : lo ≤ r) (h1 : r ≤ hi 0) :
    Calls Try.prog 121 #[.slice A zs.length c, .int .i64 r, .func (.func gf) #[] #[]] w fun e w' => e = .returned (.int .i64 (zs.foldl f r)) ∧ w = w' := by
  have HS := Lib.hid h
  have HOK := Lib.hid hok
  have HC := Lib.hid hj
  obtain ⟨n, hnn⟩ : ∃ n, zs.length = n := ⟨_, rfl⟩
  have HN := Lib.hid hnn
  rw [hnn] at hn ⊢
  clear h hnn hok hj
  go_enter Try.func121, Try.ntmps121
  go_wp2_with fail
  go_loop [1, 11] (fun u i => ∃ (j : Nat) (x : Int), j ≤ n ∧ i = .int .i64 j ∧ u = .int .i64 x ∧ lo ≤ x ∧ x ≤ hi j ∧ Hid (x = (zs.take j).foldl f r)) (fun _ i => n - (intOf i).toNat)
  case atStart => exact ⟨0, r, Nat.zero_le _, rfl, rfl, h0, h1, Lib.hid rfl⟩
  case round =>
    obtain ⟨j, x, hj, rfl, rfl, hx0, hx1, hx⟩ := hrel
    by_cases hlt : j < n
    · obtain ⟨z, hz⟩ : ∃ z, zs[j]? = some z := ⟨_, List.getElem?_eq_getElem (by have := HN.out; omega)⟩
      obtain ⟨b, off, rfl, _, hc⟩ := HS.out (by have := HN.out; omega)
      have hcell := hc j z hz
      have hst := fold_step (f := f) (r := r) hz
      have hbz := okN_at hz HOK.out
      obtain ⟨hz0, hz1⟩ := hbz
      have hst2 := HC.out.stays j x z hx0 hx1 hz0 hz1
      have HST := Lib.hid hst
      have HST2 := Lib.hid hst2
      have heg := HC.out.enters
      have HCC := Lib.hid (HC.out.call j x z w (by omega) hx0 hx1 hz0 hz1)
      clear hc hz hst hst2
      go_wp2_with fail
      refine HCC.out.mono ?_
      rintro e w1 ⟨rfl, rfl⟩
      go_wp2_with fail
      go_round
      case rel => exact ⟨j + 1, f x z, by omega, by go_num, rfl, HST2.out.1, HST2.out.2, Lib.hid (by rw [HST.out, hx.out])⟩
      case measure => simp [intOf]; omega
    · have hjn : j = n := by omega
      have HJ := Lib.hid hjn
      clear hjn
      go_wp2_with fail
      go_ret
      refine ⟨?_, rfl⟩
      rw [hx.out, HJ.out, ← HN.out, List.take_length]
      rfl

end Go.Proofs.Ytbideeajdhejoaa
