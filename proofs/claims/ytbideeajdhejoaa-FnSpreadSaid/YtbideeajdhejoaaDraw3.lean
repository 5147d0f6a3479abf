/- What l3Draw of the model does: two new rows of few ints, apart from each other. -/
import Derived.Test.YtbideeajdhejoaaSt3
namespace Go.Proofs.Ytbideeajdhejoaa
open Go.RowKit

/-- How l3Draw ends. -/
def DrawPost (w0 : World) (g : Nat) (A : Option Addr) (n c p K : Nat) (e : Ending) (w' : World) : Prop :=
  ∃ u v L D p', e = .returned (.tuple #[u, v]) ∧ St3 w' w0.heap.size g A n c p' u v L D ∧ L.length ≤ K ∧ D.length ≤ K ∧ p' ≤ p + K ∧ w0.grownBy w' (some g)

set_option maxRecDepth 100000 in
set_option maxHeartbeats 8000000 in
theorem draw3_any (g n c p : Nat) (A : Option Addr) (w : World) (h : Rd13 w g A n c p) (hA : 0 < n → ∀ b off, A = some ⟨b, off, none⟩ → b < w.heap.size) (hp : p ≤ 1000) (hn2 : n ≤ 2000) :
    Calls Try.prog 118 #[.pointer (some ⟨g, 0, none⟩)] w (DrawPost w g A n c p 100) := by
  obtain ⟨i0, hi0, hz0', hz1', hz2'⟩ := info_parts infoJ
  have hst0 : St3 ((w.alloc (.cells #[] 3)).alloc (.cells #[] 3)) w.heap.size g A n c p (.slice (some ⟨w.heap.size, 0, none⟩) 0 0) (.slice (some ⟨w.heap.size + 1, 0, none⟩) 0 0) [] [] := by
    have r1 := (made_row w w.heap.size (Nat.le_refl _)).alloc (.cells #[] 3)
    have r2 := made_row (w.alloc (.cells #[] 3)) w.heap.size (by simp)
    rw [World.size_alloc] at r2
    exact ⟨(h.grown (World.grownBy_alloc w _ none) (by simp) (by simp)).grown (World.grownBy_alloc _ _ none) (by simp) (by simp), h.lt, hA, r1, r2, fun k h1 h2 => by simp [Value.ownBlock] at h1 h2; omega⟩
  have HST := Lib.hid hst0
  have HG0 := Lib.hid (show w.grownBy ((w.alloc (.cells #[] 3)).alloc (.cells #[] 3)) (some g) from (World.grownBy_alloc _ _ _).trans (World.grownBy_alloc _ _ _))
  have HPK := Lib.hid (pick_any g n c p A 6 _ hst0.rd (by omega) hn2 (by omega) (by omega))
  clear hst0 h hA
  go_enter Try.func118, Try.ntmps118
  go_wp2_with fail
  refine HPK.out.mono ?_
  rintro e w1 ⟨x0, rfl, hx0, hx6, hr1, hg1⟩
  obtain ⟨x, rfl⟩ : ∃ x : Nat, x0 = (x : Int) := ⟨x0.toNat, by omega⟩
  have HST := Lib.hid (HST.out.drawn hr1 hg1)
  have HG := Lib.hid (HG0.out.trans hg1)
  have hx5 : x ≤ 5 := by omega
  clear hr1 hg1 HPK HG0 hx0 hx6
  go_wp2_with fail
  go_loopw [4, 5, 11] (fun u v i wr => ∃ (j b p1 : Nat) (A3 A4 : Option Addr) (c3 c4 : Nat) (L D : List Int), j ≤ x ∧ i = .int .i64 j ∧ u = .slice A3 j c3 ∧ v = .slice A4 b c4 ∧ b ≤ 4 * j ∧ p1 ≤ p + 1 + 10 * j ∧ Hid (L.length = j ∧ D.length = b) ∧ Hid (St3 wr w.heap.size g A n c p1 (.slice A3 j c3) (.slice A4 b c4) L D) ∧ Hid (w.grownBy wr (some g))) (fun _ _ i _ => x - (intOf i).toNat)
  case atStart => exact ⟨0, 0, p + 1, _, _, 0, 0, [], [], Nat.zero_le _, rfl, rfl, rfl, by omega, by omega, Lib.hid ⟨rfl, rfl⟩, HST, HG⟩
  case round =>
    obtain ⟨j, b, p1, A3, A4, c3, c4, L, D, hj, rfl, rfl, rfl, hb4, hp1, hlen, HS, HG⟩ := hrel
    obtain ⟨wo, rfl⟩ : ∃ wo : World, wo = wr := ⟨_, rfl⟩
    by_cases hlt : j < x
    · have hp1s : p1 ≤ 100000 := by omega
      obtain ⟨hlL, hlD⟩ := hlen.out
      have hI : Ints (wo.alloc (.cells #[.int .i64 2, .int .i64 0, .int .i64 1, .int .i64 3, .int .i64 0, .int .i64 4] 3)) (some ⟨wo.heap.size, 0, none⟩) ([2, 0, 1, 3, 0, 4] : List Int) := ints_lit wo [2, 0, 1, 3, 0, 4]
      have hgl : g < wo.heap.size := HS.out.rd.lt
      have HNUM := Lib.hid (num_of g n c p1 A (some ⟨wo.heap.size, 0, none⟩) 6 [2, 0, 1, 3, 0, 4] (wo.alloc (.cells #[.int .i64 2, .int .i64 0, .int .i64 1, .int .i64 3, .int .i64 0, .int .i64 4] 3)) (HS.out.alloc _).rd hI (fun b off e => by cases e; omega) (by omega) hn2 (by decide) (by decide))
      clear hI
      go_wp2_with fail
      refine HNUM.out.mono ?_
      rintro e w2 ⟨z0, rfl, hmem, hr, hg⟩
      have HS := Lib.hid ((HS.out.alloc (.cells #[.int .i64 2, .int .i64 0, .int .i64 1, .int .i64 3, .int .i64 0, .int .i64 4] 3)).drawn hr hg)
      have HG := Lib.hid ((HG.out.trans (World.grownBy_alloc _ _ _)).trans hg)
      clear hr hg HNUM hgl
      obtain ⟨z, rfl⟩ : ∃ z : Nat, z0 = (z : Int) := ⟨z0.toNat, by simp at hmem; omega⟩
      have hz4 : z ≤ 4 := by simp at hmem; omega
      clear hmem
      have hszB : w.heap.size ≤ w2.heap.size := HG.out.size
      have hnl : ∀ (i : Nat) (u : Value), ([.int .i64 (z : Int)] : List Value)[i]? = some u → (w2.alloc (.cells #[.int .i64 (z : Int)] 3)).cell? ((⟨w2.heap.size, 0, none⟩ : Addr).add i) = some u := cell_one_new _ _ _
      have HNL := Lib.hid hnl
      have hown2 := (HS.out.alloc (.cells #[.int .i64 (z : Int)] 3)).hu
      rw [hlL] at hown2
      clear hnl
      go_wp2_with (at_builtin; (refine wpList_append_own_at _ rfl _ _ 23 rfl w.heap.size 3 i0 (.int .i64 0) 1 8 Try.underlying23 hi0 hz0' hz1' hz2' rfl (by decide) _ _ _ rfl hown2 ⟨w2.heap.size, 0, none⟩ 1 1 [.int .i64 (z : Int)] rfl rfl HNL.out ?c2 ?c3 ?c4 ?c5 ?_))
      case c2 => simp [Value.oneCell']
      case c3 => simp only [maxLen]; omega
      case c4 => omega
      case c5 => (try simp only [World.size_alloc]); omega
      intro v8 w3 hown8 hg8 _ hat8
      have hlo : ∀ k, (Value.slice A3 j c3).ownBlock = some k → w.heap.size ≤ k := fun k hk => (HS.out.hu.lt k hk).1
      obtain ⟨hst8, g3, d3, rfl⟩ := HS.out.push hlL hown8 hg8 hat8
      have HS := Lib.hid hst8
      have HG := Lib.hid (gr_ownR (HG.out.trans (World.grownBy_alloc _ _ _)) hg8 (fun k hk => .inr (hlo k hk)))
      clear hown8 hg8 hat8 hst8 hown2 hlo HNL hszB
      have HLL := Lib.hid (show (L ++ [(z : Int)]).length = j + 1 by simp [hlL])
      have HLD := Lib.hid hlD
      clear hlL hlD hlen
      go_wp2_with fail
      go_loopw [5, 21] (fun v i wr => ∃ (k b2 p2 : Nat) (A5 : Option Addr) (c5 : Nat) (D2 : List Int), k ≤ z ∧ i = .int .i64 k ∧ v = .slice A5 b2 c5 ∧ b2 ≤ b + k ∧ p2 ≤ p1 + 1 + 2 * k ∧ Hid (D2.length = b2) ∧ Hid (St3 wr w.heap.size g A n c p2 (.slice (some ⟨g3, 0, none⟩) (j + 1) d3) (.slice A5 b2 c5) (L ++ [(z : Int)]) D2) ∧ Hid (w.grownBy wr (some g))) (fun _ i _ => z - (intOf i).toNat)
      case atStart => exact ⟨0, b, p1 + 1, A4, c4, D, Nat.zero_le _, rfl, rfl, by omega, by omega, HLD, HS, HG⟩
      case round =>
        obtain ⟨k, b2, p2, A5, c5, D2, hk, rfl, rfl, hb2, hp2, hlen2, HS, HG⟩ := hrel
        obtain ⟨wi, rfl⟩ : ∃ wi : World, wi = wr := ⟨_, rfl⟩
        by_cases hlt2 : k < z
        · have hlD2 := hlen2.out
          have HPK := Lib.hid (pick_any g n c p2 A 100 wi HS.out.rd (by omega) hn2 (by omega) (by omega))
          go_wp2_with fail
          refine HPK.out.mono ?_
          rintro e w4 ⟨y, rfl, _, _, hr4, hg4⟩
          have HS := Lib.hid (HS.out.drawn hr4 hg4)
          have HG := Lib.hid (HG.out.trans hg4)
          clear hr4 hg4 HPK
          have hI : Ints (w4.alloc (.cells #[.int .i64 1, .int .i64 0, .int .i64 2, .int .i64 3, .int .i64 10006, .int .i64 y, .int .i64 5000] 3)) (some ⟨w4.heap.size, 0, none⟩) ([1, 0, 2, 3, 10006, y, 5000] : List Int) := ints_lit w4 [1, 0, 2, 3, 10006, y, 5000]
          have hgl : g < w4.heap.size := HS.out.rd.lt
          have HNUM := Lib.hid (num_of g n c (p2 + 1) A (some ⟨w4.heap.size, 0, none⟩) 7 [1, 0, 2, 3, 10006, y, 5000] (w4.alloc (.cells #[.int .i64 1, .int .i64 0, .int .i64 2, .int .i64 3, .int .i64 10006, .int .i64 y, .int .i64 5000] 3)) (HS.out.alloc _).rd hI (fun b off e => by cases e; omega) (by omega) hn2 (by simp) (by simp))
          clear hI
          go_wp2_with fail
          refine HNUM.out.mono ?_
          rintro e w5 ⟨z1, rfl, _hmem, hr, hg⟩
          have HS := Lib.hid ((HS.out.alloc (.cells #[.int .i64 1, .int .i64 0, .int .i64 2, .int .i64 3, .int .i64 10006, .int .i64 y, .int .i64 5000] 3)).drawn hr hg)
          have HG := Lib.hid ((HG.out.trans (World.grownBy_alloc _ _ _)).trans hg)
          clear hr hg HNUM hgl
          have hszB : w.heap.size ≤ w5.heap.size := HG.out.size
          have hnl : ∀ (i : Nat) (u : Value), ([.int .i64 z1] : List Value)[i]? = some u → (w5.alloc (.cells #[.int .i64 z1] 3)).cell? ((⟨w5.heap.size, 0, none⟩ : Addr).add i) = some u := cell_one_new _ _ _
          have HNL := Lib.hid hnl
          have hown2 := (HS.out.alloc (.cells #[.int .i64 z1] 3)).hv
          rw [hlD2] at hown2
          clear hnl
          go_wp2_with (at_builtin; refine wpList_append_own_at _ rfl _ _ 23 rfl w.heap.size 3 i0 (.int .i64 0) 1 8 Try.underlying23 hi0 hz0' hz1' hz2' rfl (by decide) _ _ _ rfl hown2 ⟨w5.heap.size, 0, none⟩ 1 1 [.int .i64 z1] rfl rfl HNL.out ?c2 ?c3 ?c4 ?c5 ?_)
          case c2 => simp [Value.oneCell']
          case c3 => simp only [maxLen]; omega
          case c4 => omega
          case c5 => (try simp only [World.size_alloc]); omega
          intro v8 w6 hown8 hg8 _ hat8
          have hlo : ∀ k, (Value.slice A5 b2 c5).ownBlock = some k → w.heap.size ≤ k := fun k hk => (HS.out.hv.lt k hk).1
          obtain ⟨hst8, g6, d6, rfl⟩ := HS.out.swap.push hlD2 hown8 hg8 hat8
          have HS := Lib.hid hst8.swap
          have HG := Lib.hid (gr_ownR (HG.out.trans (World.grownBy_alloc _ _ _)) hg8 (fun k hk => .inr (hlo k hk)))
          clear hown8 hg8 hat8 hst8 hown2 hlo HNL hszB
          have HL2 := Lib.hid (show (D2 ++ [z1]).length = b2 + 1 by simp [hlD2])
          clear hlD2 hlen2
          go_wp2_with fail
          go_roundw
          case rel => exact ⟨k + 1, b2 + 1, p2 + 1 + 1, some ⟨g6, 0, none⟩, d6, _, by omega, by go_num, rfl, by omega, by omega, HL2, HS, HG⟩
          case measure => simp [intOf]; omega
        · go_wp2_with fail
          go_roundw
          case rel => exact ⟨j + 1, b2, p2, _, A5, d3, c5, _, D2, by omega, by go_num, rfl, rfl, by omega, by omega, Lib.hid ⟨HLL.out, hlen2.out⟩, HS, HG⟩
          case measure => simp [intOf]; omega
    · obtain ⟨hlL, hlD⟩ := hlen.out
      have hjx : j ≤ 100 := by omega
      have hbx : b ≤ 100 := by omega
      have HLL := Lib.hid hlL
      have HLD := Lib.hid hlD
      clear hlL hlD hlen
      go_wp2_with fail
      go_ret2
      exact ⟨_, _, L, D, p1, rfl, HS.out, by rw [HLL.out]; exact hjx, by rw [HLD.out]; exact hbx, by omega, HG.out⟩

end Go.Proofs.Ytbideeajdhejoaa
