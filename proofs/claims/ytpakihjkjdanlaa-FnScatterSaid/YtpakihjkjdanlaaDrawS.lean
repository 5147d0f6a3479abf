/- What l4Order and DrawScatterData of the model do: lists of few numbers. -/
import Derived.Test.YtpakihjkjdanlaaRegO
import Derived.Test.YtpakihjkjdanlaaDrawG
namespace Go.Proofs.Ytpakihjkjdanlaa
open Go.RowKit

set_option maxRecDepth 100000 in
set_option maxHeartbeats 4000000 in
theorem order_any (g n c p N : Nat) (A : Option Addr) (w : World) (h : Rd13 w g A n c p) (hA : 0 < n → ∀ b off, A = some ⟨b, off, none⟩ → b < w.heap.size) (hp : p ≤ 1000) (hn2 : n ≤ 2000) (hN : N ≤ 100) :
    Calls Try.prog 81 #[.pointer (some ⟨g, 0, none⟩), .int .i64 (N : Int)] w (fun e w' => ∃ u L p', e = .returned u ∧ St3 w' w.heap.size g A n c p' u (.slice none 0 0) L [] ∧ L.length = N ∧ p' ≤ p + N + 3 ∧ w.grownBy w' (some g)) := by
  have hst0 : St3 (w.alloc (.cells #[] 3)) w.heap.size g A n c p (.slice (some ⟨w.heap.size, 0, none⟩) 0 0) (.slice none 0 0) [] [] :=
    ⟨h.grown (World.grownBy_alloc w _ none) (by simp) (by simp), h.lt, hA, made_row w w.heap.size (Nat.le_refl _), World.ownsRow_nil _ _ _ _, fun k _ h2 => by simp [Value.ownBlock] at h2⟩
  have HS := Lib.hid hst0
  have HG := Lib.hid (show w.grownBy (w.alloc (.cells #[] 3)) (some g) from World.grownBy_alloc _ _ _)
  clear hst0 h hA
  go_enter Try.func81, Try.ntmps81
  go_wp2_with fail
  go_loopw [5, 10] (fun u i wr => ∃ (t p1 h5 c5 : Nat) (V : List Int), t ≤ N ∧ i = .int .i64 t ∧ u = .slice (some ⟨h5, 0, none⟩) t c5 ∧ p1 ≤ p + t ∧ Hid (V.length = t) ∧ Hid (St3 wr w.heap.size g A n c p1 (.slice (some ⟨h5, 0, none⟩) t c5) (.slice none 0 0) V []) ∧ Hid (w.grownBy wr (some g))) (fun _ i _ => N - (intOf i).toNat)
  case atStart => exact ⟨0, p, w.heap.size, 0, [], Nat.zero_le _, rfl, rfl, by omega, Lib.hid rfl, HS, HG⟩
  case round =>
    obtain ⟨t, p1, h5, c5, V, ht, rfl, rfl, hp1, hlen, HS, HG⟩ := hrel
    obtain ⟨wi, rfl⟩ : ∃ wi : World, wi = wr := ⟨_, rfl⟩
    by_cases hlt : t < N
    · have HPK := Lib.hid (pick_any g n c p1 A ((t : Int) + 1) wi HS.out.rd (by omega) hn2 (by omega) (by omega))
      go_wp2_with fail
      refine HPK.out.mono ?_
      rintro e w4 ⟨y, rfl, hy0, hy1, hr4, hg4⟩
      have HS := Lib.hid (HS.out.drawn hr4 hg4)
      have HG := Lib.hid (HG.out.trans hg4)
      obtain ⟨k, rfl⟩ : ∃ k : Nat, y = (k : Int) := ⟨y.toNat, by omega⟩
      have hk : k ≤ t := by omega
      clear hr4 hg4 HPK hy0 hy1
      have hu := HS.out.hu
      rw [hlen.out] at hu
      have htc : t ≤ c5 := by
        rcases hu.2 with ⟨hv, _⟩ | ⟨g', cap, cur, hv, _, _, hnc, _⟩
        · cases hv
        · cases hv; exact hnc
      have hc1 : ∀ (j : Nat) (z : Int), V[j]? = some z → w4.cell? ⟨h5, j, none⟩ = some (.int .i64 z) := fun j z hj => by
        have hjl := (List.getElem?_eq_some_iff.1 hj).1
        have h1 := hu.cellAt j (by have := hlen.out; omega)
        rw [List.getElem?_map, hj] at h1
        simpa using h1
      have hlV := hlen.out
      clear hu
      go_wp2_with fail
      refine go_all ?hpan w4 h5 t c5 k V hlV (by omega) hk hc1 htc (fun A2 W v y17 y21 y23 y24 ho hg => ?_)
      case hpan => exact fun _ _ d _ _ h => by cases d <;> exact h
      obtain ⟨h6, c6, rfl⟩ := own_succ5 ho
      have hVL : (V.take k ++ [(t : Int)] ++ V.drop k).length = t + 1 := by simp only [List.length_append, List.length_take, List.length_drop, List.length_singleton]; omega
      have HS2 : Hid (St3 W w.heap.size g A n c (p1 + 1) (.slice (some ⟨h6, 0, none⟩) (t + 1) c6) (.slice none 0 0) (V.take k ++ [(t : Int)] ++ V.drop k) []) := Lib.hid
        ⟨HS.out.rd.grown hg (by simp) (by simp), HS.out.gB, HS.out.aB, by rw [hVL]; exact own_base ho HG.out.size, World.ownsRow_nil _ _ _ _, fun k _ h2 => by simp [Value.ownBlock] at h2⟩
      have HG2 : Hid (w.grownBy W (some g)) := Lib.hid (HG.out.trans (show w4.grownBy W (some g) from ⟨hg.os, hg.tape, hg.output, hg.size, fun q hq _ => hg.block q hq (by simp)⟩))
      have HVL := Lib.hid hVL
      clear hc1 hlV ho hg hVL
      go_wp2_with fail
      go_roundw
      case rel => exact ⟨t + 1, p1 + 1, h6, c6, _, by omega, by go_num, rfl, by omega, HVL, HS2, HG2⟩
      case measure => simp [intOf]; omega
    · have htN : t = N := by omega
      subst htN
      have hlV := hlen.out
      by_cases hN0 : t = 0
      · subst hN0
        go_wp2_with fail
        go_ret
        exact ⟨_, V, p1, rfl, HS.out, hlV, by omega, HG.out⟩
      · have htp : (0 : Int) < (t : Int) := by omega
        have HPK := Lib.hid (pick_any g n c p1 A 6 wi HS.out.rd (by omega) hn2 (by omega) (by omega))
        go_wp2_with fail
        refine HPK.out.mono ?_
        rintro e w3 ⟨q, rfl, hq0, hq1, hr4, hg4⟩
        have HS := Lib.hid (HS.out.drawn hr4 hg4)
        have HG := Lib.hid (HG.out.trans hg4)
        clear hr4 hg4 HPK
        by_cases hq : q = 0
        · subst hq
          have HPK := Lib.hid (pick_any g n c (p1 + 1) A (t : Int) w3 HS.out.rd (by omega) hn2 (by omega) (by omega))
          go_wp2_with fail
          refine HPK.out.mono ?_
          rintro e w4 ⟨y, rfl, hy0, hy1, hr4, hg4⟩
          have HS := Lib.hid (HS.out.drawn hr4 hg4)
          have HG := Lib.hid (HG.out.trans hg4)
          obtain ⟨k, rfl⟩ : ∃ k : Nat, y = (k : Int) := ⟨y.toNat, by omega⟩
          have hk : k < t := by omega
          clear hr4 hg4 HPK hy0
          have hI : Ints (w4.alloc (.cells #[.int .i64 0, .int .i64 t, .int .i64 (-1), .int .i64 (((t : Int) - 1))] 3)) (some ⟨w4.heap.size, 0, none⟩) ([0, t, -1, ((t : Int) - 1)] : List Int) := ints_lit w4 [0, t, -1, ((t : Int) - 1)]
          have hgl : g < w4.heap.size := HS.out.rd.lt
          have HNUM := Lib.hid (num_of g n c (p1 + 1 + 1) A (some ⟨w4.heap.size, 0, none⟩) 4 [0, t, -1, ((t : Int) - 1)] (w4.alloc (.cells #[.int .i64 0, .int .i64 t, .int .i64 (-1), .int .i64 (((t : Int) - 1))] 3)) (HS.out.alloc _).rd hI (fun b off e => by cases e; omega) (by omega) hn2 (by simp) (by simp))
          clear hI
          go_wp2_with fail
          refine HNUM.out.mono ?_
          rintro e w5 ⟨z1, rfl, hmem, hr, hg⟩
          have HS := Lib.hid ((HS.out.alloc (.cells #[.int .i64 0, .int .i64 t, .int .i64 (-1), .int .i64 (((t : Int) - 1))] 3)).drawn hr hg)
          have HG := Lib.hid ((HG.out.trans (World.grownBy_alloc _ _ _)).trans hg)
          clear hr hg HNUM hgl
          clear hmem
          have hu := HS.out.hu
          rw [hlV] at hu
          obtain ⟨x, hx⟩ : ∃ x, (V.map (Value.int .i64))[k]? = some x := ⟨_, List.getElem?_eq_getElem (by rw [List.length_map]; omega)⟩
          have hcell : w5.cell? ⟨h5, k, none⟩ = some x := by have := (hu.cellAt k (by omega)).trans hx; simpa using this
          have hfr : w5.frozen? ⟨h5, k, none⟩ = false := by have := hu.frozenAt k; simpa using this
          have hst := hu.stored k (.int .i64 z1)
          have hlo := (hu.lt h5 rfl).1
          have hg5 := HS.out.gB
          have HS2 : Hid (St3 (w5.setCell ⟨h5, k, none⟩ (.int .i64 z1)) w.heap.size g A n c (p1 + 1 + 1 + 1) (.slice (some ⟨h5, 0, none⟩) t c5) (.slice none 0 0) (V.set k z1) []) := Lib.hid
            ⟨HS.out.rd.grown hst.2 (by simp; omega) (fun hp b off e => by have := HS.out.aB hp b off e; simp; omega), HS.out.gB, HS.out.aB, by rw [List.length_set, hlV, List.map_set]; exact hst.1, World.ownsRow_nil _ _ _ _, fun k _ h2 => by simp [Value.ownBlock] at h2⟩
          have HG2 := Lib.hid (gr_ownR HG.out hst.2 (fun q hq => .inr (by cases hq; exact hlo)))
          have HVL := Lib.hid (show (V.set k z1).length = t by rw [List.length_set, hlV])
          clear hu hx hst hlV
          go_wp2_with fail
          go_ret
          exact ⟨_, V.set k z1, _, rfl, HS2.out, HVL.out, by omega, HG2.out⟩
        · have hq2 : (q == 0) = false := by simp [hq]
          go_wp2_with fail
          go_ret
          exact ⟨_, V, p1 + 1, rfl, HS.out, hlV, by omega, HG.out⟩

set_option maxRecDepth 100000 in
set_option maxHeartbeats 4000000 in
theorem drawscatter_any (A : Option Addr) (n0 c0 : Nat) (w : World) (h : Byts w A n0) (hc : n0 ≤ c0) (hn : n0 ≤ 9223372036854775807) :
    Calls Try.prog 38 #[.slice A n0 c0] w (PairPostK 401 w) := by
  obtain ⟨i0, hi0, hz0', hz1', hz2'⟩ := info_parts infoJ
  have HO := Lib.hid (open_any A n0 c0 w h hc hn)
  obtain ⟨g, hgg⟩ : ∃ g, w.heap.size = g := ⟨_, rfl⟩
  have HGG := Lib.hid hgg
  rw [hgg] at HO
  clear h hc hn hgg
  go_enter Try.func38, Try.ntmps38
  go_wp2_with fail
  refine HO.out.mono ?_
  rintro e w1 ⟨rfl, ⟨n, c, hn2, hr, hA⟩, hg0⟩
  have HG0 := Lib.hid hg0
  clear hg0 HO
  have HSO := Lib.hid (nums4_any g n c 0 A w1 hr (fun hp b off e => Nat.lt_trans (hA hp b off e) hr.lt) (by omega) hn2)
  clear hr hA
  go_wp2_with fail
  refine HSO.out.mono ?_
  rintro e w2 ⟨u, L, p1, rfl, hst, hlL, hp1, hg2⟩
  obtain ⟨j, hjj⟩ : ∃ j, L.length = j := ⟨_, rfl⟩
  obtain ⟨A3, c3, rfl⟩ : ∃ A3 c3, u = .slice A3 j c3 := by
    obtain ⟨A3, c3, e, _⟩ := (OwnI.of hst.hu rfl).form
    exact ⟨A3, c3, by rw [e, hjj]⟩
  rw [hjj] at hlL
  have HJ := Lib.hid hjj
  have HS := Lib.hid hst
  have HG := Lib.hid hg2
  have HOR := Lib.hid (order_any g n c p1 j A w2 hst.rd (fun hp b off e => Nat.lt_of_lt_of_le (hst.aB hp b off e) hg2.size) (by omega) hn2 (by omega))
  clear hst hg2 HSO hjj
  go_wp2_with fail
  refine HOR.out.mono ?_
  rintro e w3 ⟨v, F, p2, rfl, hst, hlF, hp2, hg3⟩
  have hu3 := own_keep HS.out.hu (fun k hk => hg3.block k (HS.out.hu.lt k hk).2 (by have := (HS.out.hu.lt k hk).1; have := HS.out.gB; simp; omega))
  have HP := Lib.hid (And.intro (own_base hu3 (Nat.zero_le _)) (own_base hst.hu (Nat.zero_le _)))
  have HG := Lib.hid (HG.out.trans hg3)
  have HF := Lib.hid hlF
  clear hst hg3 hu3 HOR hlF
  go_wp2_with fail
  go_ret2
  exact ⟨_, _, L, F, rfl, HP.out.1, HP.out.2, by rw [HJ.out]; omega, by rw [HF.out]; omega, gr_own HG0.out HG.out (fun k hk => by cases hk; exact Nat.le_of_eq HGG.out)⟩

end Go.Proofs.Ytpakihjkjdanlaa
