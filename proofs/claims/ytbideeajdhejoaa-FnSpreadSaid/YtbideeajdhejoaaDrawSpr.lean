/- What DrawSpreadValues of the model does. -/
import Derived.Test.YtbideeajdhejoaaPairP
namespace Go.Proofs.Ytbideeajdhejoaa
open Go.RowKit

set_option maxRecDepth 100000 in
set_option maxHeartbeats 4000000 in
theorem drawspread_any (A : Option Addr) (n0 c0 : Nat) (w : World) (h : Byts w A n0) (hc : n0 ≤ c0) (hn : n0 ≤ 9223372036854775807) :
    Calls Try.prog 48 #[.slice A n0 c0] w (PairPostK 401 w) := by
  obtain ⟨i0, hi0, hz0', hz1', hz2'⟩ := info_parts infoJ
  have HO := Lib.hid (open_any A n0 c0 w h hc hn)
  obtain ⟨g, hgg⟩ : ∃ g, w.heap.size = g := ⟨_, rfl⟩
  have HGG := Lib.hid hgg
  rw [hgg] at HO
  clear h hc hn hgg
  go_enter Try.func48, Try.ntmps48
  go_wp2_with fail
  refine HO.out.mono ?_
  rintro e w1 ⟨rfl, ⟨n, c, hn2, hr, hA⟩, hg0⟩
  have HG0 := Lib.hid hg0
  clear hg0 HO
  have HSO := Lib.hid (some3_any g n c 0 A w1 hr (fun hp b off e => Nat.lt_trans (hA hp b off e) hr.lt) (by omega) hn2)
  clear hr hA
  go_wp2_with fail
  refine HSO.out.mono ?_
  rintro e w2 ⟨u, v, L, D, p1, rfl, hst, hlL, hlD, hp1, hg2⟩
  obtain ⟨j, hjj⟩ : ∃ j, L.length = j := ⟨_, rfl⟩
  obtain ⟨b, hbb⟩ : ∃ b, D.length = b := ⟨_, rfl⟩
  obtain ⟨A3, c3, rfl⟩ : ∃ A3 c3, u = .slice A3 j c3 := by
    obtain ⟨A3, c3, e, _⟩ := (OwnI.of hst.hu rfl).form
    exact ⟨A3, c3, by rw [e, hjj]⟩
  obtain ⟨A4, c4, rfl⟩ : ∃ A4 c4, v = .slice A4 b c4 := by
    obtain ⟨A4, c4, e, _⟩ := (OwnI.of hst.hv rfl).form
    exact ⟨A4, c4, by rw [e, hbb]⟩
  have HG := Lib.hid hg2
  rw [hjj] at hlL
  rw [hbb] at hlD
  have HJ := Lib.hid hjj
  have HB := Lib.hid hbb
  have HS := Lib.hid (hst.fresh hg2.size)
  have HG := Lib.hid (HG.out.trans (World.grownBy_alloc w2 (.cells #[] 3) _))
  clear hst hg2 HSO hjj hbb HB
  go_wp2_with fail
  go_loopw [7, 18] (fun v i wr => ∃ (k p2 : Nat) (A5 : Option Addr) (c5 : Nat) (V : List Int), k ≤ j ∧ i = .int .i64 k ∧ v = .slice A5 k c5 ∧ p2 ≤ 400 + 2 * k ∧ Hid (V.length = k) ∧ Hid (St3 wr w1.heap.size g A n c p2 (.slice A3 j c3) (.slice A5 k c5) L V) ∧ Hid (w1.grownBy wr (some g))) (fun _ i _ => j - (intOf i).toNat)
  case atStart => exact ⟨0, p1, _, 0, [], Nat.zero_le _, rfl, rfl, by omega, Lib.hid rfl, HS, HG⟩
  case round =>
    obtain ⟨k, p2, A5, c5, V, hk, rfl, rfl, hp2, hlen, HS, HG⟩ := hrel
    obtain ⟨wi, rfl⟩ : ∃ wi : World, wi = wr := ⟨_, rfl⟩
    have hlV := hlen.out
    by_cases hlt : k < j
    · skip
      have HPK := Lib.hid (pick_any g n c p2 A 9 _ HS.out.rd (by omega) hn2 (by omega) (by omega))
      go_wp2_with fail
      refine HPK.out.mono ?_
      rintro e w4 ⟨y, rfl, hy0, hy1, hr4, hg4⟩
      have HS := Lib.hid (HS.out.drawn hr4 hg4)
      have HG := Lib.hid (HG.out.trans hg4)
      clear hr4 hg4 HPK
      have hI : Ints (w4.alloc (.cells #[.int .i64 1, .int .i64 0, .int .i64 7, .int .i64 10006, .int .i64 y] 3)) (some ⟨w4.heap.size, 0, none⟩) ([1, 0, 7, 10006, y] : List Int) := ints_lit w4 [1, 0, 7, 10006, y]
      have hgl : g < w4.heap.size := HS.out.rd.lt
      have HNUM := Lib.hid (num_of g n c (p2 + 1) A (some ⟨w4.heap.size, 0, none⟩) 5 [1, 0, 7, 10006, y] (w4.alloc (.cells #[.int .i64 1, .int .i64 0, .int .i64 7, .int .i64 10006, .int .i64 y] 3)) (HS.out.alloc _).rd hI (fun b off e => by cases e; omega) (by omega) hn2 (by simp) (by simp))
      clear hI
      go_wp2_with fail
      refine HNUM.out.mono ?_
      rintro e w5 ⟨z1, rfl, hmem, hr, hg⟩
      have HS := Lib.hid ((HS.out.alloc (.cells #[.int .i64 1, .int .i64 0, .int .i64 7, .int .i64 10006, .int .i64 y] 3)).drawn hr hg)
      have HG := Lib.hid ((HG.out.trans (World.grownBy_alloc _ _ _)).trans hg)
      clear hr hg HNUM hgl
      clear hmem
      have hszB : w1.heap.size ≤ w5.heap.size := HG.out.size
      have HNL := Lib.hid (cell_one_new w5 (.int .i64 z1) 3)
      have hown2 := (HS.out.alloc (.cells #[.int .i64 z1] 3)).hv
      rw [hlV] at hown2
      go_wp2_with (at_builtin; refine wpList_append_own_at _ rfl _ _ 23 rfl w1.heap.size 3 i0 (.int .i64 0) 1 8 Try.underlying23 hi0 hz0' hz1' hz2' rfl (by decide) _ _ _ rfl hown2 ⟨w5.heap.size, 0, none⟩ 1 1 [.int .i64 z1] rfl rfl HNL.out ?c2 ?c3 ?c4 ?c5 ?_)
      case c2 => simp [Value.oneCell']
      case c3 => simp only [maxLen]; omega
      case c4 => omega
      case c5 => (try simp only [World.size_alloc]); omega
      intro v8 w6 hown8 hg8 _ hat8
      have hlo : ∀ kk, (Value.slice A5 k c5).ownBlock = some kk → w1.heap.size ≤ kk := fun kk hkk => (HS.out.hv.lt kk hkk).1
      obtain ⟨hst8, g6, d6, rfl⟩ := HS.out.swap.push hlV hown8 hg8 hat8
      have HS := Lib.hid hst8.swap
      have HG := Lib.hid (gr_ownR (HG.out.trans (World.grownBy_alloc _ _ _)) hg8 (fun kk hkk => .inr (hlo kk hkk)))
      clear hown8 hg8 hat8 hst8 hown2 hlo HNL hszB
      have HL2 := Lib.hid (show (V ++ [z1]).length = k + 1 by simp [hlV])
      clear hlV hlen
      go_wp2_with fail
      go_roundw
      case rel => exact ⟨k + 1, p2 + 1 + 1, some ⟨g6, 0, none⟩, d6, _, by omega, by go_num, rfl, by omega, HL2, HS, HG⟩
      case measure => simp [intOf]; omega
    · skip
      have HPK := Lib.hid (pick_any g n c p2 A 16 _ HS.out.rd (by omega) hn2 (by omega) (by omega))
      go_wp2_with fail
      refine HPK.out.mono ?_
      rintro e w4 ⟨x, rfl, hy0, hy1, hr4, hg4⟩
      have HS := Lib.hid (HS.out.drawn hr4 hg4)
      have HG := Lib.hid (HG.out.trans hg4)
      clear hr4 hg4 HPK
      by_cases x0 : x = 0
      · subst x0
        have hI : Ints (w4.alloc (.cells #[.int .i64 1, .int .i64 (-1)] 3)) (some ⟨w4.heap.size, 0, none⟩) ([1, -1] : List Int) := ints_lit w4 [1, -1]
        have hgl : g < w4.heap.size := HS.out.rd.lt
        have HNUM := Lib.hid (num_of g n c (p2 + 1) A (some ⟨w4.heap.size, 0, none⟩) 2 [1, -1] (w4.alloc (.cells #[.int .i64 1, .int .i64 (-1)] 3)) (HS.out.alloc _).rd hI (fun b off e => by cases e; omega) (by omega) hn2 (by simp) (by simp))
        clear hI
        go_wp2_with fail
        refine HNUM.out.mono ?_
        rintro e w5 ⟨z1, rfl, hmem, hr, hg⟩
        have HS := Lib.hid ((HS.out.alloc (.cells #[.int .i64 1, .int .i64 (-1)] 3)).drawn hr hg)
        have HG := Lib.hid ((HG.out.trans (World.grownBy_alloc _ _ _)).trans hg)
        clear hr hg HNUM hgl
        clear hmem
        have hszB : w1.heap.size ≤ w5.heap.size := HG.out.size
        have HNL := Lib.hid (cell_one_new w5 (.int .i64 z1) 3)
        have hown2 := (HS.out.alloc (.cells #[.int .i64 z1] 3)).hv
        rw [hlV] at hown2
        go_wp2_with (at_builtin; refine wpList_append_own_at _ rfl _ _ 23 rfl w1.heap.size 3 i0 (.int .i64 0) 1 8 Try.underlying23 hi0 hz0' hz1' hz2' rfl (by decide) _ _ _ rfl hown2 ⟨w5.heap.size, 0, none⟩ 1 1 [.int .i64 z1] rfl rfl HNL.out ?c2 ?c3 ?c4 ?c5 ?_)
        case c2 => simp [Value.oneCell']
        case c3 => simp only [maxLen]; omega
        case c4 => omega
        case c5 => (try simp only [World.size_alloc]); omega
        intro v8 w6 hown8 hg8 _ hat8
        have hlo : ∀ kk, (Value.slice A5 k c5).ownBlock = some kk → w1.heap.size ≤ kk := fun kk hkk => (HS.out.hv.lt kk hkk).1
        obtain ⟨hst8, g6, d6, rfl⟩ := HS.out.swap.push hlV hown8 hg8 hat8
        have HS := Lib.hid hst8.swap
        have HG := Lib.hid (gr_ownR (HG.out.trans (World.grownBy_alloc _ _ _)) hg8 (fun kk hkk => .inr (hlo kk hkk)))
        clear hown8 hg8 hat8 hst8 hown2 hlo HNL hszB
        have HL2 := Lib.hid (show (V ++ [z1]).length = k + 1 by simp [hlV])
        clear hlV hlen
        go_wp2_with fail
        go_ret2
        exact ⟨_, _, L, _, rfl, own_base HS.out.hu (Nat.zero_le _), own_base HS.out.hv (Nat.zero_le _), by rw [HJ.out]; omega, by rw [HL2.out]; omega, gr_ownF HG0.out HG.out (fun k hk => by cases hk; exact Nat.le_of_eq HGG.out)⟩
      · have hx0 : (x == 0) = false := by simp [x0]
        go_wp2_with fail
        go_ret2
        exact ⟨_, _, L, V, rfl, own_base HS.out.hu (Nat.zero_le _), own_base HS.out.hv (Nat.zero_le _), by rw [HJ.out]; omega, by rw [hlV]; omega, gr_ownF HG0.out HG.out (fun k hk => by cases hk; exact Nat.le_of_eq HGG.out)⟩

end Go.Proofs.Ytbideeajdhejoaa
