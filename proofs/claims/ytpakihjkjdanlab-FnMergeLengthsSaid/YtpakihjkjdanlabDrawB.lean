/- What DrawSpreadValues, DrawPackSegments and DrawMergeLengths of the model do: lists of few numbers. -/
import Derived.Test.YtpakihjkjdanlabDrawn
namespace Go.Proofs.Ytpakihjkjdanlab
open Go.RowKit

set_option maxRecDepth 100000 in
set_option maxHeartbeats 4000000 in
theorem drawspread_any (A : Option Addr) (n0 c0 : Nat) (w : World) (h : Byts w A n0) (hc : n0 ≤ c0) (hn : n0 ≤ 9223372036854775807) :
    Calls Try.prog 38 #[.slice A n0 c0] w (PairPostK 401 w) := by
  obtain ⟨i0, hi0, hz0', hz1', hz2'⟩ := info_parts infoJ
  have HO := Lib.hid (open_any A n0 c0 w h hc hn)
  obtain ⟨g, hgg⟩ : ∃ g, w.heap.size = g := ⟨_, rfl⟩
  have HGG := Lib.hid hgg
  rw [hgg] at HO
  clear h hc hn hgg
  go_enter Try.func38, Try.ntmps38
  go_wp2_with fail
  refine HO.out.mono ?_
  rintro e w1 ⟨rfl, ⟨n, c, hn2, hr, hA⟩, hg0⟩
  have HG0 := Lib.hid hg0
  clear hg0 HO
  have HSO := Lib.hid (some3_any g n c 0 A w1 hr (fun hp b off e => Nat.lt_trans (hA hp b off e) hr.lt) (by omega) hn2)
  clear hr hA
  go_wp2_with fail
  refine HSO.out.mono ?_
  rintro e w2 ⟨u, v, L, D, p1, rfl, hst, hlL, hlD, hp1, hg2⟩
  obtain ⟨j, hjj⟩ : ∃ j, L.length = j := ⟨_, rfl⟩
  obtain ⟨b, hbb⟩ : ∃ b, D.length = b := ⟨_, rfl⟩
  obtain ⟨A3, c3, rfl⟩ : ∃ A3 c3, u = .slice A3 j c3 := by
    obtain ⟨A3, c3, e, _⟩ := (OwnI.of hst.hu rfl).form
    exact ⟨A3, c3, by rw [e, hjj]⟩
  obtain ⟨A4, c4, rfl⟩ : ∃ A4 c4, v = .slice A4 b c4 := by
    obtain ⟨A4, c4, e, _⟩ := (OwnI.of hst.hv rfl).form
    exact ⟨A4, c4, by rw [e, hbb]⟩
  have HG := Lib.hid hg2
  rw [hjj] at hlL
  rw [hbb] at hlD
  have HJ := Lib.hid hjj
  have HB := Lib.hid hbb
  have HS := Lib.hid (hst.fresh hg2.size)
  have HG := Lib.hid (HG.out.trans (World.grownBy_alloc w2 (.cells #[] 3) _))
  clear hst hg2 HSO hjj hbb HB
  go_wp2_with fail
  go_loopw [7, 18] (fun v i wr => ∃ (k p2 : Nat) (A5 : Option Addr) (c5 : Nat) (V : List Int), k ≤ j ∧ i = .int .i64 k ∧ v = .slice A5 k c5 ∧ p2 ≤ 400 + 2 * k ∧ Hid (V.length = k) ∧ Hid (St3 wr w1.heap.size g A n c p2 (.slice A3 j c3) (.slice A5 k c5) L V) ∧ Hid (w1.grownBy wr (some g))) (fun _ i _ => j - (intOf i).toNat)
  case atStart => exact ⟨0, p1, _, 0, [], Nat.zero_le _, rfl, rfl, by omega, Lib.hid rfl, HS, HG⟩
  case round =>
    obtain ⟨k, p2, A5, c5, V, hk, rfl, rfl, hp2, hlen, HS, HG⟩ := hrel
    obtain ⟨wi, rfl⟩ : ∃ wi : World, wi = wr := ⟨_, rfl⟩
    have hlV := hlen.out
    by_cases hlt : k < j
    · skip
      have HPK := Lib.hid (pick_any g n c p2 A 9 _ HS.out.rd (by omega) hn2 (by omega) (by omega))
      go_wp2_with fail
      refine HPK.out.mono ?_
      rintro e w4 ⟨y, rfl, hy0, hy1, hr4, hg4⟩
      have HS := Lib.hid (HS.out.drawn hr4 hg4)
      have HG := Lib.hid (HG.out.trans hg4)
      clear hr4 hg4 HPK
      have hI : Ints (w4.alloc (.cells #[.int .i64 1, .int .i64 0, .int .i64 7, .int .i64 10006, .int .i64 y] 3)) (some ⟨w4.heap.size, 0, none⟩) ([1, 0, 7, 10006, y] : List Int) := ints_lit w4 [1, 0, 7, 10006, y]
      have hgl : g < w4.heap.size := HS.out.rd.lt
      have HNUM := Lib.hid (num_of g n c (p2 + 1) A (some ⟨w4.heap.size, 0, none⟩) 5 [1, 0, 7, 10006, y] (w4.alloc (.cells #[.int .i64 1, .int .i64 0, .int .i64 7, .int .i64 10006, .int .i64 y] 3)) (HS.out.alloc _).rd hI (fun b off e => by cases e; omega) (by omega) hn2 (by simp) (by simp))
      clear hI
      go_wp2_with fail
      refine HNUM.out.mono ?_
      rintro e w5 ⟨z1, rfl, hmem, hr, hg⟩
      have HS := Lib.hid ((HS.out.alloc (.cells #[.int .i64 1, .int .i64 0, .int .i64 7, .int .i64 10006, .int .i64 y] 3)).drawn hr hg)
      have HG := Lib.hid ((HG.out.trans (World.grownBy_alloc _ _ _)).trans hg)
      clear hr hg HNUM hgl
      clear hmem
      have hszB : w1.heap.size ≤ w5.heap.size := HG.out.size
      have HNL := Lib.hid (cell_one_new w5 (.int .i64 z1) 3)
      have hown2 := (HS.out.alloc (.cells #[.int .i64 z1] 3)).hv
      rw [hlV] at hown2
      go_wp2_with (at_builtin; refine wpList_append_own_at _ rfl _ _ 22 rfl w1.heap.size 3 i0 (.int .i64 0) 1 8 Try.underlying22 hi0 hz0' hz1' hz2' rfl (by decide) _ _ _ rfl hown2 ⟨w5.heap.size, 0, none⟩ 1 1 [.int .i64 z1] rfl rfl HNL.out ?c2 ?c3 ?c4 ?c5 ?_)
      case c2 => simp [Value.oneCell']
      case c3 => simp only [maxLen]; omega
      case c4 => omega
      case c5 => (try simp only [World.size_alloc]); omega
      intro v8 w6 hown8 hg8 _ hat8
      have hlo : ∀ kk, (Value.slice A5 k c5).ownBlock = some kk → w1.heap.size ≤ kk := fun kk hkk => (HS.out.hv.lt kk hkk).1
      obtain ⟨hst8, g6, d6, rfl⟩ := HS.out.swap.push hlV hown8 hg8 hat8
      have HS := Lib.hid hst8.swap
      have HG := Lib.hid (gr_ownR (HG.out.trans (World.grownBy_alloc _ _ _)) hg8 (fun kk hkk => .inr (hlo kk hkk)))
      clear hown8 hg8 hat8 hst8 hown2 hlo HNL hszB
      have HL2 := Lib.hid (show (V ++ [z1]).length = k + 1 by simp [hlV])
      clear hlV hlen
      go_wp2_with fail
      go_roundw
      case rel => exact ⟨k + 1, p2 + 1 + 1, some ⟨g6, 0, none⟩, d6, _, by omega, by go_num, rfl, by omega, HL2, HS, HG⟩
      case measure => simp [intOf]; omega
    · skip
      have HPK := Lib.hid (pick_any g n c p2 A 16 _ HS.out.rd (by omega) hn2 (by omega) (by omega))
      go_wp2_with fail
      refine HPK.out.mono ?_
      rintro e w4 ⟨x, rfl, hy0, hy1, hr4, hg4⟩
      have HS := Lib.hid (HS.out.drawn hr4 hg4)
      have HG := Lib.hid (HG.out.trans hg4)
      clear hr4 hg4 HPK
      by_cases x0 : x = 0
      · subst x0
        have hI : Ints (w4.alloc (.cells #[.int .i64 1, .int .i64 (-1)] 3)) (some ⟨w4.heap.size, 0, none⟩) ([1, -1] : List Int) := ints_lit w4 [1, -1]
        have hgl : g < w4.heap.size := HS.out.rd.lt
        have HNUM := Lib.hid (num_of g n c (p2 + 1) A (some ⟨w4.heap.size, 0, none⟩) 2 [1, -1] (w4.alloc (.cells #[.int .i64 1, .int .i64 (-1)] 3)) (HS.out.alloc _).rd hI (fun b off e => by cases e; omega) (by omega) hn2 (by simp) (by simp))
        clear hI
        go_wp2_with fail
        refine HNUM.out.mono ?_
        rintro e w5 ⟨z1, rfl, hmem, hr, hg⟩
        have HS := Lib.hid ((HS.out.alloc (.cells #[.int .i64 1, .int .i64 (-1)] 3)).drawn hr hg)
        have HG := Lib.hid ((HG.out.trans (World.grownBy_alloc _ _ _)).trans hg)
        clear hr hg HNUM hgl
        clear hmem
        have hszB : w1.heap.size ≤ w5.heap.size := HG.out.size
        have HNL := Lib.hid (cell_one_new w5 (.int .i64 z1) 3)
        have hown2 := (HS.out.alloc (.cells #[.int .i64 z1] 3)).hv
        rw [hlV] at hown2
        go_wp2_with (at_builtin; refine wpList_append_own_at _ rfl _ _ 22 rfl w1.heap.size 3 i0 (.int .i64 0) 1 8 Try.underlying22 hi0 hz0' hz1' hz2' rfl (by decide) _ _ _ rfl hown2 ⟨w5.heap.size, 0, none⟩ 1 1 [.int .i64 z1] rfl rfl HNL.out ?c2 ?c3 ?c4 ?c5 ?_)
        case c2 => simp [Value.oneCell']
        case c3 => simp only [maxLen]; omega
        case c4 => omega
        case c5 => (try simp only [World.size_alloc]); omega
        intro v8 w6 hown8 hg8 _ hat8
        have hlo : ∀ kk, (Value.slice A5 k c5).ownBlock = some kk → w1.heap.size ≤ kk := fun kk hkk => (HS.out.hv.lt kk hkk).1
        obtain ⟨hst8, g6, d6, rfl⟩ := HS.out.swap.push hlV hown8 hg8 hat8
        have HS := Lib.hid hst8.swap
        have HG := Lib.hid (gr_ownR (HG.out.trans (World.grownBy_alloc _ _ _)) hg8 (fun kk hkk => .inr (hlo kk hkk)))
        clear hown8 hg8 hat8 hst8 hown2 hlo HNL hszB
        have HL2 := Lib.hid (show (V ++ [z1]).length = k + 1 by simp [hlV])
        clear hlV hlen
        go_wp2_with fail
        go_ret2
        exact ⟨_, _, L, _, rfl, own_base HS.out.hu (Nat.zero_le _), own_base HS.out.hv (Nat.zero_le _), by rw [HJ.out]; omega, by rw [HL2.out]; omega, gr_own HG0.out HG.out (fun k hk => by cases hk; exact Nat.le_of_eq HGG.out)⟩
      · have hx0 : (x == 0) = false := by simp [x0]
        go_wp2_with fail
        go_ret2
        exact ⟨_, _, L, V, rfl, own_base HS.out.hu (Nat.zero_le _), own_base HS.out.hv (Nat.zero_le _), by rw [HJ.out]; omega, by rw [hlV]; omega, gr_own HG0.out HG.out (fun k hk => by cases hk; exact Nat.le_of_eq HGG.out)⟩

set_option maxRecDepth 100000 in
set_option maxHeartbeats 4000000 in
theorem drawpack_any (A : Option Addr) (n0 c0 : Nat) (w : World) (h : Byts w A n0) (hc : n0 ≤ c0) (hn : n0 ≤ 9223372036854775807) :
    Calls Try.prog 40 #[.slice A n0 c0] w (TriPostK 401 w) := by
  obtain ⟨i0, hi0, hz0', hz1', hz2'⟩ := info_parts infoJ
  have HO := Lib.hid (open_any A n0 c0 w h hc hn)
  obtain ⟨g, hgg⟩ : ∃ g, w.heap.size = g := ⟨_, rfl⟩
  have HGG := Lib.hid hgg
  rw [hgg] at HO
  clear h hc hn hgg
  go_enter Try.func40, Try.ntmps40
  go_wp2_with fail
  refine HO.out.mono ?_
  rintro e w1 ⟨rfl, ⟨n, c, hn2, hr, hA⟩, hg0⟩
  have HG0 := Lib.hid hg0
  clear hg0 HO
  have HSO := Lib.hid (some3_any g n c 0 A w1 hr (fun hp b off e => Nat.lt_trans (hA hp b off e) hr.lt) (by omega) hn2)
  clear hr hA
  go_wp2_with fail
  refine HSO.out.mono ?_
  rintro e w2 ⟨u, v, L, D, p1, rfl, hst, hlL, hlD, hp1, hg2⟩
  obtain ⟨j, hjj⟩ : ∃ j, L.length = j := ⟨_, rfl⟩
  obtain ⟨b, hbb⟩ : ∃ b, D.length = b := ⟨_, rfl⟩
  obtain ⟨A3, c3, rfl⟩ : ∃ A3 c3, u = .slice A3 j c3 := by
    obtain ⟨A3, c3, e, _⟩ := (OwnI.of hst.hu rfl).form
    exact ⟨A3, c3, by rw [e, hjj]⟩
  obtain ⟨A4, c4, rfl⟩ : ∃ A4 c4, v = .slice A4 b c4 := by
    obtain ⟨A4, c4, e, _⟩ := (OwnI.of hst.hv rfl).form
    exact ⟨A4, c4, by rw [e, hbb]⟩
  have HG := Lib.hid hg2
  rw [hjj] at hlL
  rw [hbb] at hlD
  have HJ := Lib.hid hjj
  have HB := Lib.hid hbb
  have HS := Lib.hid (hst.fresh hg2.size)
  have HT := Lib.hid (hst.swap.fresh hg2.size)
  have HG := Lib.hid (HG.out.trans (World.grownBy_alloc w2 (.cells #[] 3) _))
  clear hst hg2 HSO hjj hbb
  go_wp2_with fail
  go_loopw [8, 19] (fun v i wr => ∃ (k p2 : Nat) (A5 : Option Addr) (c5 : Nat) (V : List Int), k ≤ b ∧ i = .int .i64 k ∧ v = .slice A5 k c5 ∧ p2 ≤ 400 + 2 * k ∧ Hid (V.length = k) ∧ Hid (St3 wr w1.heap.size g A n c p2 (.slice A3 j c3) (.slice A5 k c5) L V) ∧ Hid (St3 wr w1.heap.size g A n c p2 (.slice A4 b c4) (.slice A5 k c5) D V) ∧ Hid (w1.grownBy wr (some g))) (fun _ i _ => b - (intOf i).toNat)
  case atStart => exact ⟨0, p1, _, 0, [], Nat.zero_le _, rfl, rfl, by omega, Lib.hid rfl, HS, HT, HG⟩
  case round =>
    obtain ⟨k, p2, A5, c5, V, hk, rfl, rfl, hp2, hlen, HS, HT, HG⟩ := hrel
    obtain ⟨wi, rfl⟩ : ∃ wi : World, wi = wr := ⟨_, rfl⟩
    have hlV := hlen.out
    by_cases hlt : k < b
    · skip
      have hI : Ints (wi.alloc (.cells #[.int .i64 1, .int .i64 0, .int .i64 0, .int .i64 1, .int .i64 5] 3)) (some ⟨wi.heap.size, 0, none⟩) ([1, 0, 0, 1, 5] : List Int) := ints_lit wi [1, 0, 0, 1, 5]
      have hgl : g < wi.heap.size := HS.out.rd.lt
      have HNUM := Lib.hid (num_of g n c p2 A (some ⟨wi.heap.size, 0, none⟩) 5 [1, 0, 0, 1, 5] (wi.alloc (.cells #[.int .i64 1, .int .i64 0, .int .i64 0, .int .i64 1, .int .i64 5] 3)) (HS.out.alloc _).rd hI (fun b off e => by cases e; omega) (by omega) hn2 (by simp) (by simp))
      clear hI
      go_wp2_with fail
      refine HNUM.out.mono ?_
      rintro e w5 ⟨z1, rfl, hmem, hr, hg⟩
      have HS := Lib.hid ((HS.out.alloc (.cells #[.int .i64 1, .int .i64 0, .int .i64 0, .int .i64 1, .int .i64 5] 3)).drawn hr hg)
      have HT := Lib.hid ((HT.out.alloc (.cells #[.int .i64 1, .int .i64 0, .int .i64 0, .int .i64 1, .int .i64 5] 3)).drawn hr hg)
      have HG := Lib.hid ((HG.out.trans (World.grownBy_alloc _ _ _)).trans hg)
      clear hr hg HNUM hgl
      clear hmem
      have hszB : w1.heap.size ≤ w5.heap.size := HG.out.size
      have HNL := Lib.hid (cell_one_new w5 (.int .i64 z1) 3)
      have hown2 := (HS.out.alloc (.cells #[.int .i64 z1] 3)).hv
      rw [hlV] at hown2
      go_wp2_with (at_builtin; refine wpList_append_own_at _ rfl _ _ 22 rfl w1.heap.size 3 i0 (.int .i64 0) 1 8 Try.underlying22 hi0 hz0' hz1' hz2' rfl (by decide) _ _ _ rfl hown2 ⟨w5.heap.size, 0, none⟩ 1 1 [.int .i64 z1] rfl rfl HNL.out ?c2 ?c3 ?c4 ?c5 ?_)
      case c2 => simp [Value.oneCell']
      case c3 => simp only [maxLen]; omega
      case c4 => omega
      case c5 => (try simp only [World.size_alloc]); omega
      intro v8 w6 hown8 hg8 _ hat8
      have hlo : ∀ kk, (Value.slice A5 k c5).ownBlock = some kk → w1.heap.size ≤ kk := fun kk hkk => (HS.out.hv.lt kk hkk).1
      obtain ⟨hst8, g6, d6, rfl⟩ := HS.out.swap.push hlV hown8 hg8 hat8
      have HT := Lib.hid (HT.out.swap.push hlV hown8 hg8 hat8).1.swap
      have HS := Lib.hid hst8.swap
      have HG := Lib.hid (gr_ownR (HG.out.trans (World.grownBy_alloc _ _ _)) hg8 (fun kk hkk => .inr (hlo kk hkk)))
      clear hown8 hg8 hat8 hst8 hown2 hlo HNL hszB
      have HL2 := Lib.hid (show (V ++ [z1]).length = k + 1 by simp [hlV])
      clear hlV hlen
      go_wp2_with fail
      go_roundw
      case rel => exact ⟨k + 1, p2 + 1, some ⟨g6, 0, none⟩, d6, _, by omega, by go_num, rfl, by omega, HL2, HS, HT, HG⟩
      case measure => simp [intOf]; omega
    · skip
      have HPK := Lib.hid (pick_any g n c p2 A 16 _ HS.out.rd (by omega) hn2 (by omega) (by omega))
      go_wp2_with fail
      refine HPK.out.mono ?_
      rintro e w4 ⟨x, rfl, hy0, hy1, hr4, hg4⟩
      have HS := Lib.hid (HS.out.drawn hr4 hg4)
      have HT := Lib.hid (HT.out.drawn hr4 hg4)
      have HG := Lib.hid (HG.out.trans hg4)
      clear hr4 hg4 HPK
      by_cases x0 : x = 0
      · subst x0
        have hI : Ints (w4.alloc (.cells #[.int .i64 1, .int .i64 (-1)] 3)) (some ⟨w4.heap.size, 0, none⟩) ([1, -1] : List Int) := ints_lit w4 [1, -1]
        have hgl : g < w4.heap.size := HS.out.rd.lt
        have HNUM := Lib.hid (num_of g n c (p2 + 1) A (some ⟨w4.heap.size, 0, none⟩) 2 [1, -1] (w4.alloc (.cells #[.int .i64 1, .int .i64 (-1)] 3)) (HS.out.alloc _).rd hI (fun b off e => by cases e; omega) (by omega) hn2 (by simp) (by simp))
        clear hI
        go_wp2_with fail
        refine HNUM.out.mono ?_
        rintro e w5 ⟨z1, rfl, hmem, hr, hg⟩
        have HS := Lib.hid ((HS.out.alloc (.cells #[.int .i64 1, .int .i64 (-1)] 3)).drawn hr hg)
        have HT := Lib.hid ((HT.out.alloc (.cells #[.int .i64 1, .int .i64 (-1)] 3)).drawn hr hg)
        have HG := Lib.hid ((HG.out.trans (World.grownBy_alloc _ _ _)).trans hg)
        clear hr hg HNUM hgl
        clear hmem
        have hszB : w1.heap.size ≤ w5.heap.size := HG.out.size
        have HNL := Lib.hid (cell_one_new w5 (.int .i64 z1) 3)
        have hown2 := (HS.out.alloc (.cells #[.int .i64 z1] 3)).hv
        rw [hlV] at hown2
        go_wp2_with (at_builtin; refine wpList_append_own_at _ rfl _ _ 22 rfl w1.heap.size 3 i0 (.int .i64 0) 1 8 Try.underlying22 hi0 hz0' hz1' hz2' rfl (by decide) _ _ _ rfl hown2 ⟨w5.heap.size, 0, none⟩ 1 1 [.int .i64 z1] rfl rfl HNL.out ?c2 ?c3 ?c4 ?c5 ?_)
        case c2 => simp [Value.oneCell']
        case c3 => simp only [maxLen]; omega
        case c4 => omega
        case c5 => (try simp only [World.size_alloc]); omega
        intro v8 w6 hown8 hg8 _ hat8
        have hlo : ∀ kk, (Value.slice A5 k c5).ownBlock = some kk → w1.heap.size ≤ kk := fun kk hkk => (HS.out.hv.lt kk hkk).1
        obtain ⟨hst8, g6, d6, rfl⟩ := HS.out.swap.push hlV hown8 hg8 hat8
        have HT := Lib.hid (HT.out.swap.push hlV hown8 hg8 hat8).1.swap
        have HS := Lib.hid hst8.swap
        have HG := Lib.hid (gr_ownR (HG.out.trans (World.grownBy_alloc _ _ _)) hg8 (fun kk hkk => .inr (hlo kk hkk)))
        clear hown8 hg8 hat8 hst8 hown2 hlo HNL hszB
        have HL2 := Lib.hid (show (V ++ [z1]).length = k + 1 by simp [hlV])
        clear hlV hlen
        go_wp2_with fail
        go_ret3
        exact ⟨_, _, _, L, D, _, rfl, own_base HS.out.hu (Nat.zero_le _), own_base HT.out.hu (Nat.zero_le _), own_base HS.out.hv (Nat.zero_le _), by rw [HJ.out]; omega, by rw [HB.out]; omega, by rw [HL2.out]; omega, gr_own HG0.out HG.out (fun k hk => by cases hk; exact Nat.le_of_eq HGG.out)⟩
      · have hx0 : (x == 0) = false := by simp [x0]
        go_wp2_with fail
        go_ret3
        exact ⟨_, _, _, L, D, V, rfl, own_base HS.out.hu (Nat.zero_le _), own_base HT.out.hu (Nat.zero_le _), own_base HS.out.hv (Nat.zero_le _), by rw [HJ.out]; omega, by rw [HB.out]; omega, by rw [hlV]; omega, gr_own HG0.out HG.out (fun k hk => by cases hk; exact Nat.le_of_eq HGG.out)⟩

set_option maxRecDepth 100000 in
set_option maxHeartbeats 8000000 in
theorem drawmerge_any (A : Option Addr) (n0 c0 : Nat) (w : World) (h : Byts w A n0) (hc : n0 ≤ c0) (hn : n0 ≤ 9223372036854775807) :
    Calls Try.prog 41 #[.slice A n0 c0] w (PairPostK 401 w) := by
  obtain ⟨i0, hi0, hz0', hz1', hz2'⟩ := info_parts infoJ
  have HO := Lib.hid (open_any A n0 c0 w h hc hn)
  obtain ⟨g, hgg⟩ : ∃ g, w.heap.size = g := ⟨_, rfl⟩
  have HGG := Lib.hid hgg
  rw [hgg] at HO
  clear h hc hn hgg
  go_enter Try.func41, Try.ntmps41
  go_wp2_with fail
  refine HO.out.mono ?_
  rintro e w1 ⟨rfl, ⟨n, c, hn2, hr, hA⟩, hg0⟩
  have HG0 := Lib.hid hg0
  clear hg0 HO
  have hst0 : St3 ((w1.alloc (.cells #[] 3)).alloc (.cells #[] 3)) w1.heap.size g A n c 0 (.slice (some ⟨w1.heap.size, 0, none⟩) 0 0) (.slice (some ⟨w1.heap.size + 1, 0, none⟩) 0 0) [] [] :=
    St3.lit hr hr.lt (fun hp b off e => Nat.lt_trans (hA hp b off e) hr.lt) (Nat.le_refl _) [] [] (by decide) (by decide) #[] #[] rfl rfl
  have HS := Lib.hid hst0
  have HG := Lib.hid (show w1.grownBy ((w1.alloc (.cells #[] 3)).alloc (.cells #[] 3)) (some g) from (World.grownBy_alloc _ _ _).trans (World.grownBy_alloc _ _ _))
  clear hst0 hr hA
  have HPK := Lib.hid (pick_any g n c 0 A 5 _ HS.out.rd (by omega) hn2 (by omega) (by omega))
  go_wp2_with fail
  refine HPK.out.mono ?_
  rintro e w2 ⟨x9, rfl, hy0, hy1, hr4, hg4⟩
  have HS := Lib.hid (HS.out.drawn hr4 hg4)
  have HG := Lib.hid (HG.out.trans hg4)
  clear hr4 hg4 HPK
  obtain ⟨x, rfl⟩ : ∃ x : Nat, x9 = (x : Int) := ⟨x9.toNat, by omega⟩
  have hx5 : x ≤ 4 := by omega
  clear hy0 hy1
  go_wp2_with fail
  go_loopw [5, 6, 14] (fun u v i wr => ∃ (j b p1 : Nat) (A3 A4 : Option Addr) (c3 c4 : Nat) (L D : List Int), j ≤ x ∧ i = .int .i64 j ∧ u = .slice A3 j c3 ∧ v = .slice A4 b c4 ∧ b ≤ 3 * j ∧ p1 ≤ 1 + 10 * j ∧ Hid (L.length = j ∧ D.length = b) ∧ Hid (St3 wr w1.heap.size g A n c p1 (.slice A3 j c3) (.slice A4 b c4) L D) ∧ Hid (w1.grownBy wr (some g))) (fun _ _ i _ => x - (intOf i).toNat)
  case atStart => exact ⟨0, 0, 1, _, _, 0, 0, [], [], Nat.zero_le _, rfl, rfl, rfl, by omega, by omega, Lib.hid ⟨rfl, rfl⟩, HS, HG⟩
  case round =>
    obtain ⟨j, b, p1, A3, A4, c3, c4, L, D, hj, rfl, rfl, rfl, hb4, hp1, hlen, HS, HG⟩ := hrel
    obtain ⟨wo, rfl⟩ : ∃ wo : World, wo = wr := ⟨_, rfl⟩
    obtain ⟨hlL, hlD⟩ := hlen.out
    by_cases hlt : j < x
    · skip
      have hI : Ints (wo.alloc (.cells #[.int .i64 2, .int .i64 0, .int .i64 1, .int .i64 3] 3)) (some ⟨wo.heap.size, 0, none⟩) ([2, 0, 1, 3] : List Int) := ints_lit wo [2, 0, 1, 3]
      have hgl : g < wo.heap.size := HS.out.rd.lt
      have HNUM := Lib.hid (num_of g n c p1 A (some ⟨wo.heap.size, 0, none⟩) 4 [2, 0, 1, 3] (wo.alloc (.cells #[.int .i64 2, .int .i64 0, .int .i64 1, .int .i64 3] 3)) (HS.out.alloc _).rd hI (fun b off e => by cases e; omega) (by omega) hn2 (by simp) (by simp))
      clear hI
      go_wp2_with fail
      refine HNUM.out.mono ?_
      rintro e w3 ⟨z0, rfl, hmem, hr, hg⟩
      have HS := Lib.hid ((HS.out.alloc (.cells #[.int .i64 2, .int .i64 0, .int .i64 1, .int .i64 3] 3)).drawn hr hg)
      have HG := Lib.hid ((HG.out.trans (World.grownBy_alloc _ _ _)).trans hg)
      clear hr hg HNUM hgl
      obtain ⟨z, rfl⟩ : ∃ z : Nat, z0 = (z : Int) := ⟨z0.toNat, by simp at hmem; omega⟩
      have hz : z ≤ 3 := by simp at hmem; omega
      clear hmem
      have hszB : w1.heap.size ≤ w3.heap.size := HG.out.size
      have HNL := Lib.hid (cell_one_new w3 (.int .i64 (z : Int)) 3)
      have hown2 := (HS.out.alloc (.cells #[.int .i64 (z : Int)] 3)).hu
      rw [hlL] at hown2
      go_wp2_with (at_builtin; refine wpList_append_own_at _ rfl _ _ 22 rfl w1.heap.size 3 i0 (.int .i64 0) 1 8 Try.underlying22 hi0 hz0' hz1' hz2' rfl (by decide) _ _ _ rfl hown2 ⟨w3.heap.size, 0, none⟩ 1 1 [.int .i64 (z : Int)] rfl rfl HNL.out ?c2 ?c3 ?c4 ?c5 ?_)
      case c2 => simp [Value.oneCell']
      case c3 => simp only [maxLen]; omega
      case c4 => omega
      case c5 => (try simp only [World.size_alloc]); omega
      intro v8 w4 hown8 hg8 _ hat8
      have hlo : ∀ kk, (Value.slice A3 j c3).ownBlock = some kk → w1.heap.size ≤ kk := fun kk hkk => (HS.out.hu.lt kk hkk).1
      obtain ⟨hst8, g3, d3, rfl⟩ := HS.out.push hlL hown8 hg8 hat8
      have HS := Lib.hid hst8
      have HG := Lib.hid (gr_ownR (HG.out.trans (World.grownBy_alloc _ _ _)) hg8 (fun kk hkk => .inr (hlo kk hkk)))
      clear hown8 hg8 hat8 hst8 hown2 hlo HNL hszB
      have HLL := Lib.hid (show (L ++ [(z : Int)]).length = j + 1 by simp [hlL])
      have HLD := Lib.hid hlD
      clear hlL hlD hlen
      go_wp2_with fail
      go_loopw [6, 24] (fun v i wr => ∃ (k b2 p2 : Nat) (A5 : Option Addr) (c5 : Nat) (D2 : List Int), k ≤ z ∧ i = .int .i64 k ∧ v = .slice A5 b2 c5 ∧ b2 ≤ b + k ∧ p2 ≤ p1 + 1 + 2 * k ∧ Hid (D2.length = b2) ∧ Hid (St3 wr w1.heap.size g A n c p2 (.slice (some ⟨g3, 0, none⟩) (j + 1) d3) (.slice A5 b2 c5) (L ++ [(z : Int)]) D2) ∧ Hid (w1.grownBy wr (some g))) (fun _ i _ => z - (intOf i).toNat)
      case atStart => exact ⟨0, b, p1 + 1, A4, c4, D, Nat.zero_le _, rfl, rfl, by omega, by omega, HLD, HS, HG⟩
      case round =>
        obtain ⟨k, b2, p2, A5, c5, D2, hk, rfl, rfl, hb2, hp2, hlen2, HS, HG⟩ := hrel
        obtain ⟨wi, rfl⟩ : ∃ wi : World, wi = wr := ⟨_, rfl⟩
        have hlD2 := hlen2.out
        by_cases hlt2 : k < z
        · skip
          have hI : Ints (wi.alloc (.cells #[.int .i64 1, .int .i64 0, .int .i64 2, .int .i64 4] 3)) (some ⟨wi.heap.size, 0, none⟩) ([1, 0, 2, 4] : List Int) := ints_lit wi [1, 0, 2, 4]
          have hgl : g < wi.heap.size := HS.out.rd.lt
          have HNUM := Lib.hid (num_of g n c p2 A (some ⟨wi.heap.size, 0, none⟩) 4 [1, 0, 2, 4] (wi.alloc (.cells #[.int .i64 1, .int .i64 0, .int .i64 2, .int .i64 4] 3)) (HS.out.alloc _).rd hI (fun b off e => by cases e; omega) (by omega) hn2 (by simp) (by simp))
          clear hI
          go_wp2_with fail
          refine HNUM.out.mono ?_
          rintro e w5 ⟨z1, rfl, hmem, hr, hg⟩
          have HS := Lib.hid ((HS.out.alloc (.cells #[.int .i64 1, .int .i64 0, .int .i64 2, .int .i64 4] 3)).drawn hr hg)
          have HG := Lib.hid ((HG.out.trans (World.grownBy_alloc _ _ _)).trans hg)
          clear hr hg HNUM hgl
          clear hmem
          have hszB : w1.heap.size ≤ w5.heap.size := HG.out.size
          have HNL := Lib.hid (cell_one_new w5 (.int .i64 z1) 3)
          have hown2 := (HS.out.alloc (.cells #[.int .i64 z1] 3)).hv
          rw [hlD2] at hown2
          go_wp2_with (at_builtin; refine wpList_append_own_at _ rfl _ _ 22 rfl w1.heap.size 3 i0 (.int .i64 0) 1 8 Try.underlying22 hi0 hz0' hz1' hz2' rfl (by decide) _ _ _ rfl hown2 ⟨w5.heap.size, 0, none⟩ 1 1 [.int .i64 z1] rfl rfl HNL.out ?c2 ?c3 ?c4 ?c5 ?_)
          case c2 => simp [Value.oneCell']
          case c3 => simp only [maxLen]; omega
          case c4 => omega
          case c5 => (try simp only [World.size_alloc]); omega
          intro v8 w6 hown8 hg8 _ hat8
          have hlo : ∀ kk, (Value.slice A5 b2 c5).ownBlock = some kk → w1.heap.size ≤ kk := fun kk hkk => (HS.out.hv.lt kk hkk).1
          obtain ⟨hst8, g6, d6, rfl⟩ := HS.out.swap.push hlD2 hown8 hg8 hat8
          have HS := Lib.hid hst8.swap
          have HG := Lib.hid (gr_ownR (HG.out.trans (World.grownBy_alloc _ _ _)) hg8 (fun kk hkk => .inr (hlo kk hkk)))
          clear hown8 hg8 hat8 hst8 hown2 hlo HNL hszB
          have HL2 := Lib.hid (show (D2 ++ [z1]).length = b2 + 1 by simp [hlD2])
          clear hlD2 hlen2
          go_wp2_with fail
          go_roundw
          case rel => exact ⟨k + 1, b2 + 1, p2 + 1, some ⟨g6, 0, none⟩, d6, _, by omega, by go_num, rfl, by omega, by omega, HL2, HS, HG⟩
          case measure => simp [intOf]; omega
        · go_wp2_with fail
          go_roundw
          case rel => exact ⟨j + 1, b2, p2, _, A5, d3, c5, _, D2, by omega, by go_num, rfl, rfl, by omega, by omega, Lib.hid ⟨HLL.out, hlen2.out⟩, HS, HG⟩
          case measure => simp [intOf]; omega
    · skip
      have HPK := Lib.hid (pick_any g n c p1 A 12 _ HS.out.rd (by omega) hn2 (by omega) (by omega))
      go_wp2_with fail
      refine HPK.out.mono ?_
      rintro e w4 ⟨y, rfl, hy0, hy1, hr4, hg4⟩
      have HS := Lib.hid (HS.out.drawn hr4 hg4)
      have HG := Lib.hid (HG.out.trans hg4)
      clear hr4 hg4 HPK
      by_cases y0 : y = 0
      · subst y0
        have hI : Ints (w4.alloc (.cells #[.int .i64 1, .int .i64 (-1), .int .i64 401] 3)) (some ⟨w4.heap.size, 0, none⟩) ([1, -1, 401] : List Int) := ints_lit w4 [1, -1, 401]
        have hgl : g < w4.heap.size := HS.out.rd.lt
        have HNUM := Lib.hid (num_of g n c (p1 + 1) A (some ⟨w4.heap.size, 0, none⟩) 3 [1, -1, 401] (w4.alloc (.cells #[.int .i64 1, .int .i64 (-1), .int .i64 401] 3)) (HS.out.alloc _).rd hI (fun b off e => by cases e; omega) (by omega) hn2 (by simp) (by simp))
        clear hI
        go_wp2_with fail
        refine HNUM.out.mono ?_
        rintro e w5 ⟨z1, rfl, hmem, hr, hg⟩
        have HS := Lib.hid ((HS.out.alloc (.cells #[.int .i64 1, .int .i64 (-1), .int .i64 401] 3)).drawn hr hg)
        have HG := Lib.hid ((HG.out.trans (World.grownBy_alloc _ _ _)).trans hg)
        clear hr hg HNUM hgl
        clear hmem
        have hszB : w1.heap.size ≤ w5.heap.size := HG.out.size
        have HNL := Lib.hid (cell_one_new w5 (.int .i64 z1) 3)
        have hown2 := (HS.out.alloc (.cells #[.int .i64 z1] 3)).hv
        rw [hlD] at hown2
        go_wp2_with (at_builtin; refine wpList_append_own_at _ rfl _ _ 22 rfl w1.heap.size 3 i0 (.int .i64 0) 1 8 Try.underlying22 hi0 hz0' hz1' hz2' rfl (by decide) _ _ _ rfl hown2 ⟨w5.heap.size, 0, none⟩ 1 1 [.int .i64 z1] rfl rfl HNL.out ?c2 ?c3 ?c4 ?c5 ?_)
        case c2 => simp [Value.oneCell']
        case c3 => simp only [maxLen]; omega
        case c4 => omega
        case c5 => (try simp only [World.size_alloc]); omega
        intro v8 w6 hown8 hg8 _ hat8
        have hlo : ∀ kk, (Value.slice A4 b c4).ownBlock = some kk → w1.heap.size ≤ kk := fun kk hkk => (HS.out.hv.lt kk hkk).1
        obtain ⟨hst8, g6, d6, rfl⟩ := HS.out.swap.push hlD hown8 hg8 hat8
        have HS := Lib.hid hst8.swap
        have HG := Lib.hid (gr_ownR (HG.out.trans (World.grownBy_alloc _ _ _)) hg8 (fun kk hkk => .inr (hlo kk hkk)))
        clear hown8 hg8 hat8 hst8 hown2 hlo HNL hszB
        have HL2 := Lib.hid (show (D ++ [z1]).length = b + 1 by simp [hlD])
        have HLL := Lib.hid hlL
        clear hlD hlL hlen
        go_wp2_with fail
        go_ret2
        exact ⟨_, _, L, _, rfl, own_base HS.out.hu (Nat.zero_le _), own_base HS.out.hv (Nat.zero_le _), by rw [HLL.out]; omega, by rw [HL2.out]; omega, gr_own HG0.out HG.out (fun k hk => by cases hk; exact Nat.le_of_eq HGG.out)⟩
      · have hy0 : (y == 0) = false := by simp [y0]
        go_wp2_with fail
        go_ret2
        exact ⟨_, _, L, D, rfl, own_base HS.out.hu (Nat.zero_le _), own_base HS.out.hv (Nat.zero_le _), by rw [hlL]; omega, by rw [hlD]; omega, gr_own HG0.out HG.out (fun k hk => by cases hk; exact Nat.le_of_eq HGG.out)⟩

end Go.Proofs.Ytpakihjkjdanlab
