/- What DrawWeaveData of the model does: lists of few numbers. -/
import Derived.Test.YtpakihjkjdanlaaSt3
import Derived.Test.YtpakihjkjdanlaaSame
namespace Go.Proofs.Ytpakihjkjdanlaa
open Go.RowKit

theorem aside_push {u v v' : Value} {w : World} {k : Nat} (h : ∀ k, u.ownBlock = some k → v.ownBlock ≠ some k) (hat : v'.ownBlock = v.ownBlock ∨ v'.ownBlock = some (w.heap.size + 1)) (hu : ∀ k, u.ownBlock = some k → k < w.heap.size) : u.ownBlock = some k → v'.ownBlock ≠ some k := fun h1 h2 => by
  rcases hat with e | e
  · exact h k h1 (by rw [← e]; exact h2)
  · have := hu k h1
    rw [h2] at e
    simp at e
    omega

set_option maxRecDepth 100000 in
set_option maxHeartbeats 8000000 in
theorem drawweave_any (A : Option Addr) (n0 c0 : Nat) (w : World) (h : Byts w A n0) (hc : n0 ≤ c0) (hn : n0 ≤ 9223372036854775807) :
    Calls Try.prog 43 #[.slice A n0 c0] w (TriPostK 401 w) := by
  obtain ⟨i0, hi0, hz0', hz1', hz2'⟩ := info_parts infoJ
  have HO := Lib.hid (open_any A n0 c0 w h hc hn)
  obtain ⟨g, hgg⟩ : ∃ g, w.heap.size = g := ⟨_, rfl⟩
  have HGG := Lib.hid hgg
  rw [hgg] at HO
  clear h hc hn hgg
  go_enter Try.func43, Try.ntmps43
  go_wp2_with fail
  refine HO.out.mono ?_
  rintro e w1 ⟨rfl, ⟨n, c, hn2, hr, hA⟩, hg0⟩
  have HG0 := Lib.hid hg0
  obtain ⟨W3, hW3⟩ : ∃ W3, ((w1.alloc (.cells #[] 3)).alloc (.cells #[] 3)).alloc (.cells #[] 3) = W3 := ⟨_, rfl⟩
  have hst0 : St3 (w1.alloc (.cells #[] 3)) w1.heap.size g A n c 0 (.slice (some ⟨w1.heap.size, 0, none⟩) 0 0) (.slice none 0 0) [] [] :=
    ⟨hr.grown (World.grownBy_alloc w1 _ none) (by simp) (by simp), hr.lt, fun hp b off e => Nat.lt_trans (hA hp b off e) hr.lt, made_row w1 w1.heap.size (Nat.le_refl _), World.ownsRow_nil _ _ _ _, fun k _ h2 => by simp [Value.ownBlock] at h2⟩
  have ha := (hst0.fresh (by simp)).alloc (.cells #[] 3)
  have hb := (hst0.alloc (.cells #[] 3)).fresh (by simp; omega)
  rw [hW3] at ha hb
  simp only [World.size_alloc] at ha hb
  have hg3 : w1.grownBy W3 (some g) := by rw [← hW3]; exact ((World.grownBy_alloc _ _ _).trans (World.grownBy_alloc _ _ _)).trans (World.grownBy_alloc _ _ _)
  have HS := Lib.hid ha
  have HT := Lib.hid hb
  have HG := Lib.hid hg3
  have HW := Lib.hid hW3
  have HPK := Lib.hid (pick_any g n c 0 A 8 _ HS.out.rd (by omega) hn2 (by omega) (by omega))
  clear hg0 HO hst0 ha hb hr hA hg3 hW3
  go_wp2_with fail
  rw [HW.out]
  refine HPK.out.mono ?_
  rintro e w3 ⟨x0, rfl, hx0, hx6, hr1, hg1⟩
  obtain ⟨x, rfl⟩ : ∃ x : Nat, x0 = (x : Int) := ⟨x0.toNat, by omega⟩
  have HS := Lib.hid (HS.out.drawn hr1 hg1)
  have HT := Lib.hid (HT.out.drawn hr1 hg1)
  have HG := Lib.hid (HG.out.trans hg1)
  have hx5 : x ≤ 7 := by omega
  clear hr1 hg1 HPK hx0 hx6
  go_wp2_with fail
  go_loopw [6, 7, 8, 9, 17] (fun v0 v1 v2 v9 i wr => ∃ (k k1 k2 p2 : Nat) (A5 A6 A7 : Option Addr) (c5 c6 c7 : Nat) (V V1 V2 : List Int), k ≤ x ∧ i = .int .i64 k ∧ v0 = .slice A5 k c5 ∧ v1 = .slice A6 k1 c6 ∧ v2 = .slice A7 k2 c7 ∧ k1 ≤ k ∧ k2 ≤ k ∧ p2 ≤ 100 + 4 * k ∧ Hid (V.length = k) ∧ Hid (V1.length = k1) ∧ Hid (V2.length = k2) ∧ Hid (St3 wr w1.heap.size g A n c p2 (.slice A5 k c5) (.slice A6 k1 c6) V V1) ∧ Hid (St3 wr w1.heap.size g A n c p2 (.slice A5 k c5) (.slice A7 k2 c7) V V2) ∧ Hid (∀ g, (Value.slice A6 k1 c6).ownBlock = some g → (Value.slice A7 k2 c7).ownBlock ≠ some g) ∧ Hid (w1.grownBy wr (some g))) (fun _ _ _ _ i _ => x - (intOf i).toNat)
  case atStart => exact ⟨0, 0, 0, 0 + 1, _, _, _, 0, 0, 0, [], [], [], Nat.zero_le _, rfl, rfl, rfl, rfl, Nat.zero_le _, Nat.zero_le _, by omega, Lib.hid rfl, Lib.hid rfl, Lib.hid rfl, HS, HT, Lib.hid (fun k h1 h2 => by simp [Value.ownBlock] at h1 h2; omega), HG⟩
  case round =>
    obtain ⟨k, k1, k2, p2, A5, A6, A7, c5, c6, c7, V, V1, V2, hk, rfl, rfl, rfl, rfl, hk1, hk2, hp2, hlen, hlen1, hlen2, HS, HT, HAP, HG⟩ := hrel
    obtain ⟨wi, rfl⟩ : ∃ wi : World, wi = wr := ⟨_, rfl⟩
    have hlV := hlen.out
    have hlV1 := hlen1.out
    have hlV2 := hlen2.out
    by_cases hlt : k < x
    · skip
      have hI : Ints (wi.alloc (.cells #[.int .i64 1, .int .i64 0, .int .i64 3, .int .i64 0] 3)) (some ⟨wi.heap.size, 0, none⟩) ([1, 0, 3, 0] : List Int) := ints_lit wi [1, 0, 3, 0]
      have hgl : g < wi.heap.size := HS.out.rd.lt
      have HNUM := Lib.hid (num_of g n c p2 A (some ⟨wi.heap.size, 0, none⟩) 4 [1, 0, 3, 0] (wi.alloc (.cells #[.int .i64 1, .int .i64 0, .int .i64 3, .int .i64 0] 3)) (HS.out.alloc _).rd hI (fun b off e => by cases e; omega) (by omega) hn2 (by simp) (by simp))
      clear hI
      go_wp2_with fail
      refine HNUM.out.mono ?_
      rintro e w5 ⟨z1, rfl, hmem, hr, hg⟩
      have HS := Lib.hid ((HS.out.alloc (.cells #[.int .i64 1, .int .i64 0, .int .i64 3, .int .i64 0] 3)).drawn hr hg)
      have HT := Lib.hid ((HT.out.alloc (.cells #[.int .i64 1, .int .i64 0, .int .i64 3, .int .i64 0] 3)).drawn hr hg)
      have HG := Lib.hid ((HG.out.trans (World.grownBy_alloc _ _ _)).trans hg)
      clear hr hg HNUM hgl hmem
      have hszB : w1.heap.size ≤ w5.heap.size := HG.out.size
      have HNL := Lib.hid (cell_one_new w5 (.int .i64 z1) 3)
      have hown2 := (HS.out.alloc (.cells #[.int .i64 z1] 3)).hu
      rw [hlV] at hown2
      go_wp2_with (at_builtin; refine wpList_append_own_at _ rfl _ _ 22 rfl w1.heap.size 3 i0 (.int .i64 0) 1 8 Try.underlying22 hi0 hz0' hz1' hz2' rfl (by decide) _ _ _ rfl hown2 ⟨w5.heap.size, 0, none⟩ 1 1 [.int .i64 z1] rfl rfl HNL.out ?c2 ?c3 ?c4 ?c5 ?_)
      case c2 => simp [Value.oneCell']
      case c3 => simp only [maxLen]; omega
      case c4 => omega
      case c5 => (try simp only [World.size_alloc]); omega
      intro v8 w6 hown8 hg8 _ hat8
      have hlo : ∀ kk, (Value.slice A5 k c5).ownBlock = some kk → w1.heap.size ≤ kk := fun kk hkk => (HS.out.hu.lt kk hkk).1
      have HT := Lib.hid (HT.out.push hlV hown8 hg8 hat8).1
      obtain ⟨hst8, g6, d6, rfl⟩ := HS.out.push hlV hown8 hg8 hat8
      have HS := Lib.hid hst8
      have HG := Lib.hid (gr_ownR (HG.out.trans (World.grownBy_alloc _ _ _)) hg8 (fun kk hkk => .inr (hlo kk hkk)))
      clear hown8 hg8 hat8 hst8 hown2 hlo HNL hszB
      have HL2 := Lib.hid (show (V ++ [z1]).length = k + 1 by simp [hlV])
      clear hlV hlen
      have HPK := Lib.hid (pick_any g n c (p2 + 1) A 100 _ HS.out.rd (by omega) hn2 (by omega) (by omega))
      by_cases hz0 : z1 = 0
      · have hzb : (z1 != 0) = false := by simp [hz0]
        go_wp2_with fail
        refine HPK.out.mono ?_
        rintro e w7 ⟨y, rfl, hy0, hy1, hr4, hg4⟩
        have HS := Lib.hid (HS.out.drawn hr4 hg4)
        have HT := Lib.hid (HT.out.drawn hr4 hg4)
        have HG := Lib.hid (HG.out.trans hg4)
        clear hr4 hg4 HPK
        have hszB : w1.heap.size ≤ w7.heap.size := HG.out.size
        have HNL := Lib.hid (cell_one_new w7 (.int .i64 y) 3)
        have hown2 := (HT.out.alloc (.cells #[.int .i64 y] 3)).hv
        rw [hlV2] at hown2
        go_wp2_with (at_builtin; refine wpList_append_own_at _ rfl _ _ 22 rfl w1.heap.size 3 i0 (.int .i64 0) 1 8 Try.underlying22 hi0 hz0' hz1' hz2' rfl (by decide) _ _ _ rfl hown2 ⟨w7.heap.size, 0, none⟩ 1 1 [.int .i64 y] rfl rfl HNL.out ?c2 ?c3 ?c4 ?c5 ?_)
        case c2 => simp [Value.oneCell']
        case c3 => simp only [maxLen]; omega
        case c4 => omega
        case c5 => (try simp only [World.size_alloc]); omega
        intro v8 w8 hown8 hg8 _ hat8
        have hlo : ∀ kk, (Value.slice A7 k2 c7).ownBlock = some kk → w1.heap.size ≤ kk := fun kk hkk => (HT.out.hv.lt kk hkk).1
        have hap8 := fun kk => aside_push (k := kk) HAP.out hat8 (fun q hq => (HS.out.hv.lt q hq).2)
        have hu3 : St3 w7 w1.heap.size g A n c (p2 + 1 + 1) (.slice A7 k2 c7) (.slice A6 k1 c6) V2 V1 := ⟨HS.out.rd, HS.out.gB, HS.out.aB, HT.out.hv, HS.out.hv, fun q h1 h2 => HAP.out q h2 h1⟩
        have hu4 := (hu3.push hlV2 hown8 hg8 hat8).1
        obtain ⟨hst8, g7, d7, rfl⟩ := HT.out.swap.push hlV2 hown8 hg8 hat8
        have HT := Lib.hid hst8.swap
        have HS := Lib.hid (show St3 w8 w1.heap.size g A n c (p2 + 1 + 1) (.slice (some ⟨g6, 0, none⟩) (k + 1) d6) (.slice A6 k1 c6) (V ++ [z1]) V1 from ⟨HT.out.rd, HT.out.gB, HT.out.aB, HT.out.hu, hu4.hv, HS.out.ap⟩)
        have HG := Lib.hid (gr_ownR (HG.out.trans (World.grownBy_alloc _ _ _)) hg8 (fun kk hkk => .inr (hlo kk hkk)))
        have HAP := Lib.hid (fun kk => hap8 kk)
        clear hown8 hg8 hat8 hst8 hown2 hlo HNL hszB hap8 hu3 hu4
        have HL3 := Lib.hid (show (V2 ++ [y]).length = k2 + 1 by simp [hlV2])
        clear hlV2 hlen2 hlV1
        go_wp2_with fail
        go_roundw
        case rel => exact ⟨k + 1, k1, k2 + 1, p2 + 1 + 1, some ⟨g6, 0, none⟩, A6, some ⟨g7, 0, none⟩, d6, c6, d7, _, V1, _, by omega, by go_num, rfl, rfl, rfl, by omega, by omega, by omega, HL2, hlen1, HL3, HS, HT, HAP, HG⟩
        case measure => simp [intOf]; omega
      · have hzb : (z1 != 0) = true := by simpa using hz0
        go_wp2_with fail
        refine HPK.out.mono ?_
        rintro e w7 ⟨y, rfl, hy0, hy1, hr4, hg4⟩
        have HS := Lib.hid (HS.out.drawn hr4 hg4)
        have HT := Lib.hid (HT.out.drawn hr4 hg4)
        have HG := Lib.hid (HG.out.trans hg4)
        clear hr4 hg4 HPK
        have hszB : w1.heap.size ≤ w7.heap.size := HG.out.size
        have HNL := Lib.hid (cell_one_new w7 (.int .i64 y) 3)
        have hown2 := (HS.out.alloc (.cells #[.int .i64 y] 3)).hv
        rw [hlV1] at hown2
        go_wp2_with (at_builtin; refine wpList_append_own_at _ rfl _ _ 22 rfl w1.heap.size 3 i0 (.int .i64 0) 1 8 Try.underlying22 hi0 hz0' hz1' hz2' rfl (by decide) _ _ _ rfl hown2 ⟨w7.heap.size, 0, none⟩ 1 1 [.int .i64 y] rfl rfl HNL.out ?c2 ?c3 ?c4 ?c5 ?_)
        case c2 => simp [Value.oneCell']
        case c3 => simp only [maxLen]; omega
        case c4 => omega
        case c5 => (try simp only [World.size_alloc]); omega
        intro v8 w8 hown8 hg8 _ hat8
        have hlo : ∀ kk, (Value.slice A6 k1 c6).ownBlock = some kk → w1.heap.size ≤ kk := fun kk hkk => (HS.out.hv.lt kk hkk).1
        have hap8 := fun kk => aside_push (u := .slice A7 k2 c7) (k := kk) (fun q h1 h2 => HAP.out q h2 h1) hat8 (fun q hq => (HT.out.hv.lt q hq).2)
        have hu3 : St3 w7 w1.heap.size g A n c (p2 + 1 + 1) (.slice A6 k1 c6) (.slice A7 k2 c7) V1 V2 := ⟨HS.out.rd, HS.out.gB, HS.out.aB, HS.out.hv, HT.out.hv, HAP.out⟩
        have hu4 := (hu3.push hlV1 hown8 hg8 hat8).1
        obtain ⟨hst8, g7, d7, rfl⟩ := HS.out.swap.push hlV1 hown8 hg8 hat8
        have HS := Lib.hid hst8.swap
        have HT := Lib.hid (show St3 w8 w1.heap.size g A n c (p2 + 1 + 1) (.slice (some ⟨g6, 0, none⟩) (k + 1) d6) (.slice A7 k2 c7) (V ++ [z1]) V2 from ⟨HS.out.rd, HS.out.gB, HS.out.aB, HS.out.hu, hu4.hv, HT.out.ap⟩)
        have HG := Lib.hid (gr_ownR (HG.out.trans (World.grownBy_alloc _ _ _)) hg8 (fun kk hkk => .inr (hlo kk hkk)))
        have HAP := Lib.hid (fun kk h1 h2 => hap8 kk h2 h1)
        clear hown8 hg8 hat8 hst8 hown2 hlo HNL hszB hap8 hu3 hu4
        have HL3 := Lib.hid (show (V1 ++ [y]).length = k1 + 1 by simp [hlV1])
        clear hlV1 hlen1 hlV2
        go_wp2_with fail
        go_roundw
        case rel => exact ⟨k + 1, k1 + 1, k2, p2 + 1 + 1, some ⟨g6, 0, none⟩, some ⟨g7, 0, none⟩, A7, d6, d7, c7, _, _, V2, by omega, by go_num, rfl, rfl, rfl, by omega, by omega, by omega, HL2, HL3, hlen2, HS, HT, HAP, HG⟩
        case measure => simp [intOf]; omega
    · skip
      have HPK := Lib.hid (pick_any g n c p2 A 10 _ HS.out.rd (by omega) hn2 (by omega) (by omega))
      go_wp2_with fail
      refine HPK.out.mono ?_
      rintro e w4 ⟨x, rfl, hy0, hy1, hr4, hg4⟩
      have HS := Lib.hid (HS.out.drawn hr4 hg4)
      have HT := Lib.hid (HT.out.drawn hr4 hg4)
      have HG := Lib.hid (HG.out.trans hg4)
      clear hr4 hg4 HPK
      by_cases x0 : x = 0
      · subst x0
        have hI : Ints (w4.alloc (.cells #[.int .i64 1, .int .i64 (-1)] 3)) (some ⟨w4.heap.size, 0, none⟩) ([1, -1] : List Int) := ints_lit w4 [1, -1]
        have hgl : g < w4.heap.size := HS.out.rd.lt
        have HNUM := Lib.hid (num_of g n c (p2 + 1) A (some ⟨w4.heap.size, 0, none⟩) 2 [1, -1] (w4.alloc (.cells #[.int .i64 1, .int .i64 (-1)] 3)) (HS.out.alloc _).rd hI (fun b off e => by cases e; omega) (by omega) hn2 (by simp) (by simp))
        clear hI
        go_wp2_with fail
        refine HNUM.out.mono ?_
        rintro e w5 ⟨z1, rfl, hmem, hr, hg⟩
        have HS := Lib.hid ((HS.out.alloc (.cells #[.int .i64 1, .int .i64 (-1)] 3)).drawn hr hg)
        have HT := Lib.hid ((HT.out.alloc (.cells #[.int .i64 1, .int .i64 (-1)] 3)).drawn hr hg)
        have HG := Lib.hid ((HG.out.trans (World.grownBy_alloc _ _ _)).trans hg)
        clear hr hg HNUM hgl hmem
        have hszB : w1.heap.size ≤ w5.heap.size := HG.out.size
        have HNL := Lib.hid (cell_one_new w5 (.int .i64 z1) 3)
        have hown2 := (HS.out.alloc (.cells #[.int .i64 z1] 3)).hv
        rw [hlV1] at hown2
        go_wp2_with (at_builtin; refine wpList_append_own_at _ rfl _ _ 22 rfl w1.heap.size 3 i0 (.int .i64 0) 1 8 Try.underlying22 hi0 hz0' hz1' hz2' rfl (by decide) _ _ _ rfl hown2 ⟨w5.heap.size, 0, none⟩ 1 1 [.int .i64 z1] rfl rfl HNL.out ?c2 ?c3 ?c4 ?c5 ?_)
        case c2 => simp [Value.oneCell']
        case c3 => simp only [maxLen]; omega
        case c4 => omega
        case c5 => (try simp only [World.size_alloc]); omega
        intro v8 w8 hown8 hg8 _ hat8
        have hlo : ∀ kk, (Value.slice A6 k1 c6).ownBlock = some kk → w1.heap.size ≤ kk := fun kk hkk => (HS.out.hv.lt kk hkk).1
        have hu3 : St3 w5 w1.heap.size g A n c _ (.slice A6 k1 c6) (.slice A7 k2 c7) V1 V2 := ⟨HS.out.rd, HS.out.gB, HS.out.aB, HS.out.hv, HT.out.hv, HAP.out⟩
        have hu4 := (hu3.push hlV1 hown8 hg8 hat8).1
        obtain ⟨hst8, g7, d7, rfl⟩ := HS.out.swap.push hlV1 hown8 hg8 hat8
        have HG := Lib.hid (gr_ownR (HG.out.trans (World.grownBy_alloc _ _ _)) hg8 (fun kk hkk => .inr (hlo kk hkk)))
        have HU := Lib.hid (And.intro hst8.hv (And.intro hst8.hu hu4.hv))
        clear hown8 hg8 hat8 hst8 hown2 hlo HNL hszB hu3 hu4
        have HL2 := Lib.hid (show (V1 ++ [z1]).length = k1 + 1 by simp [hlV1])
        clear hlV1 hlen1
        go_wp2_with fail
        go_ret3
        have hU := HU.out.2.1
        exact ⟨_, _, _, V, V1 ++ [z1], V2, rfl, own_base HU.out.1 (Nat.zero_le _), own_base HU.out.2.1 (Nat.zero_le _), own_base HU.out.2.2 (Nat.zero_le _), by rw [hlV]; omega, by rw [HL2.out]; omega, by rw [hlV2]; omega, gr_own HG0.out HG.out (fun k hk => by cases hk; exact Nat.le_of_eq HGG.out)⟩
      · have hx0 : (x == 0) = false := by simp [x0]
        go_wp2_with fail
        go_ret3
        exact ⟨_, _, _, V, V1, V2, rfl, own_base HS.out.hu (Nat.zero_le _), own_base HS.out.hv (Nat.zero_le _), own_base HT.out.hv (Nat.zero_le _), by rw [hlV]; omega, by rw [hlV1]; omega, by rw [hlV2]; omega, gr_own HG0.out HG.out (fun k hk => by cases hk; exact Nat.le_of_eq HGG.out)⟩

end Go.Proofs.Ytpakihjkjdanlaa
