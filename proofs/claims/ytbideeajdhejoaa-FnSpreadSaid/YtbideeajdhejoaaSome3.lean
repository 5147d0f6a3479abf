/- What l3Some of the model does, and the draws that are only that. -/
import Derived.Test.YtbideeajdhejoaaDraw3
import Derived.BigRegion
namespace Go.Proofs.Ytbideeajdhejoaa
open Go.RowKit

theorem St3.lit {w : World} {B g n c p : Nat} {A : Option Addr} (hr : Rd13 w g A n c p) (gB : g < B) (aB : 0 < n → ∀ b off, A = some ⟨b, off, none⟩ → b < B) (hB : B ≤ w.heap.size) (L D : List Int) (hL : L.length ≤ maxLen) (hD : D.length ≤ maxLen) (cs ds : Array Value) (hc : cs.toList = L.map (Value.int .i64)) (hd : ds.toList = D.map (Value.int .i64)) :
    St3 ((w.alloc (.cells cs 3)).alloc (.cells ds 3)) B g A n c p (.slice (some ⟨w.heap.size, 0, none⟩) L.length L.length) (.slice (some ⟨w.heap.size + 1, 0, none⟩) D.length D.length) L D := by
  have hcs : cs.size = L.length := by rw [← Array.length_toList, hc, List.length_map]
  have hds : ds.size = D.length := by rw [← Array.length_toList, hd, List.length_map]
  have r1 := (World.ownsRow_lit (base := B) (e := 3) (size := 1) w cs L.length hB hL (by omega)).alloc (.cells ds 3)
  have r2 := World.ownsRow_lit (base := B) (e := 3) (size := 1) (w.alloc (.cells cs 3)) ds D.length (by simp; omega) hD (by omega)
  rw [World.size_alloc, hd] at r2
  rw [hc] at r1
  exact ⟨(hr.grown (World.grownBy_alloc w _ none) (by simp) (by simp)).grown (World.grownBy_alloc _ _ none) (by simp) (by simp), gB, aB, r1, r2, fun k h1 h2 => by simp [Value.ownBlock] at h1 h2; omega⟩

theorem made400 : (madeCells #[.int .i64 0] 400).toList = (List.replicate 400 (0 : Int)).map (Value.int .i64) := by
  rw [List.map_replicate]
  refine List.eq_replicate_iff.2 ⟨by simp [madeCells], fun b hb => ?_⟩
  simp only [madeCells, Array.toList_map, List.mem_map] at hb
  obtain ⟨i, _, rfl⟩ := hb
  have : i % (#[Value.int .i64 0] : Array Value).size = 0 := by simp [Nat.mod_one]
  rw [this]
  rfl

theorem St3.drew {w : World} {B g n c p : Nat} {A : Option Addr} {u v : Value} {L D : List Int} (h : St3 w B g A n c p u v L D) : St3 w.drew B g A n c p u v L D :=
  ⟨h.rd.grown (gr_drewN w 1 none) (by simp) (by simp), h.gB, h.aB, own_keep h.hu (fun k hk => (gr_drewN w 1 none).block k (h.hu.lt k hk).2 (by simp)), own_keep h.hv (fun k hk => (gr_drewN w 1 none).block k (h.hv.lt k hk).2 (by simp)), h.ap⟩

set_option maxRecDepth 100000 in
set_option maxHeartbeats 4000000 in
theorem some3_any (g n c p : Nat) (A : Option Addr) (w : World) (h : Rd13 w g A n c p) (hA : 0 < n → ∀ b off, A = some ⟨b, off, none⟩ → b < w.heap.size) (hp : p ≤ 1000) (hn2 : n ≤ 2000) :
    Calls Try.prog 95 #[.pointer (some ⟨g, 0, none⟩)] w (DrawPost w g A n c p 400) := by
  obtain ⟨i0, hi0, hz0', hz1', hz2'⟩ := info_parts infoJ
  have HD := Lib.hid (draw3_any g n c p A w h hA hp hn2)
  have HGB := Lib.hid (And.intro h.lt hA)
  have hmk : ∀ u : World, (Instr.makeSlice 23 (.int .i64 400) (.int .i64 400)).run Try.prog u =
      .ok (.slice (some ⟨u.heap.size, 0, none⟩) 400 400) (u.alloc (.cells (madeCells #[.int .i64 0] 400) 3)) := fun u => by
    have h := run_make (P := Try.prog) u 23 3 i0 (.int .i64 0) Try.underlying23 hi0 hz0' .i64 .i64 400 400 (by omega) (Int.le_refl _) (by rw [hz2']; omega) (by omega)
    simpa [hz1', Value.cells] using h
  clear h hA
  go_enter Try.func95, Try.ntmps95
  go_wp2_with fail
  refine HD.out.mono ?_
  rintro e w1 ⟨u, v, L, D, p', rfl, hst, hlL, hlD, hp', hg⟩
  obtain ⟨j, hjj⟩ : ∃ j, L.length = j := ⟨_, rfl⟩
  obtain ⟨b, hbb⟩ : ∃ b, D.length = b := ⟨_, rfl⟩
  obtain ⟨A3, c3, rfl⟩ : ∃ A3 c3, u = .slice A3 j c3 := by
    obtain ⟨A3, c3, e, _⟩ := (OwnI.of hst.hu rfl).form
    exact ⟨A3, c3, by rw [e, hjj]⟩
  obtain ⟨A4, c4, rfl⟩ : ∃ A4 c4, v = .slice A4 b c4 := by
    obtain ⟨A4, c4, e, _⟩ := (OwnI.of hst.hv rfl).form
    exact ⟨A4, c4, by rw [e, hbb]⟩
  have HPK := Lib.hid (pick_any g n c p' A 24 _ hst.rd (by omega) hn2 (by omega) (by omega))
  have HST := Lib.hid hst
  have HG := Lib.hid hg
  rw [hjj] at hlL
  rw [hbb] at hlD
  clear hst hg HD
  go_wp2_with fail
  refine HPK.out.mono ?_
  rintro e w2 ⟨x, rfl, hx0, hx24, hr1, hg1⟩
  have HST := Lib.hid (HST.out.drawn hr1 hg1)
  have HG := Lib.hid (HG.out.trans hg1)
  clear hr1 hg1 HPK
  by_cases x0 : x = 0
  · subst x0
    have hI : Ints (w2.alloc (.cells #[.int .i64 1, .int .i64 (-1), .int .i64 401, .int .i64 9223372036854775807] 3)) (some ⟨w2.heap.size, 0, none⟩) ([1, -1, 401, 9223372036854775807] : List Int) := ints_lit w2 [1, -1, 401, 9223372036854775807]
    have hgl : g < w2.heap.size := HST.out.rd.lt
    have HNUM := Lib.hid (num_of g n c (p' + 1) A (some ⟨w2.heap.size, 0, none⟩) 4 [1, -1, 401, 9223372036854775807] (w2.alloc (.cells #[.int .i64 1, .int .i64 (-1), .int .i64 401, .int .i64 9223372036854775807] 3)) (HST.out.alloc _).rd hI (fun b off e => by cases e; omega) (by omega) hn2 (by decide) (by decide))
    clear hI
    go_wp2_with fail
    refine HNUM.out.mono ?_
    rintro e w3 ⟨z, rfl, _, hr, hg⟩
    have HS := Lib.hid ((HST.out.alloc (.cells #[.int .i64 1, .int .i64 (-1), .int .i64 401, .int .i64 9223372036854775807] 3)).drawn hr hg)
    have HG := Lib.hid ((HG.out.trans (World.grownBy_alloc _ _ _)).trans hg)
    clear hr hg HNUM hgl HST
    have hszB : w.heap.size ≤ w3.heap.size := HG.out.size
    have HNL := Lib.hid (cell_one_new w3 (.int .i64 z) 3)
    have hown2 := (HS.out.alloc (.cells #[.int .i64 z] 3)).hu
    rw [hjj] at hown2
    go_wp2_with (at_builtin; refine wpList_append_own_at _ rfl _ _ 23 rfl w.heap.size 3 i0 (.int .i64 0) 1 8 Try.underlying23 hi0 hz0' hz1' hz2' rfl (by decide) _ _ _ rfl hown2 ⟨w3.heap.size, 0, none⟩ 1 1 [.int .i64 z] rfl rfl HNL.out ?c2 ?c3 ?c4 ?c5 ?_)
    case c2 => simp [Value.oneCell']
    case c3 => simp only [maxLen]; omega
    case c4 => omega
    case c5 => (try simp only [World.size_alloc]); omega
    intro v8 w4 hown8 hg8 _ hat8
    have hlo : ∀ k, (Value.slice A3 j c3).ownBlock = some k → w.heap.size ≤ k := fun k hk => (HS.out.hu.lt k hk).1
    obtain ⟨hst8, g3, d3, rfl⟩ := HS.out.push hjj hown8 hg8 hat8
    have HS := Lib.hid hst8
    have HG := Lib.hid (gr_ownR (HG.out.trans (World.grownBy_alloc _ _ _)) hg8 (fun k hk => .inr (hlo k hk)))
    clear hown8 hg8 hat8 hst8 hown2 hlo HNL hszB
    go_wp2_with fail
    go_ret2
    exact ⟨_, _, _, D, p' + 1 + 1, rfl, HS.out, by simp; omega, by omega, by omega, HG.out⟩
  have hx0' : (x == 0) = false := by simp [x0]
  by_cases x1 : x = 1
  · subst x1
    have hI : Ints (w2.alloc (.cells #[.int .i64 0, .int .i64 (-1), .int .i64 10007] 3)) (some ⟨w2.heap.size, 0, none⟩) ([0, -1, 10007] : List Int) := ints_lit w2 [0, -1, 10007]
    have hgl : g < w2.heap.size := HST.out.rd.lt
    have HNUM := Lib.hid (num_of g n c (p' + 1) A (some ⟨w2.heap.size, 0, none⟩) 3 [0, -1, 10007] (w2.alloc (.cells #[.int .i64 0, .int .i64 (-1), .int .i64 10007] 3)) (HST.out.alloc _).rd hI (fun b off e => by cases e; omega) (by omega) hn2 (by decide) (by decide))
    clear hI
    go_wp2_with fail
    refine HNUM.out.mono ?_
    rintro e w3 ⟨z, rfl, _, hr, hg⟩
    have HS := Lib.hid ((HST.out.alloc (.cells #[.int .i64 0, .int .i64 (-1), .int .i64 10007] 3)).drawn hr hg)
    have HG := Lib.hid ((HG.out.trans (World.grownBy_alloc _ _ _)).trans hg)
    clear hr hg HNUM hgl HST
    have hszB : w.heap.size ≤ w3.heap.size := HG.out.size
    have HNL := Lib.hid (cell_one_new w3 (.int .i64 z) 3)
    have hown2 := (HS.out.alloc (.cells #[.int .i64 z] 3)).hv
    rw [hbb] at hown2
    go_wp2_with (at_builtin; refine wpList_append_own_at _ rfl _ _ 23 rfl w.heap.size 3 i0 (.int .i64 0) 1 8 Try.underlying23 hi0 hz0' hz1' hz2' rfl (by decide) _ _ _ rfl hown2 ⟨w3.heap.size, 0, none⟩ 1 1 [.int .i64 z] rfl rfl HNL.out ?c2 ?c3 ?c4 ?c5 ?_)
    case c2 => simp [Value.oneCell']
    case c3 => simp only [maxLen]; omega
    case c4 => omega
    case c5 => (try simp only [World.size_alloc]); omega
    intro v8 w4 hown8 hg8 _ hat8
    have hlo : ∀ k, (Value.slice A4 b c4).ownBlock = some k → w.heap.size ≤ k := fun k hk => (HS.out.hv.lt k hk).1
    obtain ⟨hst8, g3, d3, rfl⟩ := HS.out.swap.push hbb hown8 hg8 hat8
    have HS := Lib.hid hst8.swap
    have HG := Lib.hid (gr_ownR (HG.out.trans (World.grownBy_alloc _ _ _)) hg8 (fun k hk => .inr (hlo k hk)))
    clear hown8 hg8 hat8 hst8 hown2 hlo HNL hszB
    go_wp2_with fail
    go_ret2
    exact ⟨_, _, L, _, p' + 1 + 1, rfl, HS.out, by omega, by simp; omega, by omega, HG.out⟩
  have hx1' : (x == 1) = false := by simp [x1]
  by_cases x2 : x = 2
  · subst x2
    have k1 := (St3.lit HST.out.rd HGB.out.1 HGB.out.2 HG.out.size [400] (List.replicate 400 0) (by decide) (by rw [List.length_replicate]; decide) #[.int .i64 400] (madeCells #[.int .i64 0] 400) rfl made400).drew
    have k2 := (St3.lit HST.out.rd HGB.out.1 HGB.out.2 HG.out.size (List.replicate 400 0) [400] (by rw [List.length_replicate]; decide) (by decide) (madeCells #[.int .i64 0] 400) #[.int .i64 400] made400 rfl).drew.swap
    simp only [List.length_replicate, List.length_cons, List.length_nil, Nat.zero_add] at k1 k2
    have K1 := Lib.hid k1
    have K2 := Lib.hid k2
    have HG1 := Lib.hid (HG.out.trans (((World.grownBy_alloc w2 (.cells #[.int .i64 400] 3) (some g)).trans (World.grownBy_alloc _ (.cells (madeCells #[.int .i64 0] 400) 3) (some g))).trans (gr_drewN _ 1 (some g))))
    have HG2 := Lib.hid (HG.out.trans (((World.grownBy_alloc w2 (.cells (madeCells #[.int .i64 0] 400) 3) (some g)).trans (World.grownBy_alloc _ (.cells #[.int .i64 400] 3) (some g))).trans (gr_drewN _ 1 (some g))))
    clear k1 k2
    go_wp2_with fail
    go_region
    all_goals (go_wp2_with fail; go_ret2)
    · exact ⟨_, _, [400], List.replicate 400 0, p' + 1, rfl, K1.out, by simp, by rw [List.length_replicate]; omega, by omega, HG1.out⟩
    · exact ⟨_, _, [400], List.replicate 400 0, p' + 1, rfl, K2.out, by simp, by rw [List.length_replicate]; omega, by omega, HG2.out⟩
  · have hx2' : (x == 2) = false := by simp [x2]
    go_wp2_with fail
    go_ret2
    exact ⟨_, _, L, D, p' + 1, rfl, HST.out, by omega, by omega, by omega, HG.out⟩

end Go.Proofs.Ytbideeajdhejoaa
