/- What l13OwnListListint and l13OwnLayout of the model do: a copy that reads alike. -/
import Derived.Test.YtachjodnhgmoiaaAside
import Derived.Maps.AppendAt
import Derived.Deep.RegionLaw
import Derived.Deep.AppendLies
import Derived.Deep.CutRange
namespace Go.Proofs.Ytachjodnhgmoiaa
open Go.RowKit

/-- One row more, copied, behind those of a list that is being made. -/
theorem ownss_step {w wr w5 w8 : World} {j cap m8 : Nat} {Ax A8 : Option Addr} {cx : Nat} {x : Value} {vs : List Value} {LL : List (List Int)} {L : List Int}
    (how : wr.ownsRow w.heap.size 22 1 (.slice Ax j cx) j vs) (hf : Fam wr w.heap.size j vs LL) (hg5 : wr.grownBy w5 none)
    (ho5 : w5.ownsRow wr.heap.size 3 1 x L.length (L.map (Value.int .i64))) (hL : LL[j]? = some L) (hg8 : (w5.alloc (.cells #[x] 22)).grownBy w8 (Value.slice Ax j cx).ownBlock)
    (ho8 : w8.ownsRow w.heap.size 22 1 (.slice A8 m8 cap) (j + 1) (vs ++ [x])) (hgr : w.grownBy wr none) :
    (∃ vs, w8.ownsRow w.heap.size 22 1 (.slice A8 m8 cap) (j + 1) vs ∧ Fam w8 w.heap.size (j + 1) vs LL) ∧ w.grownBy w8 none := by
  have hg6 : wr.grownBy (w5.alloc (.cells #[x] 22)) none := hg5.trans (World.grownBy_alloc _ _ _)
  have how6 := how.kept hg6 (by cases hv : (Value.slice Ax j cx).ownBlock <;> simp)
  have hx6 := ho5.alloc (.cells #[x] 22)
  have hx8 := own_aside hx6 how6 (by decide) hg8
  have hf8 := (hf.grown hg6).aside how6 hg8
  have hvl : vs.length = j := by have := how.1; omega
  refine ⟨⟨_, ho8, ?_⟩, gr_ownF (hgr.trans hg6) hg8 (fun k hk => (how.lt k hk).1)⟩
  obtain ⟨A5, q5, c5, rfl⟩ := own_form ho5
  have hq5 := own_len2 ho5
  subst hq5
  have hc5 : L.length ≤ c5 := by
    rcases ho5.2 with ⟨hv, hn⟩ | ⟨g, cap, cur, hv, _, _, hnc, _⟩
    · simp only [Value.slice.injEq] at hv; omega
    · simp only [Value.slice.injEq] at hv; omega
  refine Fam.more (lo := wr.heap.size) hf8 hL (by rw [← hvl]; simp) (fun i hi => List.getElem?_append_left (by omega)) ⟨A5, c5, rfl, hc5, fun _ => own_base hx8 hgr.size⟩ (fun g _ hg => (ho5.lt g hg).1) ?_
  intro i M v g hi hM hv hl hg
  exact (hf.lt hi hM hv hl hg).2

set_option maxRecDepth 100000 in
set_option maxHeartbeats 4000000 in
theorem ownss_any (A : Option Addr) (c : Nat) (LL : List (List Int)) (w : World) (h : Rws w A LL) (hn : LL.length ≤ 1099511627776) (hm : ∀ M ∈ LL, M.length ≤ 1099511627776) 
    (hcl : ∀ (w' : World) (j : Nat) (L : List Int), w.grownBy w' none → LL[j]? = some L → ∀ b off, A = some ⟨b, off, none⟩ → ∃ Aj cj, w'.cell? ⟨b, off + j, none⟩ = some (.slice Aj L.length cj) ∧ Ints w' Aj L ∧ (Aj = none → cj = 0) ∧ L.length ≤ cj) :
    Calls Try.prog 27 #[.slice A LL.length c] w fun e w' => ∃ A' c', e = .returned (.slice A' LL.length c') ∧ w.grownBy w' none ∧ LL.length ≤ c' ∧ ∃ vs, w'.ownsRow w.heap.size 22 1 (.slice A' LL.length c') LL.length vs ∧ Fam w' w.heap.size LL.length vs LL := by
  obtain ⟨i0, hi0, hz0, hz1, hz2⟩ := info_parts infoL
  obtain ⟨j0, hj0, hy0, hy1, hy2⟩ := info_parts infoJ
  have H := Lib.hid h
  have HCL := Lib.hid hcl
  have HM := Lib.hid hm
  obtain ⟨n, hnn⟩ : ∃ n, LL.length = n := ⟨_, rfl⟩
  have HN := Lib.hid hnn
  rw [hnn] at hn ⊢
  clear h hcl hm hnn
  have HO := Lib.hid (World.ownsRow_made (base := w.heap.size) (e := 22) (size := 1) w #[] 0 (Nat.le_refl _) (by simp) (by simp))
  go_enter Try.func27, Try.ntmps27
  go_wp2_with fail
  go_loopw [9, 3] (fun i u wr => ∃ (j : Nat) (Ax : Option Addr) (cx : Nat), j ≤ n ∧ i = .int .i64 j ∧ u = .slice Ax j cx ∧ Hid (∃ vs, wr.ownsRow w.heap.size 22 1 (.slice Ax j cx) j vs ∧ Fam wr w.heap.size j vs LL) ∧ Hid (w.grownBy wr none)) (fun i _ _ => n - (intOf i).toNat)
  case atStart => exact ⟨0, _, _, Nat.zero_le _, rfl, rfl, Lib.hid ⟨[], HO.out, Fam.zero _ _ _ _⟩, Lib.hid (World.grownBy_alloc _ _ _)⟩
  case round =>
    obtain ⟨j, Ax, cx, hj, rfl, rfl, hst, hgr⟩ := hrel
    obtain ⟨vs, how, hf⟩ := hst.out
    by_cases hlt : j < n
    · obtain ⟨L, hL⟩ : ∃ L, LL[j]? = some L := ⟨_, List.getElem?_eq_getElem (by have := HN.out; omega)⟩
      obtain ⟨b, off, rfl, _, _⟩ := H.out (by have := HN.out; omega)
      obtain ⟨Aj, cj, hcell, hij, hnj, hcj⟩ := HCL.out wr j L hgr.out hL b off rfl
      have hll := HM.out L (List.mem_of_getElem? hL)
      have HLL := Lib.hid hL
      have HIJ := Lib.hid hij
      obtain ⟨q, hq⟩ : ∃ q, L.length = q := ⟨_, rfl⟩
      rw [hq] at hcell hll hcj
      have HQ := Lib.hid hq
      have HOW := Lib.hid how
      have HF := Lib.hid hf
      clear hij hL hq how hf
      cases Aj with
      | none =>
        have h0 := hnj rfl
        subst h0
        have hq0 : q = 0 := by omega
        have HQ0 := Lib.hid hq0
        subst hq0
        clear hnj hcj
        have ho5 : (wr.alloc (.cells #[] 3)).ownsRow wr.heap.size 3 1 (.slice (some ⟨wr.heap.size, 0, none⟩) 0 0) 0 [] := World.ownsRow_made (base := wr.heap.size) (e := 3) (size := 1) wr #[] 0 (Nat.le_refl _) (by simp) (by simp)
        have HO5 := Lib.hid ho5
        clear ho5
        have wg := World.grownBy_alloc wr (.cells #[] 3) none
        have hs5 := hgr.out.size
        have own6 := (HOW.out.kept wg (by cases hv : (Value.slice Ax j cx).ownBlock <;> simp)).alloc (.cells #[(.slice (some ⟨wr.heap.size, 0, none⟩) 0 0)] 22)
        go_wp2_with (at_builtin; refine wpList_append_own_at _ rfl _ _ 28 rfl w.heap.size 22 i0 (.slice none 0 0) 1 24 Try.underlying28 hi0 hz0 hz1 hz2 rfl (by decide) _ _ _ rfl own6 ⟨wr.heap.size + 1, 0, none⟩ 1 1 [(.slice (some ⟨wr.heap.size, 0, none⟩) 0 0)] rfl rfl ?d1 ?d2 ?d3 ?d4 ?d5 ?_)
        case d2 => simp [Value.oneCell']
        case d3 => simp only [maxLen]; omega
        case d4 => omega
        case d5 => first | omega | (simp; omega)
        intro v8 w8 hown8 hg8 _ _
        obtain ⟨A8, m8, c8, rfl⟩ := own_form hown8
        have hm8 := own_len2 hown8
        have hst8 := ownss_step HOW.out HF.out wg (by rw [HQ.out, List.eq_nil_of_length_eq_zero HQ.out]; exact HO5.out) HLL.out hg8 hown8 hgr.out
        have HST8 := Lib.hid hst8
        subst hm8
        clear hst8 hown8 hg8 own6
        go_wp2_with fail
        go_roundw
        case rel => exact ⟨j + 1, _, _, by omega, by go_num, rfl, Lib.hid HST8.out.1, Lib.hid HST8.out.2⟩
        case measure => simp [intOf]; omega
      | some aj =>
        have own1 : (wr.alloc (.cells #[] 3)).ownsRow wr.heap.size 3 1 (.slice (some ⟨wr.heap.size, 0, none⟩) 0 0) 0 [] := World.ownsRow_made (base := wr.heap.size) (e := 3) (size := 1) wr #[] 0 (Nat.le_refl _) (by simp) (by simp)
        go_wp2_with (at_builtin; refine wpList_append_own_at _ rfl _ _ 22 rfl wr.heap.size 3 j0 (.int .i64 0) 1 8 Try.underlying22 hj0 hy0 hy1 hy2 rfl (by decide) _ _ _ rfl own1 aj q cj (L.map (Value.int .i64)) rfl ?c1 ?c0 ?c2 ?c3 ?c4 ?c5 ?_)
        case c1 => simp; exact HQ.out
        case c0 =>
          intro i u hu
          rw [List.getElem?_map] at hu
          obtain ⟨z, hz, rfl⟩ := Option.map_eq_some_iff.1 hu
          have hi := (List.getElem?_eq_some_iff.1 hz).1
          obtain ⟨b2, off2, ha, _, hc⟩ := (HIJ.out.grown (World.grownBy_alloc wr (.cells #[] 3) none) (by simp)) (by omega)
          cases ha
          rw [addr_flat]
          exact hc i z hz
        case c2 => intro u hu; obtain ⟨z, _, rfl⟩ := List.mem_map.1 hu; rfl
        case c3 => simp only [maxLen]; omega
        case c4 => omega
        case c5 => simp
        intro v5 w5 hown5 hg5 _ _
        obtain ⟨A5, m5, c5, rfl⟩ := own_form hown5
        have hm5 := own_len2 hown5
        have wg := gr_ownF (World.grownBy_alloc wr (.cells #[] 3) none) hg5 (fun k hk => by cases hk; exact Nat.le_refl _)
        have HO5 := Lib.hid hown5
        have hs5 := Nat.le_trans hgr.out.size wg.size
        clear hown5 hg5 own1 hm5 hnj hcj
        have own6 := (HOW.out.kept wg (by cases hv : (Value.slice Ax j cx).ownBlock <;> simp)).alloc (.cells #[(.slice A5 m5 c5)] 22)
        go_wp2_with (at_builtin; refine wpList_append_own_at _ rfl _ _ 28 rfl w.heap.size 22 i0 (.slice none 0 0) 1 24 Try.underlying28 hi0 hz0 hz1 hz2 rfl (by decide) _ _ _ rfl own6 ⟨w5.heap.size, 0, none⟩ 1 1 [(.slice A5 m5 c5)] rfl rfl ?f1 ?f2 ?f3 ?f4 ?f5 ?_)
        case f1 => exact cell_one_new _ _ _
        case f2 => simp [Value.oneCell']
        case f3 => simp only [maxLen]; omega
        case f4 => omega
        case f5 => first | omega | (simp; omega)
        intro v8 w8 hown8 hg8 _ _
        obtain ⟨A8, m8, c8, rfl⟩ := own_form hown8
        have hm8 := own_len2 hown8
        have hst8 := ownss_step HOW.out HF.out wg (by rw [HQ.out]; exact HO5.out) HLL.out hg8 hown8 hgr.out
        have HST8 := Lib.hid hst8
        subst hm8
        clear hst8 hown8 hg8 own6
        go_wp2_with fail
        go_roundw
        case rel => exact ⟨j + 1, _, _, by omega, by go_num, rfl, Lib.hid HST8.out.1, Lib.hid HST8.out.2⟩
        case measure => simp [intOf]; omega
    · have hjn : j = n := by omega
      have HJ := Lib.hid hjn
      have HOW := Lib.hid how
      have HF := Lib.hid hf
      clear hjn how hf
      go_wp2_with fail
      go_ret
      have how := HOW.out
      have hcx : j ≤ cx := by
        rcases how.2 with ⟨hv, hn⟩ | ⟨g, cap, cur, hv, _, _, hnc, _⟩
        · omega
        · simp only [Value.slice.injEq] at hv; omega
      have hjn : j = n := HJ.out
      subst hjn
      exact ⟨Ax, cx, rfl, hgr.out, hcx, vs, how, HF.out⟩

end Go.Proofs.Ytachjodnhgmoiaa
