/- What slices.Clone does with ints, and layout of the program: a layout in new memory. -/
import Derived.Test.YtachjodnhgmoiaaGreatDoorAside
import Derived.Maps.AppendAt
import Derived.Deep.RegionLaw
import Derived.Deep.AppendLies
import Derived.Deep.CutRange
import Derived.Lib.SliceRun
namespace Go.Proofs.YtachjodnhgmoiaaGreatDoor
open Go.RowKit

set_option maxRecDepth 100000 in
theorem clone_nil (w : World) : Calls Tryz.prog 73 #[.slice none 0 0] w fun e w' => e = .returned (.slice none 0 0) ∧ w = w' := by
  have heq := fun w => Lib.run_eql_slice_nil (P := Tryz.prog) w 25 3 none 0 0 0 0 Tryz.underlying25
  go_enter Tryz.func73, Tryz.ntmps73
  go_wp2_with fail
  go_ret
  exact ⟨rfl, rfl⟩

set_option maxRecDepth 100000 in
set_option maxHeartbeats 400000 in
theorem clone_some (a : Addr) (c : Nat) (L : List Int) (w : World) (h : Ints w (some a) L) (hl : L.length ≤ 1099511627776) :
    Calls Tryz.prog 73 #[.slice (some a) L.length c] w fun e w' => ∃ A c', e = .returned (.slice A L.length c') ∧ w.grownBy w' none ∧ w'.ownsRow w.heap.size 3 1 (.slice A L.length c') L.length (L.map (Value.int .i64)) := by
  obtain ⟨i0, hi0, hz0, hz1, hz2⟩ := info_parts infoJ
  have H := Lib.hid h
  obtain ⟨q, hq⟩ : ∃ q, L.length = q := ⟨_, rfl⟩
  have HQ := Lib.hid hq
  rw [hq] at hl ⊢
  clear h hq
  have own1 : (w.alloc (.cells #[] 3)).ownsRow w.heap.size 3 1 (.slice (some ⟨w.heap.size, 0, none⟩) 0 0) 0 [] := World.ownsRow_made (base := w.heap.size) (e := 3) (size := 1) w #[] 0 (Nat.le_refl _) (by simp) (by simp)
  have heq := fun w => Lib.run_eql_slice_nil (P := Tryz.prog) w 25 3 (some a) q c 0 0 Tryz.underlying25
  go_enter Tryz.func73, Tryz.ntmps73
  go_wp2_with (at_builtin; refine wpList_append_own_at _ rfl _ _ 25 rfl w.heap.size 3 i0 (.int .i64 0) 1 8 Tryz.underlying25 hi0 hz0 hz1 hz2 rfl (by decide) _ _ _ rfl own1 a q c (L.map (Value.int .i64)) rfl ?c1 ?c0 ?c2 ?c3 ?c4 ?c5 ?_)
  case c1 => simp; exact HQ.out
  case c0 =>
    intro j u hu
    rw [List.getElem?_map] at hu
    obtain ⟨z, hz, rfl⟩ := Option.map_eq_some_iff.1 hu
    have hj := (List.getElem?_eq_some_iff.1 hz).1
    obtain ⟨b, off, ha, _, hc⟩ := (H.out.grown (World.grownBy_alloc w (.cells #[] 3) none) (by simp)) (by omega)
    cases ha
    rw [addr_flat]
    exact hc j z hz
  case c2 => intro u hu; obtain ⟨z, _, rfl⟩ := List.mem_map.1 hu; rfl
  case c3 => simp only [maxLen]; omega
  case c4 => omega
  case c5 => simp
  intro v8 w8 hown8 hg8 _ _
  obtain ⟨A8, m8, c8, rfl⟩ := own_form hown8
  have hm8 := own_len2 hown8
  subst hm8
  have HO8 := Lib.hid hown8
  have HG8 := Lib.hid (gr_ownF (World.grownBy_alloc w (.cells #[] 3) none) hg8 (fun k hk => by cases hk; exact Nat.le_refl _))
  clear hown8 hg8 own1
  go_wp2_with fail
  go_ret
  exact ⟨A8, c8, rfl, HG8.out, HO8.out⟩

theorem clone_any (A : Option Addr) (c : Nat) (L : List Int) (w : World) (h : Ints w A L) (hn : A = none → c = 0) (hc : L.length ≤ c) (hl : L.length ≤ 1099511627776) :
    Calls Tryz.prog 73 #[.slice A L.length c] w fun e w' => ∃ A c', e = .returned (.slice A L.length c') ∧ w.grownBy w' none ∧ w'.ownsRow w.heap.size 3 1 (.slice A L.length c') L.length (L.map (Value.int .i64)) := by
  cases A with
  | some a => exact clone_some a c L w h hl
  | none =>
    have h0 := hn rfl
    subst h0
    have hL : L = [] := List.eq_nil_of_length_eq_zero (by omega)
    subst hL
    refine (clone_nil w).mono ?_
    rintro e w' ⟨rfl, rfl⟩
    exact ⟨none, 0, rfl, gr_refl _ _, World.ownsRow_nil _ _ _ _⟩

/-- The rows and the numbers' row, which is older. -/
theorem Fam.all2 {w : World} {base lo n : Nat} {vs : List Value} {LL : List (List Int)} (h : Fam w lo n vs LL) (hb : base ≤ lo) (hv : vs.length = LL.length) (hn : n = LL.length) {d : Value} {D : List Int} (ho : OwnR w base d D) (hd : ∀ g, d.ownBlock = some g → g < lo) : Fam w base (n + 1) (vs ++ [d]) (LL ++ [D]) := by
  subst hn
  refine ⟨fun i L hi hL => ?_, fun i i' v u L L' g hi hi' hne hv1 hu hL hL' hl hl' hg => ?_⟩
  · by_cases e : i = LL.length
    · subst e
      simp only [List.getElem?_concat_length, Option.some.injEq] at hL
      subst hL
      exact ⟨d, by rw [← hv]; simp, ho⟩
    · rw [List.getElem?_append_left (by omega)] at hL
      obtain ⟨v, h1, h2⟩ := h.1 i L (by omega) hL
      exact ⟨v, by rw [List.getElem?_append_left (by omega)]; exact h1, h2.low hb⟩
  · by_cases e : i = LL.length
    · subst e
      have e2 : i' < LL.length := by omega
      rw [List.getElem?_append_left (by omega)] at hu
      rw [List.getElem?_append_left e2] at hL'
      rw [← hv, List.getElem?_concat_length, Option.some.injEq] at hv1
      subst hv1
      intro hg'
      have h1 := hd g hg
      have h2 := (h.lt e2 hL' hu hl' hg').1
      omega
    · have e1 : i < LL.length := by omega
      rw [List.getElem?_append_left (by omega)] at hv1
      rw [List.getElem?_append_left e1] at hL
      by_cases e' : i' = LL.length
      · subst e'
        rw [← hv, List.getElem?_concat_length, Option.some.injEq] at hu
        subst hu
        intro hg'
        have h1 := hd g hg'
        have h2 := (h.lt e1 hL hv1 hl hg).1
        omega
      · have e2 : i' < LL.length := by omega
        rw [List.getElem?_append_left (by omega)] at hu
        rw [List.getElem?_append_left e2] at hL'
        exact h.2 i i' v u L L' g e1 e2 hne hv1 hu hL hL' hl hl' hg

/-- One level more, cloned, behind those of a layout that is being made. -/
theorem layout_step {w wr w5 w8 : World} {base lo gl j m gg cap : Nat} {Ax : Option Addr} {cx : Nat} {u x : Value} {vs ds : List Value} {LL : List (List Int)} {L : List Int}
    (hp : Pr wr gl 59 (.slice Ax j cx) u) (how : wr.ownsRow base 25 1 (.slice Ax j cx) j vs) (hf : Fam wr lo j vs LL) (hod : wr.ownsRow base 3 1 u m ds) (hg5 : wr.grownBy w5 none)
    (ho5 : w5.ownsRow wr.heap.size 3 1 x L.length (L.map (Value.int .i64))) (hL : LL[j]? = some L) (hg8 : (w5.alloc (.cells #[x] 25)).grownBy w8 (Value.slice Ax j cx).ownBlock)
    (ho8 : w8.ownsRow base 25 1 (.slice (some ⟨gg, 0, none⟩) (j + 1) cap) (j + 1) (vs ++ [x])) (hlo : lo ≤ wr.heap.size) (hgr : w.grownBy wr none) (hb : w.heap.size ≤ base) (hgb : w.heap.size ≤ gl) :
    Pr w8 gl 59 (.slice Ax j cx) u ∧ Pr (w8.setCell ⟨gl, 0, none⟩ (.slice (some ⟨gg, 0, none⟩) (j + 1) cap)) gl 59 (.slice (some ⟨gg, 0, none⟩) (j + 1) cap) u ∧
    (w8.setCell ⟨gl, 0, none⟩ (.slice (some ⟨gg, 0, none⟩) (j + 1) cap)).ownsRow base 25 1 (.slice (some ⟨gg, 0, none⟩) (j + 1) cap) (j + 1) (vs ++ [x]) ∧
    Fam (w8.setCell ⟨gl, 0, none⟩ (.slice (some ⟨gg, 0, none⟩) (j + 1) cap)) lo (j + 1) (vs ++ [x]) LL ∧ (w8.setCell ⟨gl, 0, none⟩ (.slice (some ⟨gg, 0, none⟩) (j + 1) cap)).ownsRow base 3 1 u m ds ∧
    w.grownBy (w8.setCell ⟨gl, 0, none⟩ (.slice (some ⟨gg, 0, none⟩) (j + 1) cap)) none ∧ wr.heap.size ≤ (w8.setCell ⟨gl, 0, none⟩ (.slice (some ⟨gg, 0, none⟩) (j + 1) cap)).heap.size ∧
    ∀ (g0 : Nat) (a b : Value), g0 ≠ gl → Pr wr g0 59 a b → Pr (w8.setCell ⟨gl, 0, none⟩ (.slice (some ⟨gg, 0, none⟩) (j + 1) cap)) g0 59 a b := by
  have hg6 : wr.grownBy (w5.alloc (.cells #[x] 25)) none := hg5.trans (World.grownBy_alloc _ _ _)
  have how6 := how.kept hg6 (by cases hv : (Value.slice Ax j cx).ownBlock <;> simp)
  have hod6 := hod.kept hg6 (by cases hv : u.ownBlock <;> simp)
  have hx6 := ho5.alloc (.cells #[x] 25)
  have hp8 := box_row (hp.grown hg6 (by simp)) how6 (by decide) hg8
  have hod8 := own_aside hod6 how6 (by decide) hg8
  have hx8 := own_aside hx6 how6 (by decide) hg8
  have hf8 := (hf.grown hg6).aside how6 hg8
  have hs := gr_set w8 gl 0 (.slice (some ⟨gg, 0, none⟩) (j + 1) cap)
  have hgw : w.grownBy w8 none := gr_ownF (hgr.trans hg6) hg8 (fun k hk => Nat.le_trans hb (how.lt k hk).1)
  have hvl : vs.length = j := by have := how.1; omega
  refine ⟨hp8, hp8.set0 _, own_box ho8 hp8 (by decide) hs, ?_, own_box hod8 hp8 (by decide) hs, gr_ownF hgw hs (fun k hk => by cases hk; exact hgb), Nat.le_trans hg6.size (Nat.le_trans hg8.size hs.size), fun g0 a b hne hpg => ?_⟩
  · obtain ⟨A5, q5, c5, rfl⟩ := own_form ho5
    have hq5 := own_len2 ho5
    subst hq5
    have hc5 : L.length ≤ c5 := by
      rcases ho5.2 with ⟨hv, hn⟩ | ⟨g, cap, cur, hv, _, _, hnc, _⟩
      · simp only [Value.slice.injEq] at hv; omega
      · simp only [Value.slice.injEq] at hv; omega
    refine Fam.more (lo := wr.heap.size) (hf8.box hp8 (by decide) hs) hL (by rw [← hvl]; simp) (fun i hi => List.getElem?_append_left (by omega)) ⟨A5, c5, rfl, hc5, fun _ => own_base (own_box hx8 hp8 (by decide) hs) hlo⟩ (fun g _ hg => (ho5.lt g hg).1) ?_
    intro i M v g hi hM hv hl hg
    exact (hf.lt hi hM hv hl hg).2
  · exact (box_row (hpg.grown hg6 (by simp)) how6 (by decide) hg8).grown hs (by simp; exact hne)

set_option maxRecDepth 100000 in
set_option maxHeartbeats 4000000 in
theorem layout_any (A B : Option Addr) (c d : Nat) (LL : List (List Int)) (D : List Int) (w : World) (h : Rws w A LL) (hB : Ints w B D) (hn : LL.length ≤ 1099511627776) (hm : ∀ M ∈ LL, M.length ≤ 1099511627776) (hd : D.length ≤ 1099511627776) (hdc : D.length ≤ d) (hBn : B = none → d = 0)
    (hcl : ∀ (w' : World) (j : Nat) (L : List Int), w.grownBy w' none → LL[j]? = some L → ∀ b off, A = some ⟨b, off, none⟩ → ∃ Aj cj, w'.cell? ⟨b, off + j, none⟩ = some (.slice Aj L.length cj) ∧ Ints w' Aj L ∧ (Aj = none → cj = 0) ∧ L.length ≤ cj) :
    Calls Tryz.prog 48 #[.agg #[.slice B D.length d, .slice A LL.length c]] w fun e w' => ∃ u, e = .returned u ∧ w.grownBy w' none ∧ OwnLyt w' w.heap.size u LL D := by
  obtain ⟨i0, hi0, hz0, hz1, hz2⟩ := info_parts infoL
  have H := Lib.hid h
  have HCB := Lib.hid (fun u (hg : w.grownBy u none) => clone_any B d D u (hB.grown hg (by simp)) hBn hdc hd)
  have HCL := Lib.hid hcl
  have HM := Lib.hid hm
  obtain ⟨n, hnn⟩ : ∃ n, LL.length = n := ⟨_, rfl⟩
  obtain ⟨m, hmm⟩ : ∃ m, D.length = m := ⟨_, rfl⟩
  have HN := Lib.hid hnn
  have HMM := Lib.hid hmm
  rw [hnn] at hn ⊢
  rw [hmm] at HCB ⊢
  clear h hB hcl hm hnn hmm hd hdc hBn
  have HG0 := Lib.hid ((World.grownBy_alloc w (.cells #[.slice B m d, .slice A n c] 82) none).trans (World.grownBy_alloc _ (.cells #[.slice none 0 0, .slice none 0 0] 59) none))
  have P0 := (Pr.new w 82 (.slice B m d) (.slice A n c)).alloc (.cells #[.slice none 0 0, .slice none 0 0] 59)
  have P1 := Pr.new (w.alloc (.cells #[.slice B m d, .slice A n c] 82)) 59 (.slice none 0 0) (.slice none 0 0)
  rw [sz_alloc] at P1
  have HP0 := Lib.hid P0
  have HP1 := Lib.hid P1
  clear P0 P1
  go_enter Tryz.func48, Tryz.ntmps48
  go_wp2_with fail
  generalize (w.alloc (.cells #[.slice B m d, .slice A n c] 82)).alloc (.cells #[.slice none 0 0, .slice none 0 0] 59) = u0 at HG0 HP0 HP1 ⊢
  refine (HCB.out _ HG0.out).mono ?_
  rintro e w1 ⟨A1, c1, rfl, hg1, ho1⟩
  have HG1 := Lib.hid (HG0.out.trans hg1)
  have HSZ := Lib.hid hg1.size
  have Q0 := HP0.out.grown hg1 (by simp)
  have Q1 := HP1.out.grown hg1 (by simp)
  have HO1 := Lib.hid (own_base ho1 HG0.out.size)
  have HQ0 := Lib.hid (Q0.alloc (.cells #[.slice none 0 0, .slice A1 m c1] 59))
  have HQ1 := Lib.hid (Q1.alloc (.cells #[.slice none 0 0, .slice A1 m c1] 59))
  have HL := Lib.hid (Pr.new w1 59 (.slice none 0 0) (.slice A1 m c1))
  have HO2 := Lib.hid (HO1.out.alloc (.cells #[.slice none 0 0, .slice A1 m c1] 59))
  have HG2 := Lib.hid (HG1.out.trans (World.grownBy_alloc w1 (.cells #[.slice none 0 0, .slice A1 m c1] 59) none))
  have HLT := Lib.hid (fun g hg => (HO1.out.lt g hg).2)
  have q1 := HQ0.out.c1
  clear hg1 ho1 Q0 Q1
  go_wp2_with fail
  clear q1
  have hgl : w.heap.size ≤ w1.heap.size := HG1.out.size
  generalize w1.alloc (.cells #[.slice none 0 0, .slice A1 m c1] 59) = w2 at HQ0 HQ1 HL HO2 HG2 ⊢
  have hsz2 : w1.heap.size < w2.heap.size := HL.out.lt
  have hsp : w.heap.size + 1 < w1.heap.size := by
    have h1 := HP1.out.lt
    have h2 := HSZ.out
    omega
  go_loopw [14] (fun i wr => ∃ (j : Nat), j ≤ n ∧ i = .int .i64 j ∧ Hid (∃ Ax cx vs, Pr wr w1.heap.size 59 (.slice Ax j cx) (.slice A1 m c1) ∧ wr.ownsRow w.heap.size 25 1 (.slice Ax j cx) j vs ∧ Fam wr w1.heap.size j vs LL ∧
    wr.ownsRow w.heap.size 3 1 (.slice A1 m c1) m (D.map (Value.int .i64))) ∧ Hid (w.grownBy wr none) ∧ Hid (w2.heap.size ≤ wr.heap.size) ∧ Hid (∃ a b, Pr wr (w.heap.size + 1) 59 a b)) (fun i _ => n - (intOf i).toNat)
  case atStart =>
    exact ⟨0, Nat.zero_le _, rfl, Lib.hid ⟨none, 0, [], HL.out, World.ownsRow_nil _ _ _ _, Fam.zero _ _ _ _, HO2.out⟩, HG2, Lib.hid (Nat.le_refl _), Lib.hid ⟨_, _, HQ1.out⟩⟩
  case round =>
    obtain ⟨j, hj, rfl, hst, hgr, hszr, hqq⟩ := hrel
    obtain ⟨Ax, cx, vs, hp, how, hf, hod⟩ := hst.out
    by_cases hlt : j < n
    · obtain ⟨L, hL⟩ : ∃ L, LL[j]? = some L := ⟨_, List.getElem?_eq_getElem (by have := HN.out; omega)⟩
      obtain ⟨b, off, rfl, _, _⟩ := H.out (by have := HN.out; omega)
      obtain ⟨Aj, cj, hcell, hij, hnj, hcj⟩ := HCL.out wr j L hgr.out hL b off rfl
      have hll := HM.out L (List.mem_of_getElem? hL)
      have HC := Lib.hid (fun u (hg : wr.grownBy u none) => clone_any Aj cj L u (hij.grown hg (by simp)) hnj hcj hll)
      have HLL := Lib.hid hL
      obtain ⟨q, hq⟩ : ∃ q, L.length = q := ⟨_, rfl⟩
      rw [hq] at hcell HC
      have HQ := Lib.hid hq
      have HP := Lib.hid hp
      have HOW := Lib.hid how
      have HF := Lib.hid hf
      have HOD := Lib.hid hod
      have p0 := hp.c0
      clear hij hnj hcj hll hL hq hp how hf hod
      go_wp2_with fail
      go_region_law (first
        | (refine step_append_lies _ (by rfl) _ _ _ (by rfl) w.heap.size 25 i0 _ 1 24 Tryz.underlying32 hi0 hz0 hz1 hz2 rfl (by omega) (.slice Ax j cx) j vs (by rfl) own7 ⟨w5.heap.size, 0, none⟩ 1 1 [.slice A5 q c5] (by rfl) (by rfl) (World.news_of_block (cs := #[.slice A5 q c5]) (t := 25) (fr := (0, 0)) (heap_alloc_new _ _)) (by simp [Value.oneCell']) (by omega) (by simp only [maxLen]; omega) (by omega) (by simp; omega) (w5.heap.size + 1) (by simp) ?_
           intro gg cap w8 hown8 hg8 hat8 hlt8
           have hst8 := layout_step (w := w) (w5 := w5) HP.out HOW.out HF.out HOD.out HG5.out (by rw [HQ.out]; exact HO5.out) HLL.out hg8 hown8 (Nat.le_trans (Nat.le_of_lt hsz2) hszr.out) hgr.out (Nat.le_refl _) hgl
           have HST8 := Lib.hid hst8
           have p8 := hst8.1.c0
           have f8 := hst8.1.f 0
           clear hst8 hown8 hg8 hat8 hlt8)
        | (go_simp
           go_at_call 73
           refine (HC.out _ (by first | exact gr_drew wr none | exact gr_drewN wr _ none)).mono ?_
           rintro e w5 ⟨A5, c5, rfl, hg5, ho5⟩
           have hg5b : wr.grownBy w5 none := World.grownBy.trans (by first | exact gr_drew wr none | exact gr_drewN wr _ none) hg5
           have HG5 := Lib.hid hg5b
           have HO5 := Lib.hid ho5
           have hs5 : w.heap.size ≤ w5.heap.size := Nat.le_trans hgr.out.size hg5b.size
           have own7 := ((HOW.out.kept hg5b (by cases hv : (Value.slice Ax j cx).ownBlock <;> simp)).alloc (.cells #[.slice A5 q c5] 25))
           have p5 := (HP.out.grown hg5b (by simp)).c0
           have p6 := ((HP.out.grown hg5b (by simp)).alloc (.cells #[.slice A5 q c5] 25)).c0
           clear hg5 ho5 hg5b))
      all_goals
        go_wp2_with fail
        go_roundw
        case rel =>
          obtain ⟨_, a1, a2, a3, a4, a5, a6, a7⟩ := HST8.out
          obtain ⟨qa, qb, hq⟩ := hqq.out
          exact ⟨j + 1, by omega, by go_num, Lib.hid ⟨_, _, _, a1, a2, a3, a4⟩, Lib.hid a5, Lib.hid (Nat.le_trans hszr.out a6), Lib.hid ⟨_, _, a7 _ qa qb (by have := hsp; omega) hq⟩⟩
        case measure => simp [intOf]; omega
    · have hjn : j = n := by omega
      have HJ := Lib.hid hjn
      clear hjn
      have p0 := hp.c0
      have p1 := hp.c1
      obtain ⟨qa, qb, hq⟩ := hqq.out
      have q0 := hq.c0
      have q1 := hq.c1
      have q2 := hq.f 0
      have q3 := hq.f 1
      have HP := Lib.hid hp
      have HOW := Lib.hid how
      have HF := Lib.hid hf
      have HOD := Lib.hid hod
      have HQ := Lib.hid hq
      clear hp how hf hod hq
      go_wp2_with fail
      clear p0 p1 q0 q1 q2 q3
      have T1 := (HQ.out.set0 (.slice Ax j cx)).set1 (.slice A1 m c1)
      have r0 := T1.c0
      have r1 := T1.c1
      have hs1 := (gr_set wr (w.heap.size + 1) 0 (.slice Ax j cx)).trans (gr_set (wr.setCell ⟨w.heap.size + 1, 0, none⟩ (.slice Ax j cx)) (w.heap.size + 1) 1 (.slice A1 m c1))
      refine bodyPost_ret (v := .agg #[.slice Ax j cx, .slice A1 m c1]) (by simp [results, Tryz.results48, go_sem, r0, r1]) rfl ?_
      clear r0 r1 T1
      generalize (wr.setCell ⟨w.heap.size + 1, 0, none⟩ (.slice Ax j cx)).setCell ⟨w.heap.size + 1, 1, none⟩ (.slice A1 m c1) = wf at hs1 ⊢
      have hlen : LL.length = j := by have := HN.out; have := HJ.out; omega
      have how := own_box HOW.out HQ.out (by decide) hs1
      have hod := own_box HOD.out HQ.out (by decide) hs1
      have hcx : j ≤ cx := by
        rcases how.2 with ⟨hv, hn⟩ | ⟨g, cap, cur, hv, _, _, hnc, _⟩
        · omega
        · simp only [Value.slice.injEq] at hv; omega
      have hmc : m ≤ c1 := by
        rcases hod.2 with ⟨hv, hn⟩ | ⟨g, cap, cur, hv, _, _, hnc, _⟩
        · omega
        · simp only [Value.slice.injEq] at hv; omega
      refine ⟨_, rfl, gr_ownF hgr.out hs1 (fun k hk => by cases hk; omega), Ax, cx, .slice A1 m c1, vs, by rw [hlen], by omega, by rw [hlen]; exact how, ?_⟩
      rw [hlen]
      refine Fam.all2 (lo := w1.heap.size) (HF.out.box HQ.out (by decide) hs1) hgl (by have := how.1; omega) hlen.symm ⟨A1, c1, by rw [HMM.out], by rw [HMM.out]; exact hmc, fun _ => by rw [HMM.out]; exact hod⟩ HLT.out

end Go.Proofs.YtachjodnhgmoiaaGreatDoor
