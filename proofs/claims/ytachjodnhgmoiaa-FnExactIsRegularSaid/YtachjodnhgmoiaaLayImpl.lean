/- What LayOut of the program does. -/
import Derived.Test.YtachjodnhgmoiaaClone
import Derived.Test.YtachjodnhgmoiaaLayRd
import Derived.Test.YtachjodnhgmoiaaFod
import Derived.Test.YtachjodnhgmoiaaPutS
import Derived.Test.YtachjodnhgmoiaaLvText
import Derived.Test.YtachjodnhgmoiaaL1Read
namespace Go.Proofs.Ytachjodnhgmoiaa
open Go.RowKit

/-- How LayOut of the program ends. -/
def LIPost (s : ByteArray) (n : Int) (w : World) (e : Ending) (w' : World) : Prop :=
  (isArr s n = false ∧ e = .returned (.tuple #[.agg #[.slice none 0 0, .slice none 0 0], .bool false]) ∧ w.grownBy w' none) ∨
  (isArr s n = true ∧ ∃ t u, readN s n.toNat = some t ∧ e = .returned (.tuple #[u, .bool true]) ∧ w.grownBy w' none ∧ OwnLyt w' w.heap.size u (lv n.toNat [t]) (dat n.toNat [t]))

theorem flat_start {w w1 : World} {d g : Nat} (hg : w.heap.size ≤ w1.heap.size) (h : w1.ownsRow w.heap.size 22 1 (.slice (some ⟨g, 0, none⟩) d d) d (List.replicate d (.slice none 0 0))) :
    Flat (w1.alloc (.cells #[.slice none 0 0, .slice (some ⟨g, 0, none⟩) d d] 44)) w.heap.size w1.heap.size (.slice none 0 0) (List.replicate d []) [] := by
  have hp := Pr.new w1 44 (.slice none 0 0) (.slice (some ⟨g, 0, none⟩) d d)
  refine ⟨g, d, by rw [List.length_replicate]; exact hp, ⟨List.replicate d (.slice none 0 0), ?_, ?_⟩, by simp; omega, hg⟩
  · rw [List.length_replicate]
    exact h.alloc _
  · have e1 : List.replicate d (Value.slice none 0 0) ++ [.slice none 0 0] = List.replicate (d + 1) (.slice none 0 0) := by rw [List.replicate_succ']
    have e2 : List.replicate d ([] : List Int) ++ [[]] = List.replicate (d + 1) [] := by rw [List.replicate_succ']
    rw [e1, e2]
    refine ⟨by simp, fun i v L hv hL => ?_, fun i j v u g _ hv _ hg => ?_⟩
    · rw [List.getElem?_replicate] at hv hL
      split at hv
      · rename_i hi
        rw [if_pos hi] at hL
        cases hv
        cases hL
        exact World.ownsRow_nil _ _ _ _
      · cases hv
    · rw [List.getElem?_replicate] at hv
      split at hv
      · cases hv; cases hg
      · cases hv

theorem OwnLyt.box {w w' : World} {base g0 : Nat} {u : Value} {LL : List (List Int)} {D : List Int} {x y : Value} (h : OwnLyt w base u LL D) (hp : Pr w g0 30 x y) (hg : w.grownBy w' (some g0)) : OwnLyt w' base u LL D := by
  obtain ⟨A, c, d, vs, rfl, hc, ho, hf⟩ := h
  exact ⟨A, c, d, vs, rfl, hc, own_box ho hp (by decide) hg, hf.box hp (by decide) hg⟩
theorem OwnLyt.low {w : World} {base base' : Nat} {u : Value} {LL : List (List Int)} {D : List Int} (h : OwnLyt w base u LL D) (hb : base' ≤ base) : OwnLyt w base' u LL D := by
  obtain ⟨A, c, d, vs, rfl, hc, ho, hf⟩ := h
  exact ⟨A, c, d, vs, rfl, hc, own_base ho hb, hf.low hb⟩

set_option maxRecDepth 100000 in
set_option maxHeartbeats 1000000 in
theorem layout_impl (s : ByteArray) (n : Int) (w : World) : Calls Try.prog 13 #[.string s, .int .i64 n] w (LIPost s n w) := by
  by_cases h : 0 ≤ n ∧ n ≤ 3 ∧ s.size ≤ 400
  · obtain ⟨d, hd⟩ : ∃ d : Nat, n = d := ⟨n.toNat, by omega⟩
    subst hd
    have hdn : (d : Int).toNat = d := Int.toNat_natCast d
    have hd3 : d ≤ 3 := by omega
    have HC := Lib.hid (fun u => nest_in (d : Int) d s u rfl (by omega) (by omega) h.2.2)
    unfold LIPost
    rw [hdn]
    cases hr : readN s d with
    | none =>
      have hv : isArr s d = false := by unfold isArr; rw [hdn, hr]; simp
      have HR := Lib.hid hr
      have HV := Lib.hid hv
      clear h hv hr hdn
      go_enter Try.func13, Try.ntmps13
      go_wp2_with fail
      refine (HC.out _).mono ?_
      intro e w1 hp
      unfold NestPost at hp
      rw [HR.out] at hp
      obtain ⟨rfl, hg⟩ := hp
      have HG := Lib.hid ((World.grownBy_alloc w (.cells #[.slice none 0 0, .slice none 0 0] 30) none).trans hg)
      have HP := Lib.hid ((Pr.new w 30 (.slice none 0 0) (.slice none 0 0)).grown hg (by simp))
      have r0 := HP.out.c0
      have r1 := HP.out.c1
      have r2 := HP.out.f 0
      have r3 := HP.out.f 1
      clear hg
      go_wp2_with fail
      have T1 := (HP.out.set0 (.slice none 0 0)).set1 (.slice none 0 0)
      have q0 := T1.c0
      have q1 := T1.c1
      refine bodyPost_ret (v := .tuple #[.agg #[.slice none 0 0, .slice none 0 0], .bool false]) (by simp [results, Try.results13, go_sem, q0, q1]) rfl ?_
      exact .inl ⟨HV.out, rfl, gr_ownF HG.out ((gr_set w1 w.heap.size 0 (.slice none 0 0)).trans (gr_set _ w.heap.size 1 (.slice none 0 0))) (fun k hk => by cases hk; exact Nat.le_refl _)⟩
    | some t =>
      have hv : isArr s d = true := by unfold isArr; rw [hdn, hr]; simp; omega
      have HR := Lib.hid hr
      have HV := Lib.hid hv
      have HSH := Lib.hid (lv_short (readN_short hr h.2.2))
      clear h hv hr hdn
      have HFO := Lib.hid (fun u => fod_any d u (by omega))
      go_enter Try.func13, Try.ntmps13
      go_wp2_with fail
      refine (HC.out _).mono ?_
      intro e w1 hp
      unfold NestPost at hp
      rw [HR.out] at hp
      obtain ⟨v, rfl, hg, ha⟩ := hp
      have HG := Lib.hid ((World.grownBy_alloc w (.cells #[.slice none 0 0, .slice none 0 0] 30) none).trans hg)
      have HP := Lib.hid ((Pr.new w 30 (.slice none 0 0) (.slice none 0 0)).grown hg (by simp))
      have HA := Lib.hid ha
      clear hg ha
      go_wp2_with fail
      refine (HFO.out _).mono ?_
      rintro e w2 ⟨gR, rfl, hg2, _, hr2⟩
      have hfl := flat_start hg2.size hr2
      have hgu : w1.grownBy (w2.alloc (.cells #[.slice none 0 0, .slice (some ⟨gR, 0, none⟩) d d] 44)) none := hg2.trans (World.grownBy_alloc _ _ _)
      have HGU := Lib.hid hgu
      have HFL := Lib.hid hfl
      clear hfl hgu hg2 hr2
      go_wp2_with fail
      have hgu := HGU.out
      have hfl := HFL.out
      generalize w2.alloc (.cells #[.slice none 0 0, .slice (some ⟨gR, 0, none⟩) d d] 44) = u0 at hgu hfl ⊢
      have hrep : RepI u0 (fun b => b < w1.heap.size) d t v := RepI.keep (fun b _ hb => hgu.block b hb (by simp)) (fun b _ hb => hb) d t v HA.out
      have hlay := lay_any d t w2.heap.size w1.heap.size 0 (fun b => b < w1.heap.size) v (.slice none 0 0) (List.replicate d []) [] u0 hfl hrep (fun b hb => hb) (by simp) (by omega) HSH.out.1 HSH.out.2
      refine hlay.mono ?_
      rintro e w3 ⟨rfl, hb3, d3, hf3⟩
      have e1 : behind 0 (List.replicate d []) (lv d [t]) = lv d [t] := by rw [behind, List.take_zero, List.nil_append, List.drop_zero, lv_zero_add]
      rw [e1, List.nil_append] at hf3
      have hsh := HSH.out
      rw [e1, List.nil_append] at hsh
      have HG3 := Lib.hid (HG.out.trans (gr_below hgu hb3))
      have HP3 := Lib.hid (HP.out.grown (gr_below hgu hb3) (by simp))
      obtain ⟨g, c, hp3, hl3, _, _⟩ := hf3
      obtain ⟨⟨A8, c8, rfl, hi8, hd8, hn8⟩, hrw8, hcl8⟩ := hl3.reads
      have hlv := lv_len d [t]
      have HLY := Lib.hid (layout_any (some ⟨g, 0, none⟩) A8 c c8 (lv d [t]) (dat d [t]) w3 hrw8 hi8 (by rw [hlv]; omega) (fun M hM => by
        obtain ⟨i, hi⟩ := List.getElem?_of_mem hM
        have := hsh.1 i M hi; omega) (by have := hsh.2; omega) hd8 hn8 hcl8)
      have c0 := hp3.c0
      have c1 := hp3.c1
      obtain ⟨k, hk⟩ : ∃ k, (dat d [t]).length = k := ⟨_, rfl⟩
      rw [hk] at c0 HLY
      rw [hlv] at c1 HLY
      clear hgu hfl hrep hlay hb3 e1 hsh hp3 hl3 hi8 hd8 hn8 hrw8 hcl8
      go_wp2_with fail
      refine HLY.out.mono ?_
      rintro e w4 ⟨u, rfl, hg4, ho4⟩
      have HG4 := Lib.hid (HG3.out.trans hg4)
      have HO4 := Lib.hid ho4
      have HS3 := Lib.hid HG3.out.size
      have hp4 := HP3.out.grown hg4 (by simp)
      obtain ⟨A9, c9, d9, vs9, rfl, _, how9, hfm⟩ := id ho4
      obtain ⟨v9, hv9, B9, e9, hve, _⟩ := hfm.1 _ (dat d [t]) (Nat.lt_succ_self _) (by simp)
      have hd9 : ∃ m9, d9 = .slice B9 m9 e9 := by
        have hl9 : vs9.length = (lv d [t]).length := by
          have := how9.1
          omega
        rw [← hl9, List.getElem?_concat_length, Option.some.injEq] at hv9
        exact ⟨_, hv9.trans hve⟩
      obtain ⟨m9, rfl⟩ := hd9
      rw [hlv] at ho4 ⊢
      have HO5 := Lib.hid ho4
      have HP4 := Lib.hid hp4
      have r0 := hp4.c0
      have r1 := hp4.c1
      have r2 := hp4.f 0
      have r3 := hp4.f 1
      clear hg4 ho4 hp4 hfm hv9 hve how9 hlv HO4
      go_wp2_with fail
      have T1 := (HP4.out.set0 (.slice A9 d c9)).set1 (.slice B9 m9 e9)
      have q0 := T1.c0
      have q1 := T1.c1
      have hs1 := (gr_set w4 w.heap.size 0 (.slice A9 d c9)).trans (gr_set (w4.setCell ⟨w.heap.size, 0, none⟩ (.slice A9 d c9)) w.heap.size 1 (.slice B9 m9 e9))
      refine bodyPost_ret (v := .tuple #[.agg #[.slice A9 d c9, .slice B9 m9 e9], .bool true]) (by simp [results, Try.results13, go_sem, q0, q1]) rfl ?_
      clear q0 q1 r0 r1 r2 r3 T1
      have hfin := (HO5.out.box HP4.out hs1).low HS3.out
      have hgf := gr_ownF HG4.out hs1 (fun k hk => by cases hk; exact Nat.le_refl _)
      exact .inr ⟨HV.out, t, _, rfl, rfl, hgf, hfin⟩
  · have h' : n < 0 ∨ 3 < n ∨ 400 < s.size := by omega
    have hv : isArr s n = false := by unfold isArr; rw [decide_eq_false h]; rfl
    have HC := Lib.hid (fun u => nest_out n s u h')
    have HV := Lib.hid hv
    clear h h' hv
    go_enter Try.func13, Try.ntmps13
    go_wp2_with fail
    refine (HC.out _).mono ?_
    rintro e w1 ⟨rfl, hg⟩
    have HG := Lib.hid ((World.grownBy_alloc w (.cells #[.slice none 0 0, .slice none 0 0] 30) none).trans hg)
    have HP := Lib.hid ((Pr.new w 30 (.slice none 0 0) (.slice none 0 0)).grown hg (by simp))
    have r0 := HP.out.c0
    have r1 := HP.out.c1
    have r2 := HP.out.f 0
    have r3 := HP.out.f 1
    clear hg
    go_wp2_with fail
    have T1 := (HP.out.set0 (.slice none 0 0)).set1 (.slice none 0 0)
    have q0 := T1.c0
    have q1 := T1.c1
    refine bodyPost_ret (v := .tuple #[.agg #[.slice none 0 0, .slice none 0 0], .bool false]) (by simp [results, Try.results13, go_sem, q0, q1]) rfl ?_
    exact .inl ⟨HV.out, rfl, gr_ownF HG.out ((gr_set w1 w.heap.size 0 (.slice none 0 0)).trans (gr_set _ w.heap.size 1 (.slice none 0 0))) (fun k hk => by cases hk; exact Nat.le_refl _)⟩

end Go.Proofs.Ytachjodnhgmoiaa
