/- What l2RawLayOut and LayOut of the model do. -/
import Derived.Test.YtachjodnhgmoiaaRawM
import Derived.Test.YtachjodnhgmoiaaPutM
import Derived.Test.YtachjodnhgmoiaaLayImpl
import Derived.Test.YtachjodnhgmoiaaRowIns
namespace Go.Proofs.Ytachjodnhgmoiaa
open Go.RowKit

/-- How l2RawLayOut ends. -/
def RLPost (s : ByteArray) (n : Int) (w : World) (e : Ending) (w' : World) : Prop :=
  (isArr s n = false ∧ e = .returned (.tuple #[.agg #[.slice none 0 0, .slice none 0 0], .bool false]) ∧ w.grownBy w' none) ∨
  (isArr s n = true ∧ ∃ t u, readN s n.toNat = some t ∧ e = .returned (.tuple #[u, .bool true]) ∧ w.grownBy w' none ∧ LytC w' u (lv n.toNat [t]) (dat n.toNat [t]))

/-- An empty level more. -/
theorem flatm_step {wr : World} {base gl j : Nat} {d0 : Value} {D : List Int} (h : FlatM wr base gl d0 (List.replicate j []) D) :
    ∃ g c vs, Pr wr gl 30 (.slice (some ⟨g, 0, none⟩) j c) d0 ∧ wr.ownsRow base 22 1 (.slice (some ⟨g, 0, none⟩) j c) j vs ∧ base ≤ wr.heap.size ∧
      ∀ (w8 : World) (gg cap : Nat), ((wr.alloc (.cells #[] 3)).alloc (.cells #[.slice (some ⟨wr.heap.size, 0, none⟩) 0 0] 22)).grownBy w8 (Value.slice (some ⟨g, 0, none⟩) j c).ownBlock →
        w8.ownsRow base 22 1 (.slice (some ⟨gg, 0, none⟩) (j + 1) cap) (j + 1) (vs ++ [.slice (some ⟨wr.heap.size, 0, none⟩) 0 0]) →
        Pr w8 gl 30 (.slice (some ⟨g, 0, none⟩) j c) d0 ∧ Below base wr (w8.setCell ⟨gl, 0, none⟩ (.slice (some ⟨gg, 0, none⟩) (j + 1) cap)) ∧
        FlatM (w8.setCell ⟨gl, 0, none⟩ (.slice (some ⟨gg, 0, none⟩) (j + 1) cap)) base gl d0 (List.replicate (j + 1) []) D ∧
        ∀ (g0 : Nat) (x y : Value), Pr wr g0 52 x y → Pr (w8.setCell ⟨gl, 0, none⟩ (.slice (some ⟨gg, 0, none⟩) (j + 1) cap)) g0 52 x y := by
  obtain ⟨g, c, hp, ⟨vs, ho, hr⟩, hb, hgl⟩ := h
  rw [List.length_replicate] at hp ho
  refine ⟨g, c, vs, hp, ho, hb, fun w8 gg cap hg8 ho8 => ?_⟩
  have hg6 : wr.grownBy ((wr.alloc (.cells #[] 3)).alloc (.cells #[.slice (some ⟨wr.heap.size, 0, none⟩) 0 0] 22)) none := (World.grownBy_alloc _ _ _).trans (World.grownBy_alloc _ _ _)
  have ho6 := ho.kept hg6 (by cases hv : (Value.slice (some ⟨g, 0, none⟩) j c).ownBlock <;> simp)
  have hx6 : ((wr.alloc (.cells #[] 3)).alloc (.cells #[.slice (some ⟨wr.heap.size, 0, none⟩) 0 0] 22)).ownsRow base 3 1 (.slice (some ⟨wr.heap.size, 0, none⟩) 0 0) 0 [] :=
    (World.ownsRow_made (base := base) (e := 3) (size := 1) wr #[] 0 hb (by simp) (by simp)).alloc _
  have hx8 := own_aside hx6 ho6 (by decide) hg8
  have hp8 := box_row (hp.grown hg6 (by simp)) ho6 (by decide) hg8
  have hr6 := hr.grown hg6
  have hr8 : LRows w8 base (vs ++ [d0]) (List.replicate j [] ++ [D]) := ⟨hr6.1, fun i v L hv hL => own_aside (hr6.2.1 i v L hv hL) ho6 (by decide) hg8, hr6.2.2⟩
  have hs := gr_set w8 gl 0 (.slice (some ⟨gg, 0, none⟩) (j + 1) cap)
  have hvl : vs.length = (List.replicate j ([] : List Int)).length := by have := ho.1; simp; omega
  have hr9 := (hr8.insert (L := []) hvl hx8 (fun g2 i v hg2 hv hv2 => by
    simp only [Value.ownBlock, Option.some.injEq] at hg2
    subst hg2
    have hi : i < (List.replicate j ([] : List Int) ++ [D]).length := by rw [← hr.1]; exact (List.getElem?_eq_some_iff.1 hv).1
    have := ((hr.2.1 i v _ hv (List.getElem?_eq_getElem hi)).lt _ hv2).2
    omega))
  have hB : Below base wr w8 := ⟨hg8.os.trans hg6.os, hg8.tape.trans hg6.tape, hg8.output.trans hg6.output, Nat.le_trans hg6.size hg8.size, fun k hk => (hg8.block k (Nat.lt_of_lt_of_le (Nat.lt_of_lt_of_le hk hb) hg6.size) (fun e => by have := (ho.lt k e.symm).1; omega)).trans (hg6.block k (Nat.lt_of_lt_of_le hk hb) (by simp))⟩
  have e1 : List.replicate j ([] : List Int) ++ [[]] = List.replicate (j + 1) [] := by rw [List.replicate_succ']
  refine ⟨hp8, hB.trans (below_set hgl), ⟨gg, cap, by rw [List.length_replicate]; exact hp8.set0 _, ⟨_, by rw [List.length_replicate]; exact own_box ho8 hp8 (by decide) hs, ?_⟩, Nat.le_trans hb (Nat.le_trans hg6.size (Nat.le_trans hg8.size hs.size)), hgl⟩, fun g0 x y hpg => ?_⟩
  · rw [← e1]
    exact LRows.other hr9 hp8 (by decide) hs
  · have hpg8 := box_row (hpg.grown hg6 (by simp)) ho6 (by decide) hg8
    refine hpg8.grown hs (fun e => ?_)
    cases e
    unfold Pr at hpg8 hp8
    rw [hpg8] at hp8
    cases hp8

/-- The beginning: no levels, no numbers. -/
theorem flatm_start (w : World) (o : Obj) :
    FlatM ((((w.alloc o).alloc (.cells #[] 22)).alloc (.cells #[] 3)).alloc (.cells #[.slice (some ⟨w.heap.size + 1, 0, none⟩) 0 0, .slice (some ⟨w.heap.size + 1 + 1, 0, none⟩) 0 0] 30)) w.heap.size (w.heap.size + 1 + 1 + 1) (.slice (some ⟨w.heap.size + 1 + 1, 0, none⟩) 0 0) (List.replicate 0 []) [] := by
  have h1 := World.ownsRow_made (base := w.heap.size) (e := 22) (size := 1) (w.alloc o) #[] 0 (by simp) (by simp) (by simp)
  have h2 := World.ownsRow_made (base := w.heap.size) (e := 3) (size := 1) ((w.alloc o).alloc (.cells #[] 22)) #[] 0 (by simp; omega) (by simp) (by simp)
  have h3 := Pr.new (((w.alloc o).alloc (.cells #[] 22)).alloc (.cells #[] 3)) 30 (.slice (some ⟨w.heap.size + 1, 0, none⟩) 0 0) (.slice (some ⟨w.heap.size + 1 + 1, 0, none⟩) 0 0)
  rw [sz_alloc] at h1
  rw [sz_alloc, sz_alloc] at h2
  rw [sz_alloc, sz_alloc, sz_alloc] at h3
  refine ⟨w.heap.size + 1, 0, h3, ⟨[], (h1.alloc _).alloc _, ?_⟩, by simp; omega, by omega⟩
  refine ⟨rfl, fun i v L hv hL => ?_, fun i j v u g hne hv hu _ => ?_⟩
  · match i, hv, hL with
    | 0, hv, hL =>
      simp at hv hL
      subst hv hL
      exact h2.alloc _
    | i + 1, hv, _ => simp at hv
  · have hi := (List.getElem?_eq_some_iff.1 hv).1
    have hj := (List.getElem?_eq_some_iff.1 hu).1
    simp at hi hj
    omega

set_option maxRecDepth 100000 in
set_option maxHeartbeats 4000000 in
theorem rawlay_any (s : ByteArray) (n : Int) (w : World) : Calls Try.prog 16 #[.string s, .int .i64 n] w (RLPost s n w) := by
  by_cases h : 0 ≤ n ∧ n ≤ 3 ∧ s.size ≤ 400
  · obtain ⟨d, hd⟩ : ∃ d : Nat, n = d := ⟨n.toNat, by omega⟩
    subst hd
    have hdn : (d : Int).toNat = d := Int.toNat_natCast d
    have hd3 : d ≤ 3 := by omega
    have HC := Lib.hid (fun u => sread_in (d : Int) d s u rfl (by omega) (by omega) h.2.2)
    unfold RLPost
    rw [hdn]
    cases hr : readN s d with
    | none =>
      have hv : isArr s d = false := by unfold isArr; rw [hdn, hr]; simp
      have HR := Lib.hid hr
      have HV := Lib.hid hv
      clear h hv hr hdn
      go_enter Try.func16, Try.ntmps16
      go_wp2_with fail
      refine (HC.out _).mono ?_
      intro e w1 hp
      unfold SReadPost at hp
      rw [HR.out] at hp
      obtain ⟨rfl, hg⟩ := hp
      have HG := Lib.hid ((World.grownBy_alloc w (.cells #[.slice none 0 0, .slice none 0 0] 30) none).trans hg)
      have HP := Lib.hid ((Pr.new w 30 (.slice none 0 0) (.slice none 0 0)).grown hg (by simp))
      have HQ := Lib.hid (HP.out.alloc (.cells #[.int .i64 0, .slice none 0 0] 52))
      have r0 := HQ.out.c0
      have r1 := HQ.out.c1
      have r2 := HQ.out.f 0
      have r3 := HQ.out.f 1
      clear hg
      go_wp2_with fail
      have T1 := (HQ.out.set0 (.slice none 0 0)).set1 (.slice none 0 0)
      have q0 := T1.c0
      have q1 := T1.c1
      refine bodyPost_ret (v := .tuple #[.agg #[.slice none 0 0, .slice none 0 0], .bool false]) (by simp [results, Try.results16, go_sem, q0, q1]) rfl ?_
      exact .inl ⟨HV.out, rfl, gr_ownF (HG.out.trans (World.grownBy_alloc _ _ _)) ((gr_set _ w.heap.size 0 (.slice none 0 0)).trans (gr_set _ w.heap.size 1 (.slice none 0 0))) (fun k hk => by cases hk; exact Nat.le_refl _)⟩
    | some t =>
      have hv : isArr s d = true := by unfold isArr; rw [hdn, hr]; simp; omega
      have HR := Lib.hid hr
      have HV := Lib.hid hv
      have HSH := Lib.hid (lv_short (readN_short hr h.2.2))
      clear h hv hr hdn
      obtain ⟨i0, hi0, hz0, hz1, hz2⟩ := info_parts infoL
      go_enter Try.func16, Try.ntmps16
      go_wp2_with fail
      refine (HC.out _).mono ?_
      intro e w1 hp
      unfold SReadPost at hp
      rw [HR.out] at hp
      obtain ⟨m, sv, rfl, ⟨A, kk, cc, rfl⟩, hg, ha⟩ := hp
      have HG := Lib.hid ((World.grownBy_alloc w (.cells #[.slice none 0 0, .slice none 0 0] 30) none).trans hg)
      have HP := Lib.hid ((Pr.new w 30 (.slice none 0 0) (.slice none 0 0)).grown hg (by simp))
      have HA := Lib.hid ha
      clear hg ha
      go_wp2_with fail
      have hbw : Below w1.heap.size w1 ((((w1.alloc (.cells #[.int .i64 m, .slice A kk cc] 52)).alloc (.cells #[] 22)).alloc (.cells #[] 3)).alloc (.cells #[.slice (some ⟨w1.heap.size + 1, 0, none⟩) 0 0, .slice (some ⟨w1.heap.size + 1 + 1, 0, none⟩) 0 0] 30)) := by
        have hg := (((World.grownBy_alloc w1 (.cells #[.int .i64 m, .slice A kk cc] 52) none).trans (World.grownBy_alloc _ (.cells #[] 22) none)).trans (World.grownBy_alloc _ (.cells #[] 3) none)).trans (World.grownBy_alloc _ (.cells #[.slice (some ⟨w1.heap.size + 1, 0, none⟩) 0 0, .slice (some ⟨w1.heap.size + 1 + 1, 0, none⟩) 0 0] 30) none)
        exact ⟨hg.os, hg.tape, hg.output, hg.size, fun k hk => hg.block k hk (by simp)⟩
      have HFM := Lib.hid (flatm_start w1 (.cells #[.int .i64 m, .slice A kk cc] 52))
      have HND := Lib.hid ((((Pr.new w1 52 (.int .i64 m) (.slice A kk cc)).alloc (.cells #[] 22)).alloc (.cells #[] 3)).alloc (.cells #[.slice (some ⟨w1.heap.size + 1, 0, none⟩) 0 0, .slice (some ⟨w1.heap.size + 1 + 1, 0, none⟩) 0 0] 30))
      have HBW := Lib.hid hbw
      clear hbw
      generalize (((w1.alloc (.cells #[.int .i64 m, .slice A kk cc] 52)).alloc (.cells #[] 22)).alloc (.cells #[] 3)).alloc (.cells #[.slice (some ⟨w1.heap.size + 1, 0, none⟩) 0 0, .slice (some ⟨w1.heap.size + 1 + 1, 0, none⟩) 0 0] 30) = u0 at HFM HND HBW ⊢
      go_loopw [23] (fun i wr => ∃ (j : Nat), j ≤ d ∧ i = .int .i64 j ∧ Hid (FlatM wr w1.heap.size (w1.heap.size + 1 + 1 + 1) (.slice (some ⟨w1.heap.size + 1 + 1, 0, none⟩) 0 0) (List.replicate j []) []) ∧ Hid (Below w1.heap.size w1 wr) ∧ Hid (Pr wr w1.heap.size 52 (.int .i64 m) (.slice A kk cc))) (fun i _ => d - (intOf i).toNat)
      case atStart => exact ⟨0, Nat.zero_le _, rfl, HFM, HBW, HND⟩
      case round =>
        obtain ⟨j, hj, rfl, hfm, hbl, hnd⟩ := hrel
        by_cases hlt : j < d
        · obtain ⟨g, c, vs, hp, ho, hb, hst⟩ := flatm_step hfm.out
          have HST := Lib.hid hst
          have own6 := (ho.alloc (.cells #[] 3)).alloc (.cells #[.slice (some ⟨wr.heap.size, 0, none⟩) 0 0] 22)
          have p0 := hp.c0
          clear hp ho hst
          go_wp2_with (at_builtin; refine wpList_append_own_at _ rfl _ _ 28 rfl w1.heap.size 22 i0 (.slice none 0 0) 1 24 Try.underlying28 hi0 hz0 hz1 hz2 rfl (by decide) _ _ _ rfl own6 ⟨wr.heap.size + 1, 0, none⟩ 1 1 [(.slice (some ⟨wr.heap.size, 0, none⟩) 0 0)] rfl rfl ?h1 ?h2 ?h3 ?h4 ?h5 ?_)
          case h2 => simp [Value.oneCell']
          case h3 => simp only [maxLen]; omega
          case h4 => omega
          case h5 => first | omega | (simp; omega)
          case h1 =>
            have hcn := cell_one_new (wr.alloc (.cells #[] 3)) (.slice (some ⟨wr.heap.size, 0, none⟩) 0 0) 22
            rw [sz_alloc] at hcn
            exact hcn
          intro v8 w8 hown8 hg8 hnil8 _
          obtain ⟨g8, c8, rfl⟩ : ∃ g8 c8, v8 = .slice (some ⟨g8, 0, none⟩) (j + 1) c8 := by
            rcases hown8.2 with ⟨hv, hz⟩ | ⟨b8, cap8, cur8, hv8, _⟩
            · omega
            · exact ⟨b8, cap8, hv8⟩
          obtain ⟨hp8, hb8, hf8, hn8⟩ := HST.out w8 g8 c8 hg8 hown8
          have HB8 := Lib.hid hb8
          have HF8 := Lib.hid hf8
          have HN8 := Lib.hid (hn8 _ _ _ hnd.out)
          have x0 := hp8.c0
          have x1 := hp8.f 0
          clear hown8 hg8 hnil8 own6 hp8 hb8 hf8 hn8
          go_wp2_with fail
          go_roundw
          case rel => exact ⟨j + 1, by omega, by go_num, HF8, Lib.hid (hbl.out.trans HB8.out), HN8⟩
          case measure => simp [intOf]; omega
        · have hjn : j = d := by omega
          subst hjn
          have hs0 : SNd wr (fun b => b < w1.heap.size) j t (m, .slice A kk cc) := SNd.keep (fun b _ hb => hbl.out.block b hb) (fun b _ hb => hb) j t _ HA.out
          have hlay := laym_any j t (w1.heap.size + 1 + 1 + 1) w1.heap.size 0 (fun b => b < w1.heap.size) m A kk cc _ (List.replicate j []) [] wr hfm.out hs0 (fun b hb => hb) (by simp) (by omega) HSH.out.1 HSH.out.2
          have e1 : behind 0 (List.replicate j []) (lv j [t]) = lv j [t] := by rw [behind, List.take_zero, List.nil_append, List.drop_zero, lv_zero_add]
          rw [e1, List.nil_append] at hlay
          have HLY := Lib.hid hlay
          have n0 := hnd.out.c0
          have n1 := hnd.out.c1
          clear hs0 hlay e1
          go_wp2_with fail
          refine HLY.out.mono ?_
          rintro e w5 ⟨rfl, hb5, d5, hf5⟩
          have hg5 := gr_below (gr_refl w1 none) (hbl.out.trans hb5)
          have HG5 := Lib.hid (HG.out.trans hg5)
          have HP5 := Lib.hid (HP.out.grown hg5 (by simp))
          obtain ⟨g, c, hp5, hl5, _, hgl⟩ := hf5
          have hlc : (lv j [t]).length ≤ c := by
            obtain ⟨vs, ho, _⟩ := hl5
            rcases ho.2 with ⟨hv, _⟩ | ⟨_, _, _, hv, _, _, hnc, _⟩
            · cases hv
            · simp only [Value.slice.injEq] at hv; omega
          obtain ⟨⟨A8, c8, rfl, hi8, hd8, hn8⟩, hrw8, hcl8⟩ := hl5.reads
          have p0 := hp5.c0
          have p1 := hp5.c1
          have r0 := HP5.out.c0
          have r1 := HP5.out.c1
          have r2 := HP5.out.f 0
          have r3 := HP5.out.f 1
          have HL5 := Lib.hid hl5
          have HLC := Lib.hid hlc
          clear hb5 hg5 hp5 hl5 hi8 hd8 hn8 hrw8 hcl8 hlc n0 n1
          go_wp2_with fail
          have T1 := (HP5.out.set0 (.slice (some ⟨g, 0, none⟩) (lv j [t]).length c)).set1 (.slice A8 (dat j [t]).length c8)
          have q0 := T1.c0
          have q1 := T1.c1
          have hs1 := (gr_set w5 w.heap.size 0 (.slice (some ⟨g, 0, none⟩) (lv j [t]).length c)).trans (gr_set (w5.setCell ⟨w.heap.size, 0, none⟩ (.slice (some ⟨g, 0, none⟩) (lv j [t]).length c)) w.heap.size 1 (.slice A8 (dat j [t]).length c8))
          refine bodyPost_ret (v := .tuple #[.agg #[.slice (some ⟨g, 0, none⟩) (lv j [t]).length c, .slice A8 (dat j [t]).length c8], .bool true]) (by simp [results, Try.results16, go_sem, q0, q1]) rfl ?_
          clear q0 q1 r0 r1 r2 r3 p0 p1 T1
          obtain ⟨⟨A9, c9, hv9, hi9, hd9, hn9⟩, hrw9, hcl9⟩ := (HL5.out.other HP5.out (by decide) (by decide) hs1).reads
          cases hv9
          exact .inr ⟨HV.out, t, _, rfl, rfl, gr_ownF HG5.out hs1 (fun k hk => by cases hk; exact Nat.le_refl _), _, _, _, _, rfl, HLC.out, hd9, hrw9, hi9, hn9, hcl9⟩
  · have h' : n < 0 ∨ 3 < n ∨ 400 < s.size := by omega
    have hv : isArr s n = false := by unfold isArr; rw [decide_eq_false h]; rfl
    have HC := Lib.hid (fun u => sread_out n s u h')
    have HV := Lib.hid hv
    clear h h' hv
    go_enter Try.func16, Try.ntmps16
    go_wp2_with fail
    refine (HC.out _).mono ?_
    rintro e w1 ⟨rfl, hg⟩
    have HG := Lib.hid ((World.grownBy_alloc w (.cells #[.slice none 0 0, .slice none 0 0] 30) none).trans hg)
    have HP := Lib.hid ((Pr.new w 30 (.slice none 0 0) (.slice none 0 0)).grown hg (by simp))
    have HQ := Lib.hid (HP.out.alloc (.cells #[.int .i64 0, .slice none 0 0] 52))
    have r0 := HQ.out.c0
    have r1 := HQ.out.c1
    have r2 := HQ.out.f 0
    have r3 := HQ.out.f 1
    clear hg
    go_wp2_with fail
    have T1 := (HQ.out.set0 (.slice none 0 0)).set1 (.slice none 0 0)
    have q0 := T1.c0
    have q1 := T1.c1
    refine bodyPost_ret (v := .tuple #[.agg #[.slice none 0 0, .slice none 0 0], .bool false]) (by simp [results, Try.results16, go_sem, q0, q1]) rfl ?_
    exact .inl ⟨HV.out, rfl, gr_ownF (HG.out.trans (World.grownBy_alloc _ _ _)) ((gr_set _ w.heap.size 0 (.slice none 0 0)).trans (gr_set _ w.heap.size 1 (.slice none 0 0))) (fun k hk => by cases hk; exact Nat.le_refl _)⟩

/-- How LayOut of the model ends. -/
def SLPost (s : ByteArray) (n : Int) (w : World) (e : Ending) (w' : World) : Prop :=
  w.grownBy w' none ∧ ((isArr s n = false ∧ ∃ u, e = .returned (.tuple #[u, .bool false]) ∧ Lyt w' u [] []) ∨
  (isArr s n = true ∧ ∃ t u, readN s n.toNat = some t ∧ e = .returned (.tuple #[u, .bool true]) ∧ Lyt w' u (lv n.toNat [t]) (dat n.toNat [t])))

set_option maxRecDepth 100000 in
set_option maxHeartbeats 1000000 in
theorem slayout_any (s : ByteArray) (n : Int) (w : World) : Calls Try.prog 12 #[.string s, .int .i64 n] w (SLPost s n w) := by
  have HC := Lib.hid (fun u => rawlay_any s n u)
  go_enter Try.func12, Try.ntmps12
  go_wp2_with fail
  refine (HC.out _).mono ?_
  rintro e w1 hp
  have key : ∃ LL D b u, e = .returned (.tuple #[u, .bool b]) ∧ LytC w1 u LL D ∧ (w.alloc (.cells #[.slice none 0 0, .slice none 0 0] 30)).grownBy w1 none ∧ LL.length ≤ 1048576 ∧ (∀ M ∈ LL, M.length ≤ 1048576) ∧ D.length ≤ 1048576 ∧
      ((isArr s n = false ∧ b = false ∧ LL = [] ∧ D = []) ∨ (isArr s n = true ∧ b = true ∧ ∃ t, readN s n.toNat = some t ∧ LL = lv n.toNat [t] ∧ D = dat n.toNat [t])) := by
    rcases hp with ⟨hv, rfl, hg⟩ | ⟨hv, t, u, ht, rfl, hg, hl⟩
    · exact ⟨[], [], false, _, rfl, LytC.zero _, hg, by simp, by simp, by simp, .inl ⟨hv, rfl, rfl, rfl⟩⟩
    · have h0 : 0 ≤ n ∧ n ≤ 3 ∧ s.size ≤ 400 := by
        have := hv
        unfold isArr at this
        simp only [Bool.and_eq_true, decide_eq_true_eq] at this
        exact this.1
      have h1 := readN_short ht h0.2.2
      have hx : txs n.toNat [t] = (text n.toNat t).length := by simp [txs]
      refine ⟨_, _, true, u, rfl, hl, hg, by rw [lv_len]; omega, fun M hM => ?_, ?_, .inr ⟨hv, rfl, t, ht, rfl, rfl⟩⟩
      · have := lv_txs _ [t] M hM; omega
      · have := dat_txs _ [t]; omega
  obtain ⟨LL, D, b, u, rfl, hl, hg, b1, b2, b3, hcase⟩ := key
  have HO := Lib.hid (fun w h => ownl_any u LL D w h (by omega) (fun M hM => by have := b2 M hM; omega) (by omega))
  have HCS := Lib.hid hcase
  have HG := Lib.hid ((World.grownBy_alloc w (.cells #[.slice none 0 0, .slice none 0 0] 30) none).trans hg)
  have HP := Lib.hid ((Pr.new w 30 (.slice none 0 0) (.slice none 0 0)).grown hg (by simp))
  have HL := Lib.hid hl
  obtain ⟨A, c, B, d, rfl, _⟩ := hl
  obtain ⟨na, hna⟩ : ∃ na, LL.length = na := ⟨_, rfl⟩
  obtain ⟨nd', hnd⟩ : ∃ nd', D.length = nd' := ⟨_, rfl⟩
  rw [hna, hnd] at HO HL ⊢
  clear hp hg hcase hna hnd b1 b2 b3 HC
  have HG1 := Lib.hid (HG.out.trans (World.grownBy_alloc w1 (.cells #[.slice A na c, .slice B nd' d] 30) none))
  have HP1 := Lib.hid (HP.out.alloc (.cells #[.slice A na c, .slice B nd' d] 30))
  have HL1 := Lib.hid (HL.out.grown (World.grownBy_alloc w1 (.cells #[.slice A na c, .slice B nd' d] 30) none))
  go_wp2_with fail
  generalize w1.alloc (.cells #[.slice A na c, .slice B nd' d] 30) = w2 at HG1 HP1 HL1 ⊢
  refine (HO.out _ HL1.out).mono ?_
  rintro e w3 ⟨u3, rfl, hg3, ho3⟩
  obtain ⟨A3, m3, c3, B3, k3, e3, hu3⟩ : ∃ A3 m3 c3 B3 k3 e3, u3 = .agg #[.slice A3 m3 c3, .slice B3 k3 e3] := by
    obtain ⟨A4, c4, B4, d4, hu, _⟩ := ho3.lyt
    exact ⟨_, _, _, _, _, _, hu⟩
  subst hu3
  have HG3 := Lib.hid (HG1.out.trans hg3)
  have HP3 := Lib.hid (HP1.out.grown hg3 (by simp))
  have HO3 := Lib.hid ho3
  have r0 := HP3.out.c0
  have r1 := HP3.out.c1
  have r2 := HP3.out.f 0
  have r3 := HP3.out.f 1
  clear hg3 ho3
  go_wp2_with fail
  have T1 := (HP3.out.set0 (.slice A3 m3 c3)).set1 (.slice B3 k3 e3)
  have q0 := T1.c0
  have q1 := T1.c1
  have hs1 := (gr_set w3 w.heap.size 0 (.slice A3 m3 c3)).trans (gr_set (w3.setCell ⟨w.heap.size, 0, none⟩ (.slice A3 m3 c3)) w.heap.size 1 (.slice B3 k3 e3))
  refine bodyPost_ret (v := .tuple #[.agg #[.slice A3 m3 c3, .slice B3 k3 e3], .bool b]) (by simp [results, Try.results12, go_sem, q0, q1]) rfl ?_
  clear q0 q1 r0 r1 r2 r3 T1
  have hly := (HO3.out.box HP3.out hs1).lyt
  refine ⟨gr_ownF HG3.out hs1 (fun k hk => by cases hk; exact Nat.le_refl _), ?_⟩
  rcases HCS.out with ⟨hv, rfl, rfl, rfl⟩ | ⟨hv, rfl, t, ht, rfl, rfl⟩
  · exact .inl ⟨hv, _, rfl, hly⟩
  · exact .inr ⟨hv, t, _, ht, rfl, hly⟩

end Go.Proofs.Ytachjodnhgmoiaa
