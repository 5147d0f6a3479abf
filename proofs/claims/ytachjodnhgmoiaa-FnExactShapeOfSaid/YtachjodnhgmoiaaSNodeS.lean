/- What the model's node does at a depth above 0, out of itself one depth below. -/
import Derived.Test.YtachjodnhgmoiaaSLoop
import Derived.Test.YtachjodnhgmoiaaParts0
import Derived.Deep.RegionLaw
import Derived.Deep.AppendLies
namespace Go.Proofs.Ytachjodnhgmoiaa
open Go.RowKit


theorem slf_start {s : ByteArray} {g p : Nat} {w w3 : World} (hb : Begun w w3) (hr : SRdr w3 g s p false) : SLf s g w w3 (.slice (some ⟨w.heap.size + 1, 0, none⟩) 0 0) [] p false :=
  ⟨hr, gr_some hb.gr (gr_refl _ _), by rw [hb.size]; omega, hb.res, hb.out, hb.own, by simp [Value.ownBlock], by simp [Value.ownBlock]⟩

theorem slf_own {s : ByteArray} {g q : Nat} {w wr we : World} {sv : Value} {xs : List (Int × Value)} {bad : Bool} (h : SLf s g w wr sv xs q bad) (hg : wr.grownBy we (some g)) (hgw : g < w.heap.size) (o : Obj) :
    (we.alloc o).ownsRow w.heap.size 52 2 sv xs.length (flat2 xs) :=
  (own_keep h.own (fun k hk => hg.block k (h.own.lt k hk).2 (fun e => by have := (h.own.lt k hk).1; simp at e; omega))).alloc o

/-- The variable's second cell behind the append. -/
theorem slf_cell {s : ByteArray} {g q : Nat} {w wr we w2 : World} {sv : Value} {xs : List (Int × Value)} {bad : Bool} {o : Obj} (h : SLf s g w wr sv xs q bad) (hg : wr.grownBy we (some g)) (hgw : g < w.heap.size) (hg2 : (we.alloc o).grownBy w2 sv.ownBlock) :
    Two w2 (w.heap.size + 1 + 1) (.int .i64 0) sv :=
  ((h.out.grown hg (by simp; omega)).alloc o).grown hg2 (fun e => h.ne2 e.symm)

set_option maxRecDepth 100000 in
set_option maxHeartbeats 4000000 in
theorem snode_main (g p d : Nat) (n : Int) (s : ByteArray) (w : World) (h : SRdr w g s p false) (hs : s.size ≤ 400) (hn1 : 1 ≤ n) (hn2 : n ≤ 1000)
    (hc : ba s p = 91) (hc2 : ba s (p + 1) ≠ 93)
    (ih : ∀ (p : Nat) (w : World), SRdr w g s p false → p ≤ s.size → Calls Try.prog 38 #[.pointer (some ⟨g, 0, none⟩), .int .i64 (n - 1)] w (SArrPost s d p g w)) :
    Calls Try.prog 38 #[.pointer (some ⟨g, 0, none⟩), .int .i64 n] w (SArrPost s (d + 1) p g w) := by
  obtain ⟨i0, hi0, hz0, hz1, hz2⟩ := info_parts infoN
  have HR := Lib.hid h
  have hgw := h.lt
  have HI := Lib.hid ih
  have HC := Lib.hid hc
  have HC2 := Lib.hid hc2
  have hp1 : p < s.size := ba_lt (by omega)
  have e0 : (n == 0) = false := by rw [beq_eq_false_iff_ne]; omega
  clear h ih hc hc2
  go_enter Try.func38, Try.ntmps38
  go_wp2_with fail
  clear e0
  refine (is_yes g p s 91 false _ (((HR.out.alloc _).alloc _).alloc _) (by omega) HC.out hs).mono ?_
  have HB := Lib.hid (begun w)
  have HR3 := Lib.hid (((HR.out.alloc (.cells #[.int .i64 0, .slice none 0 0] 52)).alloc (.cells #[] 52)).alloc (.cells #[.int .i64 0, .slice (some ⟨w.heap.size + 1, 0, none⟩) 0 0] 52))
  generalize ((w.alloc (.cells #[.int .i64 0, .slice none 0 0] 52)).alloc (.cells #[] 52)).alloc (.cells #[.int .i64 0, .slice (some ⟨w.heap.size + 1, 0, none⟩) 0 0] 52) = w3 at HB HR3
  rintro e w4 ⟨rfl, hr4, hg4⟩
  have HL4 := Lib.hid ((slf_start HB.out HR3.out).reader hg4 hr4 hgw)
  clear hr4 hg4
  go_wp2_with fail
  refine (is_no g (p + 1) s 93 false w4 HL4.out.rdr HC2.out).mono ?_
  rintro e w5 ⟨rfl, n5, rfl⟩
  go_wp2_with fail
  have o1 := HL4.out.out.c1
  have wn : IntKind.i64.wrap (n - 1) = n - 1 := IntWalk.i64_in _ (by omega)
  go_region_law (first
    | (refine step_append_lies _ (by rfl) _ _ _ (by rfl) w.heap.size 52 i0 _ 2 32 Try.underlying50 hi0 hz0 hz1 hz2 rfl (by omega) _ 0 [] (by rfl) own7 ⟨w7.heap.size, 0, none⟩ 1 1 [.int .i64 m, .slice A7 k7 c7] (by rfl) (by rfl) (World.news_of_block (cs := #[.int .i64 m, .slice A7 k7 c7]) (t := 52) (fr := (0, 0)) (heap_alloc_new w7 _)) (by simp [Value.oneCell']) (by omega) (by simp [maxLen]) (by omega) (by simp; omega) (w7.heap.size + 1) (by simp) ?_
       intro gg cap w8 hown8 hg8 hat8 hlt8
       have t8 := slf_cell (o := .cells #[.int .i64 m, .slice A7 k7 c7] 52) HL4.out HG7.out hgw hg8
       have o8 := t8.c1
       have f8 := t8.f 1
       have HO8 := Lib.hid hown8
       have HG8 := Lib.hid hg8
       have HA8 := Lib.hid hat8
       clear hown8 hg8 hat8 hlt8 t8)
    | (go_simp
       go_at_call 38
       refine (HI.out (p + 1) _ (HL4.out.rdr.drewN _) (by omega)).mono ?_
       rintro e w7 ⟨hg7, m, v7, rfl, ⟨A7, k7, c7, rfl⟩, hcase7⟩
       have HG7 := Lib.hid ((gr_drewN w4 _ _).trans hg7)
       have hb7 := HG7.out.size
       have hb4 := HL4.out.size
       have o7 := (HL4.out.out.grown HG7.out (by simp; omega)).c1
       have o7b := ((HL4.out.out.grown HG7.out (by simp; omega)).alloc (.cells #[.int .i64 m, .slice A7 k7 c7] 52)).c1
       have own7 := slf_own HL4.out HG7.out hgw (.cells #[.int .i64 m, .slice A7 k7 c7] 52)
       have HC7 := Lib.hid hcase7
       clear hg7 hcase7))
  all_goals
    have hstep := sloop_step (p := p) (ts := []) HL4.out trivial (by simp) (fun t q2 hn => ⟨s.size + 1, by omega, parts_s HC.out HC2.out hn⟩) (fun hn => parts_n2 HC.out HC2.out hn) HG7.out HC7.out HO8.out HG8.out HA8.out hgw
    obtain ⟨q2, b2, hS, _⟩ := hstep
    have HS := Lib.hid hS
    clear hS HO8 HG8 HA8 o1 o7 o7b o8 f8 own7 HC7 HG7 hb7 hb4
    go_wp2_with fail
    go_loopw [33] (fun _ wr => ∃ sv xs q bad, Hid (SLoop s d p g w wr sv xs q bad)) (fun _ wr => mS s.size wr g)
    case atStart => exact ⟨_, _, _, _, HS⟩
    case round =>
      clear HS HL4
      obtain ⟨sv, xs, q, bad, hL⟩ := hrel
      obtain ⟨A, k, c, rfl⟩ := own_form hL.out.1.own
      cases bad
      · have hg : ∃ ts f, SLg s d p g w wr (.slice A k c) ts xs f q := by
          rcases hL.out.2 with ⟨_, h⟩ | ⟨h, _⟩
          · exact h
          · cases h
        obtain ⟨ts, f, hg'⟩ := hg
        have HGD := Lib.hid hg'
        clear hg' hL
        have hq := HGD.out.le
        have hlen := HGD.out.len
        have c2 := HGD.out.lf.rdr.c2
        by_cases h44 : ba s q = 44
        · have H44 := Lib.hid h44
          have hq1 : q < s.size := ba_lt (by omega)
          clear h44
          go_wp2_with fail
          refine (is_yes g q s 44 false wr HGD.out.lf.rdr (by omega) H44.out hs).mono ?_
          rintro e w6 ⟨rfl, hr6, hg6⟩
          have HL6 := Lib.hid (HGD.out.lf.reader hg6 hr6 hgw)
          have HG6 := Lib.hid hg6
          clear hr6 hg6 c2
          go_wp2_with fail
          have v1 := HL6.out.out.c1
          go_region_law (first
            | (refine step_append_lies _ (by rfl) _ _ _ (by rfl) w.heap.size 52 i0 _ 2 32 Try.underlying50 hi0 hz0 hz1 hz2 rfl (by omega) _ xs.length (flat2 xs) (by rfl) own8 ⟨w9.heap.size, 0, none⟩ 1 1 [.int .i64 m9, .slice A9 k9 c9] (by rfl) (by rfl) (World.news_of_block (cs := #[.int .i64 m9, .slice A9 k9 c9]) (t := 52) (fr := (0, 0)) (heap_alloc_new w9 _)) (by simp [Value.oneCell']) (by omega) (by simp [maxLen]; omega) (by omega) (by simp; omega) (w9.heap.size + 1) (by simp) ?_
               intro gx cax w10 hown10 hg10 hat10 hlt10
               have t10 := slf_cell (o := .cells #[.int .i64 m9, .slice A9 k9 c9] 52) HL6.out HG9.out hgw hg10
               have o10 := t10.c1
               have f10 := t10.f 1
               have HO10 := Lib.hid hown10
               have HG10 := Lib.hid hg10
               have HA10 := Lib.hid hat10
               clear hown10 hg10 hat10 hlt10 t10)
            | (go_simp
               go_at_call 38
               refine (HI.out (q + 1) _ (HL6.out.rdr.drewN _) (by omega)).mono ?_
               rintro e w9 ⟨hg9, m9, v9, rfl, ⟨A9, k9, c9, rfl⟩, hcase9⟩
               have HG9 := Lib.hid ((gr_drewN w6 _ _).trans hg9)
               have hb9 := HG9.out.size
               have hb6 := HL6.out.size
               have o9 := (HL6.out.out.grown HG9.out (by simp; omega)).c1
               have o9b := ((HL6.out.out.grown HG9.out (by simp; omega)).alloc (.cells #[.int .i64 m9, .slice A9 k9 c9] 52)).c1
               have own8 := slf_own HL6.out HG9.out hgw (.cells #[.int .i64 m9, .slice A9 k9 c9] 52)
               have HC9 := Lib.hid hcase9
               clear hg9 hcase9))
          all_goals
            have hgo := HGD.out.goes H44.out
            have hall := All2.mono (SNd.keep (w := wr) (w' := w6) (fun b hb hb2 => HG6.out.block b hb2 (by simp; omega)) (fun b hb _ => hb) d) ts xs HGD.out.all
            obtain ⟨q3, b3, hS3, hq3⟩ := sloop_step (p := p) HL6.out hall (pe := q + 1) (by omega) hgo.1 hgo.2 HG9.out HC9.out HO10.out HG10.out HA10.out hgw
            have HS3 := Lib.hid hS3
            have HQ3 := Lib.hid hq3
            clear hS3 hq3 hgo hall HO10 HG10 HA10 v1 o9 o9b o10 f10 own8 HC9
            go_wp2_with fail
            go_roundw
            case rel => exact ⟨_, _, _, _, HS3⟩
            case measure =>
              rw [mS_good HGD.out.lf.rdr]
              cases b3
              · rw [mS_good HS3.out.1.rdr]
                have := HQ3.out rfl
                omega
              · rw [mS_bad HS3.out.1.rdr]
                omega
        · have H44 := Lib.hid h44
          clear h44
          go_wp2_with fail
          refine (is_no g q s 44 false wr HGD.out.lf.rdr H44.out).mono ?_
          rintro e w6 ⟨rfl, n6, rfl⟩
          have hne : ¬ g = w.heap.size := by omega
          have hne2 : ¬ g = w.heap.size + 1 + 1 := by omega
          go_wp2_with fail
          clear c2
          by_cases h93 : ba s q = 93
          · have H93 := Lib.hid h93
            clear h93
            refine (is_yes g q s 93 false _ (HGD.out.lf.rdr.drewN n6) (by omega) H93.out hs).mono ?_
            rintro e w7' ⟨rfl, hr7, hg7⟩
            have hl7 := (HGD.out.lf.drewN n6).reader hg7 hr7 hgw
            have c2 := hr7.c2
            have cf := hr7.f 2
            have r0 := hl7.res.c0
            have r1 := hl7.res.c1
            have u0 := hl7.out.c0
            have u1 := hl7.out.c1
            have f0 := hl7.res.f 0
            have f1 := hl7.res.f 1
            have HR7 := Lib.hid hr7
            have HG7b := Lib.hid hg7
            clear hr7 hg7 hl7
            go_wp2_with fail
            refine bodyPost_ret (v := .agg #[.int .i64 0, .slice A k c]) (by simp [results, Try.results38, go_sem, r0, r1]) rfl ?_
            exact HGD.out.end_good H93.out (((gr_drewN wr n6 _).trans HG7b.out).trans (gr_set w7' g 2 (.bool false))) (HR7.out.set2 false) hgw
          · have H93 := Lib.hid h93
            clear h93
            refine (is_no g q s 93 false _ (HGD.out.lf.rdr.drewN n6) H93.out).mono ?_
            rintro e w7' ⟨rfl, n7, rfl⟩
            have c2 := HGD.out.lf.rdr.c2
            have cf := HGD.out.lf.rdr.f 2
            have r0 := HGD.out.lf.res.c0
            have r1 := HGD.out.lf.res.c1
            have u0 := HGD.out.lf.out.c0
            have u1 := HGD.out.lf.out.c1
            have f0 := HGD.out.lf.res.f 0
            have f1 := HGD.out.lf.res.f 1
            go_wp2_with fail
            refine bodyPost_ret (v := .agg #[.int .i64 0, .slice A k c]) (by simp [results, Try.results38, go_sem, r0, r1]) rfl ?_
            exact HGD.out.lf.end_bad (HGD.out.stop H93.out H44.out) ((gr_drewN wr _ _).trans (gr_set _ g 2 (.bool true))) ((HGD.out.lf.rdr.drewN _).set2 true) hgw
      · have hn : parts s (node s d) p = none := by
          rcases hL.out.2 with ⟨h, _⟩ | ⟨_, h⟩
          · cases h
          · exact h
        have HN := Lib.hid hn
        clear hn
        have c2 := hL.out.1.rdr.c2
        have cf := hL.out.1.rdr.f 2
        have r0 := hL.out.1.res.c0
        have r1 := hL.out.1.res.c1
        have u0 := hL.out.1.out.c0
        have u1 := hL.out.1.out.c1
        have f0 := hL.out.1.res.f 0
        have f1 := hL.out.1.res.f 1
        have hne : ¬ g = w.heap.size := by omega
        have hne2 : ¬ g = w.heap.size + 1 + 1 := by omega
        go_wp2_with fail
        refine bodyPost_ret (v := .agg #[.int .i64 0, .slice A k c]) (by simp [results, Try.results38, go_sem, r0, r1]) rfl ?_
        exact hL.out.1.end_bad HN.out (gr_set wr g 2 (.bool true)) (hL.out.1.rdr.set2 true) hgw

end Go.Proofs.Ytachjodnhgmoiaa
