/- What readParts of the program does at nodes: the parts that stand at the place, or a panic. -/
import Derived.Test.YtachjodnhgmoiaaParts0
namespace Go.Proofs.Ytachjodnhgmoiaa
open Go.RowKit

theorem Nd.iface {w : World} {S : Nat → Prop} {d : Nat} {t : T (d + 1)} {v : Value} (h : Nd w S (d + 1) t v) : ∃ ty pv, v = .iface ty pv := by
  obtain ⟨b, sv, xs, hv, _⟩ := h
  exact ⟨_, _, hv⟩

theorem info1 : (Try.prog.info? 38).map (fun i => (i.zero, i.size, i.bytes)) = some (some .nilIface, 1, 16) := by kernel_rfl

set_option maxHeartbeats 400000 in
theorem parts1_n1 (g p bx bn d : Nat) (s : ByteArray) (w : World) (h : Rdr w g s p) (hc : ba s p ≠ 91) :
    Calls Try.prog 41 #[.pointer (some ⟨g, 0, none⟩), .func (.func 42) #[] #[.pointer (some ⟨bx, 0, none⟩), .pointer (some ⟨bn, 0, none⟩)]] w (PartsPost s (d + 1) p g w) := by
  have H := Lib.hid (take_no g p s 91 w h hc)
  have HN := Lib.hid (parts_n1 (d := d + 1) hc)
  clear hc h
  go_enter Try.func41, Try.ntmps41
  go_wp2_with fail
  refine H.out.mono ?_
  rintro e w1 ⟨⟨b, rfl⟩, hg1⟩
  exact ⟨rfl, parts_fell HN.out hg1 ⟨_, rfl⟩⟩

set_option maxHeartbeats 400000 in
theorem parts1_e (g p bx bn d : Nat) (s : ByteArray) (w : World) (h : Rdr w g s p) (hc : ba s p = 91) (hc2 : ba s (p + 1) = 93) (hs : s.size ≤ 400) :
    Calls Try.prog 41 #[.pointer (some ⟨g, 0, none⟩), .func (.func 42) #[] #[.pointer (some ⟨bx, 0, none⟩), .pointer (some ⟨bn, 0, none⟩)]] w (PartsPost s (d + 1) p g w) := by
  have H := Lib.hid (take_yes g p s 91 w h (by omega) hc hs)
  have HN := Lib.hid (parts_e (d := d + 1) hc hc2)
  have HC := Lib.hid hc2
  clear hc hc2 h
  go_enter Try.func41, Try.ntmps41
  go_wp2_with fail
  refine H.out.mono ?_
  rintro e w1 ⟨rfl, hr1, hg1⟩
  have HR1 := Lib.hid hr1
  have HG1 := Lib.hid hg1
  clear hr1 hg1
  go_wp2_with fail
  refine (sees_yes g (p + 1) s 93 w1 HR1.out (by omega) HC.out).mono ?_
  rintro e w2 ⟨rfl, n, rfl⟩
  go_wp2_with fail
  refine wp_loop_rounds 1 ?_
  rw [rounds_succ]
  go_wp2_with fail
  refine (sees_yes g (p + 1) s 93 _ (HR1.out.drewN n) (by omega) HC.out).mono ?_
  rintro e w3 ⟨rfl, n2, rfl⟩
  go_wp2_with fail
  refine (take_yes g (p + 1) s 93 _ (HR1.out.drewN _) (by omega) HC.out hs).mono ?_
  rintro e w4 ⟨rfl, hr4, hg4⟩
  have HR4 := Lib.hid hr4
  have HG4 := Lib.hid hg4
  clear hr4 hg4
  go_wp2_with fail
  go_ret
  refine parts_ok HN.out (HG1.out.trans ((gr_drewN w1 _ _).trans HG4.out)) rfl HR4.out (World.ownsRow_nil _ _ _ _) trivial

set_option maxHeartbeats 400000 in
theorem parts1_n2 (g p bx bn d : Nat) (s : ByteArray) (w : World) (h : Rdr w g s p) (hc : ba s p = 91) (hc2 : ba s (p + 1) ≠ 93) (h3 : node s (d + 1) (p + 1) = none) (hs : s.size ≤ 400) (hel : ∀ (p : Nat) (w' : World), w.grownBy w' (some g) → Rdr w' g s p → Calls Try.prog 42 #[.pointer (some ⟨bx, 0, none⟩), .pointer (some ⟨bn, 0, none⟩)] w' (ElPost s (d + 1) p g w')) :
    Calls Try.prog 41 #[.pointer (some ⟨g, 0, none⟩), .func (.func 42) #[] #[.pointer (some ⟨bx, 0, none⟩), .pointer (some ⟨bn, 0, none⟩)]] w (PartsPost s (d + 1) p g w) := by
  have H := Lib.hid (take_yes g p s 91 w h (by omega) hc hs)
  have HN := Lib.hid (parts_n2 (d := d + 1) hc hc2 h3)
  have HC := Lib.hid hc2
  have H3 := Lib.hid h3
  have HE := Lib.hid hel
  clear hc hc2 h h3 hel
  go_enter Try.func41, Try.ntmps41
  go_wp2_with fail
  refine H.out.mono ?_
  rintro e w1 ⟨rfl, hr1, hg1⟩
  have HR1 := Lib.hid hr1
  have HG1 := Lib.hid hg1
  clear hr1 hg1
  go_wp2_with fail
  refine (sees_no g (p + 1) s 93 w1 HR1.out HC.out).mono ?_
  rintro e w2 ⟨rfl, n, rfl⟩
  go_wp2_with fail
  refine (HE.out (p + 1) _ (HG1.out.trans (gr_drewN w1 n _)) (HR1.out.drewN n)).mono ?_
  intro e w3 hp
  obtain ⟨hg3, ⟨t, q, v, hn, he, hr, hnd⟩ | ⟨hn, b, rfl⟩⟩ := hp
  · rw [H3.out] at hn; cases hn
  · have HG3 := Lib.hid hg3
    clear hg3
    exact ⟨rfl, parts_fell HN.out (HG1.out.trans ((gr_drewN w1 _ _).trans HG3.out)) ⟨_, rfl⟩⟩

set_option maxHeartbeats 1000000 in
theorem parts1_s (g p bx bn d : Nat) (s : ByteArray) (w : World) (h : Rdr w g s p) (hc : ba s p = 91) (hc2 : ba s (p + 1) ≠ 93) (t : T (d + 1)) (q : Nat) (h3 : node s (d + 1) (p + 1) = some (t, q)) (hs : s.size ≤ 400) (hel : ∀ (p : Nat) (w' : World), w.grownBy w' (some g) → Rdr w' g s p → Calls Try.prog 42 #[.pointer (some ⟨bx, 0, none⟩), .pointer (some ⟨bn, 0, none⟩)] w' (ElPost s (d + 1) p g w')) :
    Calls Try.prog 41 #[.pointer (some ⟨g, 0, none⟩), .func (.func 42) #[] #[.pointer (some ⟨bx, 0, none⟩), .pointer (some ⟨bn, 0, none⟩)]] w (PartsPost s (d + 1) p g w) := by
  have H := Lib.hid (take_yes g p s 91 w h (by omega) hc hs)
  have HN := Lib.hid (parts_s (d := d + 1) hc hc2 h3)
  have HC := Lib.hid hc2
  have H3 := Lib.hid h3
  have hgw := h.lt
  have hq := node_ge s (d + 1) _ _ _ h3
  have HE := Lib.hid hel
  clear hc hc2 h h3 hel
  obtain ⟨i0, hi0, hz0, hz1, hz2⟩ := info_parts info1
  go_enter Try.func41, Try.ntmps41
  go_wp2_with fail
  refine H.out.mono ?_
  rintro e w1 ⟨rfl, hr1, hg1⟩
  have HR1 := Lib.hid hr1
  have HG1 := Lib.hid hg1
  clear hr1 hg1
  go_wp2_with fail
  refine (sees_no g (p + 1) s 93 w1 HR1.out HC.out).mono ?_
  rintro e w2 ⟨rfl, n, rfl⟩
  go_wp2_with fail
  refine (HE.out (p + 1) _ (HG1.out.trans (gr_drewN w1 n _)) (HR1.out.drewN n)).mono ?_
  intro e w3 hp
  obtain ⟨hg3, ⟨t', q', v, hn, rfl, hr3, hnd⟩ | ⟨hn, b, rfl⟩⟩ := hp
  · obtain ⟨rfl, rfl⟩ : t = t' ∧ q = q' := by rw [H3.out] at hn; simpa using hn
    have HG3 := Lib.hid hg3
    have HR3 := Lib.hid hr3
    have HND := Lib.hid hnd
    obtain ⟨ty, pv, rfl⟩ : ∃ ty pv, v = .iface ty pv := hnd.iface
    clear hg3 hr3 hnd hn
    have own0 := World.ownsRow_nil (w3.alloc (.cells #[.iface ty pv] 38)) w.heap.size 38 1
    have hb3 : w.heap.size ≤ w3.heap.size := Nat.le_trans HG1.out.size (Nat.le_trans (gr_drewN w1 n (some g)).size HG3.out.size)
    go_wp2_with (at_builtin; refine wpList_append_own_at _ rfl _ _ 74 rfl w.heap.size 38 i0 .nilIface 1 16 Try.underlying74 hi0 hz0 hz1 hz2 rfl (by decide) _ _ _ rfl own0 ⟨w3.heap.size, 0, none⟩ 1 1 [.iface ty pv] rfl rfl ?c1 ?c2 ?c3 ?c4 ?c5 ?_)
    case c1 => exact cell_one_new _ _ _
    case c2 => simp [Value.oneCell']
    case c3 => simp [maxLen]
    case c4 => omega
    case c5 => simp; omega
    intro sv w4 hown4 hg4 hnil4 hat4
    have hl4 : Lf s (d + 1) g w w4 sv ([] ++ [t]) ([] ++ [.iface ty pv]) q :=
      (Lf.start (d := d + 1) (HR1.out.drewN n) (HG1.out.trans (gr_drewN w1 n _)) (by omega)).step hq.1 hq.2 HG3.out HR3.out HND.out hown4 hg4 hat4 hgw
    have HL := Lib.hid (show Lp s (d + 1) p g w w4 sv ([] ++ [t]) ([] ++ [.iface ty pv]) (s.size + 1) q from ⟨by omega, HN.out, hl4⟩)
    clear hl4 hown4 hg4 hnil4 hat4 own0 hb3
    go_wp2_with fail
    go_loopw [5] (fun u wr => ∃ ts xs f q', Hid (Lp s (d + 1) p g w wr u ts xs f q')) (fun _ wr => s.size + 1 - plc wr g)
    case atStart => exact ⟨_, _, _, _, HL⟩
    case round =>
      obtain ⟨ts, xs, f, q', hL⟩ := hrel
      have hle := hL.out.lf.le
      by_cases h93 : ba s q' = 93
      · have H93 := Lib.hid h93
        clear h93
        go_wp2_with fail
        refine (sees_yes g q' s 93 wr hL.out.lf.rdr (by omega) H93.out).mono ?_
        rintro e w5 ⟨rfl, n5, rfl⟩
        go_wp2_with fail
        refine (take_yes g q' s 93 _ (hL.out.lf.rdr.drewN n5) (by omega) H93.out hs).mono ?_
        rintro e w6 ⟨rfl, hr6, hg6⟩
        have HL6 := Lib.hid ((hL.out.lf.drewN n5).reader hg6 hr6 (by omega) (by have := ba_lt (s := s) (p := q') (by rw [H93.out]; omega); omega) hgw)
        clear hr6 hg6
        go_wp2_with fail
        go_ret
        exact parts_ok (hL.out.exit H93.out) HL6.out.gr rfl HL6.out.rdr HL6.out.done.1 HL6.out.done.2
      · have H93 := Lib.hid h93
        clear h93
        go_wp2_with fail
        refine (sees_no g q' s 93 wr hL.out.lf.rdr H93.out).mono ?_
        rintro e w5 ⟨rfl, n5, rfl⟩
        go_wp2_with fail
        by_cases h44 : ba s q' = 44
        · have H44 := Lib.hid h44
          clear h44
          have hq1 : q' < s.size := ba_lt (by rw [H44.out]; omega)
          refine (take_yes g q' s 44 _ (hL.out.lf.rdr.drewN n5) (by omega) H44.out hs).mono ?_
          rintro e w6 ⟨rfl, hr6, hg6⟩
          have HL6 := Lib.hid ((hL.out.lf.drewN n5).reader hg6 hr6 (by omega) (by omega) hgw)
          have HG6 := Lib.hid ((gr_drewN wr n5 _).trans hg6)
          clear hr6 hg6
          go_wp2_with fail
          refine (HE.out (q' + 1) w6 HL6.out.gr HL6.out.rdr).mono ?_
          intro e w7 hp
          obtain ⟨hg7, ⟨t7, q7, v, hn, rfl, hr7, hnd⟩ | ⟨hn, b, rfl⟩⟩ := hp
          · have HG7 := Lib.hid hg7
            have HR7 := Lib.hid hr7
            have HND7 := Lib.hid hnd
            have HN7 := Lib.hid (hL.out.next H93.out H44.out hn)
            obtain ⟨ty7, pv7, rfl⟩ : ∃ ty pv, v = .iface ty pv := hnd.iface
            have hlx := HL6.out.len
            have hb6 := HL6.out.gr.size
            have hb7 := hg7.size
            have own7 := (own_keep HL6.out.own (fun k hk => hg7.block k (HL6.out.own.lt k hk).2 (fun e => by have := (HL6.out.own.lt k hk).1; simp at e; omega))).alloc (.cells #[.iface ty7 pv7] 38)
            clear hg7 hr7 hnd hn
            go_wp2_with (at_builtin; refine wpList_append_own_at _ rfl _ _ 74 rfl w.heap.size 38 i0 .nilIface 1 16 Try.underlying74 hi0 hz0 hz1 hz2 rfl (by decide) _ _ _ rfl own7 ⟨w7.heap.size, 0, none⟩ 1 1 [.iface ty7 pv7] rfl rfl ?c1 ?c2 ?c3 ?c4 ?c5 ?_)
            case c1 => exact cell_one_new _ _ _
            case c2 => simp [Value.oneCell']
            case c3 => simp [maxLen]; omega
            case c4 => omega
            case c5 => simp; omega
            intro sv8 w8 hown8 hg8 hnil8 hat8
            obtain ⟨f8, hf8, hle8, hlt8, hcom8⟩ := HN7.out
            have HL8 := Lib.hid (show Lp s (d + 1) p g w w8 sv8 (ts ++ [t7]) (xs ++ [.iface ty7 pv7]) f8 q7 from ⟨hf8, hcom8, HL6.out.step (by omega) hle8 HG7.out HR7.out HND7.out hown8 hg8 hat8 hgw⟩)
            clear hown8 hg8 hnil8 hat8 own7 hcom8 hf8
            go_wp2_with fail
            go_roundw
            case rel => exact ⟨_, _, _, _, HL8⟩
            case measure =>
              rw [plc_eq hL.out.lf.rdr, plc_eq HL8.out.lf.rdr]
              omega
          · have HG7 := Lib.hid hg7
            have HN7 := Lib.hid hn
            clear hg7 hn
            exact ⟨rfl, parts_fell (hL.out.stop2 H93.out H44.out HN7.out) (HL6.out.gr.trans HG7.out) ⟨_, rfl⟩⟩
        · have H44 := Lib.hid h44
          clear h44
          refine (take_no g q' s 44 _ (hL.out.lf.rdr.drewN n5) H44.out).mono ?_
          rintro e w6 ⟨⟨b, rfl⟩, hg6⟩
          exact ⟨rfl, parts_fell (hL.out.stop1 H93.out H44.out) ((hL.out.lf.gr.trans (gr_drewN wr n5 _)).trans hg6) ⟨_, rfl⟩⟩
  · rw [H3.out] at hn; cases hn

end Go.Proofs.Ytachjodnhgmoiaa
