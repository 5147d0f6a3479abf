/- What readParts of the program does at numbers: the parts that stand at the place, or a panic. -/
import Derived.Test.YtachjodnhgmoiaaLoop
namespace Go.Proofs.Ytachjodnhgmoiaa
open Go.RowKit

theorem el0 {s : ByteArray} {p g : Nat} {w w' : World} {e : Ending} (h : NumPost s p g w e w') : ElPost s 0 p g w e w' := by
  obtain ⟨hg, ⟨v, q, hn, he, hr⟩ | ⟨hn, he⟩⟩ := h
  · exact ⟨hg, .inl ⟨v, q, _, hn, he, hr, rfl⟩⟩
  · exact ⟨hg, .inr ⟨hn, he⟩⟩

theorem parts_fell {s : ByteArray} {d p g : Nat} {w w' : World} {e : Ending} (hn : parts s (node s d) p = none) (hg : w.grownBy w' (some g)) (he : Fell e) : PartsPost s d p g w e w' := ⟨hg, .inr ⟨hn, he⟩⟩
theorem parts_ok {s : ByteArray} {d p g q : Nat} {w w' : World} {e : Ending} {ts : List (T d)} {xs : List Value} {sv : Value} (hn : parts s (node s d) p = some (ts, q)) (hg : w.grownBy w' (some g)) (he : e = .returned sv) (hr : Rdr w' g s q)
    (ho : w'.ownsRow w.heap.size (elT d) 1 sv xs.length xs) (ha : All2 (Nd w' (fun b => w.heap.size ≤ b) d) ts xs) : PartsPost s d p g w e w' := ⟨hg, .inl ⟨ts, q, sv, xs, hn, he, hr, ho, ha⟩⟩
theorem parts_n1 {s : ByteArray} {d p : Nat} (h : ba s p ≠ 91) : parts s (node s d) p = none := by rw [parts, if_neg h]
theorem parts_e {s : ByteArray} {d p : Nat} (h : ba s p = 91) (h2 : ba s (p + 1) = 93) : parts s (node s d) p = some ([], p + 2) := by rw [parts, if_pos h, if_pos h2]
theorem parts_n2 {s : ByteArray} {d p : Nat} (h : ba s p = 91) (h2 : ba s (p + 1) ≠ 93) (h3 : node s d (p + 1) = none) : parts s (node s d) p = none := by rw [parts, if_pos h, if_neg h2, h3]
theorem parts_s {s : ByteArray} {d p q : Nat} {t : T d} (h : ba s p = 91) (h2 : ba s (p + 1) ≠ 93) (h3 : node s d (p + 1) = some (t, q)) : parts s (node s d) p = cons' ([] ++ [t]) (more s (node s d) (s.size + 1) q) := by
  rw [parts, if_pos h, if_neg h2, h3]
  simp only
  cases more s (node s d) (s.size + 1) q with
  | none => rfl
  | some r => simp [cons']

theorem info0 : (Try.prog.info? 65).map (fun i => (i.zero, i.size, i.bytes)) = some (some (.int .i64 0), 1, 8) := by kernel_rfl

set_option maxHeartbeats 400000 in
theorem parts0_n1 (g p : Nat) (s : ByteArray) (w : World) (h : Rdr w g s p) (hc : ba s p ≠ 91) :
    Calls Try.prog 40 #[.pointer (some ⟨g, 0, none⟩), .func (.func 39) #[.pointer (some ⟨g, 0, none⟩)] #[]] w (PartsPost s 0 p g w) := by
  have H := Lib.hid (take_no g p s 91 w h hc)
  have HN := Lib.hid (parts_n1 (d := 0) hc)
  clear hc h
  go_enter Try.func40, Try.ntmps40
  go_wp2_with fail
  refine H.out.mono ?_
  rintro e w1 ⟨⟨b, rfl⟩, hg1⟩
  exact ⟨rfl, parts_fell HN.out hg1 ⟨_, rfl⟩⟩

set_option maxHeartbeats 400000 in
theorem parts0_e (g p : Nat) (s : ByteArray) (w : World) (h : Rdr w g s p) (hc : ba s p = 91) (hc2 : ba s (p + 1) = 93) (hs : s.size ≤ 400) :
    Calls Try.prog 40 #[.pointer (some ⟨g, 0, none⟩), .func (.func 39) #[.pointer (some ⟨g, 0, none⟩)] #[]] w (PartsPost s 0 p g w) := by
  have H := Lib.hid (take_yes g p s 91 w h (by omega) hc hs)
  have HN := Lib.hid (parts_e (d := 0) hc hc2)
  have HC := Lib.hid hc2
  clear hc hc2 h
  go_enter Try.func40, Try.ntmps40
  go_wp2_with fail
  refine H.out.mono ?_
  rintro e w1 ⟨rfl, hr1, hg1⟩
  have HR1 := Lib.hid hr1
  have HG1 := Lib.hid hg1
  clear hr1 hg1
  go_wp2_with fail
  refine (sees_yes g (p + 1) s 93 w1 HR1.out (by omega) HC.out).mono ?_
  rintro e w2 ⟨rfl, n, rfl⟩
  go_wp2_with fail
  refine wp_loop_rounds 1 ?_
  rw [rounds_succ]
  go_wp2_with fail
  refine (sees_yes g (p + 1) s 93 _ (HR1.out.drewN n) (by omega) HC.out).mono ?_
  rintro e w3 ⟨rfl, n2, rfl⟩
  go_wp2_with fail
  refine (take_yes g (p + 1) s 93 _ (HR1.out.drewN _) (by omega) HC.out hs).mono ?_
  rintro e w4 ⟨rfl, hr4, hg4⟩
  have HR4 := Lib.hid hr4
  have HG4 := Lib.hid hg4
  clear hr4 hg4
  go_wp2_with fail
  go_ret
  refine parts_ok HN.out (HG1.out.trans ((gr_drewN w1 _ _).trans HG4.out)) rfl HR4.out (World.ownsRow_nil _ _ _ _) trivial

set_option maxHeartbeats 400000 in
theorem parts0_n2 (g p : Nat) (s : ByteArray) (w : World) (h : Rdr w g s p) (hc : ba s p = 91) (hc2 : ba s (p + 1) ≠ 93) (h3 : node s 0 (p + 1) = none) (hs : s.size ≤ 400) :
    Calls Try.prog 40 #[.pointer (some ⟨g, 0, none⟩), .func (.func 39) #[.pointer (some ⟨g, 0, none⟩)] #[]] w (PartsPost s 0 p g w) := by
  have H := Lib.hid (take_yes g p s 91 w h (by omega) hc hs)
  have HN := Lib.hid (parts_n2 (d := 0) hc hc2 h3)
  have HC := Lib.hid hc2
  have H3 := Lib.hid h3
  clear hc hc2 h h3
  go_enter Try.func40, Try.ntmps40
  go_wp2_with fail
  refine H.out.mono ?_
  rintro e w1 ⟨rfl, hr1, hg1⟩
  have HR1 := Lib.hid hr1
  have HG1 := Lib.hid hg1
  clear hr1 hg1
  go_wp2_with fail
  refine (sees_no g (p + 1) s 93 w1 HR1.out HC.out).mono ?_
  rintro e w2 ⟨rfl, n, rfl⟩
  go_wp2_with fail
  refine (number_any g (p + 1) s _ (HR1.out.drewN n) hs).mono ?_
  intro e w3 hp
  obtain ⟨hg3, ⟨t, q, v, hn, he, hr, hnd⟩ | ⟨hn, b, rfl⟩⟩ := el0 hp
  · rw [H3.out] at hn; cases hn
  · have HG3 := Lib.hid hg3
    clear hg3 hp
    exact ⟨rfl, parts_fell HN.out (HG1.out.trans ((gr_drewN w1 _ _).trans HG3.out)) ⟨_, rfl⟩⟩

set_option maxHeartbeats 1000000 in
theorem parts0_s (g p : Nat) (s : ByteArray) (w : World) (h : Rdr w g s p) (hc : ba s p = 91) (hc2 : ba s (p + 1) ≠ 93) (t : T 0) (q : Nat) (h3 : node s 0 (p + 1) = some (t, q)) (hs : s.size ≤ 400) :
    Calls Try.prog 40 #[.pointer (some ⟨g, 0, none⟩), .func (.func 39) #[.pointer (some ⟨g, 0, none⟩)] #[]] w (PartsPost s 0 p g w) := by
  have H := Lib.hid (take_yes g p s 91 w h (by omega) hc hs)
  have HN := Lib.hid (parts_s (d := 0) hc hc2 h3)
  have HC := Lib.hid hc2
  have H3 := Lib.hid h3
  have hgw := h.lt
  have hq := node_ge s 0 _ _ _ h3
  clear hc hc2 h h3
  obtain ⟨i0, hi0, hz0, hz1, hz2⟩ := info_parts info0
  go_enter Try.func40, Try.ntmps40
  go_wp2_with fail
  refine H.out.mono ?_
  rintro e w1 ⟨rfl, hr1, hg1⟩
  have HR1 := Lib.hid hr1
  have HG1 := Lib.hid hg1
  clear hr1 hg1
  go_wp2_with fail
  refine (sees_no g (p + 1) s 93 w1 HR1.out HC.out).mono ?_
  rintro e w2 ⟨rfl, n, rfl⟩
  go_wp2_with fail
  refine (number_any g (p + 1) s _ (HR1.out.drewN n) hs).mono ?_
  intro e w3 hp
  obtain ⟨hg3, ⟨t', q', v, hn, rfl, hr3, hnd⟩ | ⟨hn, b, rfl⟩⟩ := el0 hp
  · obtain ⟨rfl, rfl⟩ : t = t' ∧ q = q' := by rw [H3.out] at hn; simpa using hn
    have HG3 := Lib.hid hg3
    have HR3 := Lib.hid hr3
    have HND := Lib.hid hnd
    obtain ⟨tv, rfl⟩ : ∃ tv : Int, v = .int .i64 tv := ⟨_, hnd⟩
    clear hg3 hp hr3 hnd hn
    have own0 := World.ownsRow_nil (w3.alloc (.cells #[.int .i64 tv] 65)) w.heap.size 65 1
    have hb3 : w.heap.size ≤ w3.heap.size := Nat.le_trans HG1.out.size (Nat.le_trans (gr_drewN w1 n (some g)).size HG3.out.size)
    go_wp2_with (at_builtin; refine wpList_append_own_at _ rfl _ _ 69 rfl w.heap.size 65 i0 (.int .i64 0) 1 8 Try.underlying69 hi0 hz0 hz1 hz2 rfl (by decide) _ _ _ rfl own0 ⟨w3.heap.size, 0, none⟩ 1 1 [.int .i64 tv] rfl rfl ?c1 ?c2 ?c3 ?c4 ?c5 ?_)
    case c1 => exact cell_one_new _ _ _
    case c2 => simp [Value.oneCell']
    case c3 => simp [maxLen]
    case c4 => omega
    case c5 => simp; omega
    intro sv w4 hown4 hg4 hnil4 hat4
    have hl4 : Lf s 0 g w w4 sv ([] ++ [t]) ([] ++ [.int .i64 tv]) q :=
      (Lf.start (d := 0) (HR1.out.drewN n) (HG1.out.trans (gr_drewN w1 n _)) (by omega)).step hq.1 hq.2 HG3.out HR3.out HND.out hown4 hg4 hat4 hgw
    have HL := Lib.hid (show Lp s 0 p g w w4 sv ([] ++ [t]) ([] ++ [.int .i64 tv]) (s.size + 1) q from ⟨by omega, HN.out, hl4⟩)
    clear hl4 hown4 hg4 hnil4 hat4 own0 hb3
    go_wp2_with fail
    go_loopw [5] (fun u wr => ∃ ts xs f q', Hid (Lp s 0 p g w wr u ts xs f q')) (fun _ wr => s.size + 1 - plc wr g)
    case atStart => exact ⟨_, _, _, _, HL⟩
    case round =>
      obtain ⟨ts, xs, f, q', hL⟩ := hrel
      have hle := hL.out.lf.le
      by_cases h93 : ba s q' = 93
      · have H93 := Lib.hid h93
        clear h93
        go_wp2_with fail
        refine (sees_yes g q' s 93 wr hL.out.lf.rdr (by omega) H93.out).mono ?_
        rintro e w5 ⟨rfl, n5, rfl⟩
        go_wp2_with fail
        refine (take_yes g q' s 93 _ (hL.out.lf.rdr.drewN n5) (by omega) H93.out hs).mono ?_
        rintro e w6 ⟨rfl, hr6, hg6⟩
        have HL6 := Lib.hid ((hL.out.lf.drewN n5).reader hg6 hr6 (by omega) (by have := ba_lt (s := s) (p := q') (by rw [H93.out]; omega); omega) hgw)
        clear hr6 hg6
        go_wp2_with fail
        go_ret
        exact parts_ok (hL.out.exit H93.out) HL6.out.gr rfl HL6.out.rdr HL6.out.done.1 HL6.out.done.2
      · have H93 := Lib.hid h93
        clear h93
        go_wp2_with fail
        refine (sees_no g q' s 93 wr hL.out.lf.rdr H93.out).mono ?_
        rintro e w5 ⟨rfl, n5, rfl⟩
        go_wp2_with fail
        by_cases h44 : ba s q' = 44
        · have H44 := Lib.hid h44
          clear h44
          have hq1 : q' < s.size := ba_lt (by rw [H44.out]; omega)
          refine (take_yes g q' s 44 _ (hL.out.lf.rdr.drewN n5) (by omega) H44.out hs).mono ?_
          rintro e w6 ⟨rfl, hr6, hg6⟩
          have HL6 := Lib.hid ((hL.out.lf.drewN n5).reader hg6 hr6 (by omega) (by omega) hgw)
          have HG6 := Lib.hid ((gr_drewN wr n5 _).trans hg6)
          clear hr6 hg6
          go_wp2_with fail
          refine (number_any g (q' + 1) s w6 HL6.out.rdr hs).mono ?_
          intro e w7 hp
          obtain ⟨hg7, ⟨t7, q7, v, hn, rfl, hr7, hnd⟩ | ⟨hn, b, rfl⟩⟩ := el0 hp
          · have HG7 := Lib.hid hg7
            have HR7 := Lib.hid hr7
            have HND7 := Lib.hid hnd
            have HN7 := Lib.hid (hL.out.next H93.out H44.out hn)
            obtain ⟨tv7, rfl⟩ : ∃ tv : Int, v = .int .i64 tv := ⟨_, hnd⟩
            have hlx := HL6.out.len
            have hb6 := HL6.out.gr.size
            have hb7 := hg7.size
            have own7 := (own_keep HL6.out.own (fun k hk => hg7.block k (HL6.out.own.lt k hk).2 (fun e => by have := (HL6.out.own.lt k hk).1; simp at e; omega))).alloc (.cells #[.int .i64 tv7] 65)
            clear hg7 hr7 hnd hn hp
            go_wp2_with (at_builtin; refine wpList_append_own_at _ rfl _ _ 69 rfl w.heap.size 65 i0 (.int .i64 0) 1 8 Try.underlying69 hi0 hz0 hz1 hz2 rfl (by decide) _ _ _ rfl own7 ⟨w7.heap.size, 0, none⟩ 1 1 [.int .i64 tv7] rfl rfl ?c1 ?c2 ?c3 ?c4 ?c5 ?_)
            case c1 => exact cell_one_new _ _ _
            case c2 => simp [Value.oneCell']
            case c3 => simp [maxLen]; omega
            case c4 => omega
            case c5 => simp; omega
            intro sv8 w8 hown8 hg8 hnil8 hat8
            obtain ⟨f8, hf8, hle8, hlt8, hcom8⟩ := HN7.out
            have HL8 := Lib.hid (show Lp s 0 p g w w8 sv8 (ts ++ [t7]) (xs ++ [.int .i64 tv7]) f8 q7 from ⟨hf8, hcom8, HL6.out.step (by omega) hle8 HG7.out HR7.out HND7.out hown8 hg8 hat8 hgw⟩)
            clear hown8 hg8 hnil8 hat8 own7 hcom8 hf8
            go_wp2_with fail
            go_roundw
            case rel => exact ⟨_, _, _, _, HL8⟩
            case measure =>
              rw [plc_eq hL.out.lf.rdr, plc_eq HL8.out.lf.rdr]
              omega
          · have HG7 := Lib.hid hg7
            have HN7 := Lib.hid hn
            clear hg7 hp hn
            exact ⟨rfl, parts_fell (hL.out.stop2 H93.out H44.out HN7.out) (HL6.out.gr.trans HG7.out) ⟨_, rfl⟩⟩
        · have H44 := Lib.hid h44
          clear h44
          refine (take_no g q' s 44 _ (hL.out.lf.rdr.drewN n5) H44.out).mono ?_
          rintro e w6 ⟨⟨b, rfl⟩, hg6⟩
          exact ⟨rfl, parts_fell (hL.out.stop1 H93.out H44.out) ((hL.out.lf.gr.trans (gr_drewN wr n5 _)).trans hg6) ⟨_, rfl⟩⟩
  · rw [H3.out] at hn; cases hn

end Go.Proofs.Ytachjodnhgmoiaa
