/- 10 texts in one: Parts0 Parts1 Arr Nest LayRd OwnM RawM VEmpty VPack SOut. -/
import Derived.Test.YtdfanconjiiceaaLoop
import Derived.Recover
import Derived.Test.YtdfanconjiiceaaLayMem
import Derived.Test.YtdfanconjiiceaaAside
import Derived.Test.YtdfanconjiiceaaLvText
import Derived.Maps.AppendAt
import Derived.Deep.RegionLaw
import Derived.Deep.AppendLies
import Derived.Deep.CutRange
import Derived.Test.YtdfanconjiiceaaPutV
import Derived.Test.YtdfanconjiiceaaRowIns
import Derived.Test.YtdfanconjiiceaaRgnW
import Derived.Test.YtdfanconjiiceaaVctQ
import Derived.ArgAppend
namespace Go.Proofs.Ytdfanconjiiceaa
/- Parts0 -/
section
open Go.RowKit

theorem el0 {s : ByteArray} {p g : Nat} {w w' : World} {e : Ending} (h : NumPost s p g w e w') : ElPost s 0 p g w e w' := by
  obtain ⟨hg, ⟨v, q, hn, he, hr⟩ | ⟨hn, he⟩⟩ := h
  · exact ⟨hg, .inl ⟨v, q, _, hn, he, hr, rfl⟩⟩
  · exact ⟨hg, .inr ⟨hn, he⟩⟩

theorem parts_fell {s : ByteArray} {d p g : Nat} {w w' : World} {e : Ending} (hn : parts s (node s d) p = none) (hg : w.grownBy w' (some g)) (he : Fell e) : PartsPost s d p g w e w' := ⟨hg, .inr ⟨hn, he⟩⟩
theorem parts_ok {s : ByteArray} {d p g q : Nat} {w w' : World} {e : Ending} {ts : List (T d)} {xs : List Value} {sv : Value} (hn : parts s (node s d) p = some (ts, q)) (hg : w.grownBy w' (some g)) (he : e = .returned sv) (hr : Rdr w' g s q)
    (ho : w'.ownsRow w.heap.size (elT d) 1 sv xs.length xs) (ha : All2 (Nd w' (fun b => w.heap.size ≤ b) d) ts xs) : PartsPost s d p g w e w' := ⟨hg, .inl ⟨ts, q, sv, xs, hn, he, hr, ho, ha⟩⟩
theorem parts_n1 {s : ByteArray} {d p : Nat} (h : ba s p ≠ 91) : parts s (node s d) p = none := by rw [parts, if_neg h]
theorem parts_e {s : ByteArray} {d p : Nat} (h : ba s p = 91) (h2 : ba s (p + 1) = 93) : parts s (node s d) p = some ([], p + 2) := by rw [parts, if_pos h, if_pos h2]
theorem parts_n2 {s : ByteArray} {d p : Nat} (h : ba s p = 91) (h2 : ba s (p + 1) ≠ 93) (h3 : node s d (p + 1) = none) : parts s (node s d) p = none := by rw [parts, if_pos h, if_neg h2, h3]
theorem parts_s {s : ByteArray} {d p q : Nat} {t : T d} (h : ba s p = 91) (h2 : ba s (p + 1) ≠ 93) (h3 : node s d (p + 1) = some (t, q)) : parts s (node s d) p = cons' ([] ++ [t]) (more s (node s d) (s.size + 1) q) := by
  rw [parts, if_pos h, if_neg h2, h3]
  simp only
  cases more s (node s d) (s.size + 1) q with
  | none => rfl
  | some r => simp [cons']

theorem info0 : (Try.prog.info? 110).map (fun i => (i.zero, i.size, i.bytes)) = some (some (.int .i64 0), 1, 8) := by kernel_rfl

set_option maxHeartbeats 400000 in
theorem parts0_n1 (g p : Nat) (s : ByteArray) (w : World) (h : Rdr w g s p) (hc : ba s p ≠ 91) :
    Calls Try.prog 97 #[.pointer (some ⟨g, 0, none⟩), .func (.func 96) #[.pointer (some ⟨g, 0, none⟩)] #[]] w (PartsPost s 0 p g w) := by
  have H := Lib.hid (take_no g p s 91 w h hc)
  have HN := Lib.hid (parts_n1 (d := 0) hc)
  clear hc h
  go_enter Try.func97, Try.ntmps97
  go_wp2_with fail
  refine H.out.mono ?_
  rintro e w1 ⟨⟨b, rfl⟩, hg1⟩
  exact ⟨rfl, parts_fell HN.out hg1 ⟨_, rfl⟩⟩

set_option maxHeartbeats 400000 in
theorem parts0_e (g p : Nat) (s : ByteArray) (w : World) (h : Rdr w g s p) (hc : ba s p = 91) (hc2 : ba s (p + 1) = 93) (hs : s.size ≤ 400) :
    Calls Try.prog 97 #[.pointer (some ⟨g, 0, none⟩), .func (.func 96) #[.pointer (some ⟨g, 0, none⟩)] #[]] w (PartsPost s 0 p g w) := by
  have H := Lib.hid (take_yes g p s 91 w h (by omega) hc hs)
  have HN := Lib.hid (parts_e (d := 0) hc hc2)
  have HC := Lib.hid hc2
  clear hc hc2 h
  go_enter Try.func97, Try.ntmps97
  go_wp2_with fail
  refine H.out.mono ?_
  rintro e w1 ⟨rfl, hr1, hg1⟩
  have HR1 := Lib.hid hr1
  have HG1 := Lib.hid hg1
  clear hr1 hg1
  go_wp2_with fail
  refine (sees_yes g (p + 1) s 93 w1 HR1.out (by omega) HC.out).mono ?_
  rintro e w2 ⟨rfl, n, rfl⟩
  go_wp2_with fail
  refine wp_loop_rounds 1 ?_
  rw [rounds_succ]
  go_wp2_with fail
  refine (sees_yes g (p + 1) s 93 _ (HR1.out.drewN n) (by omega) HC.out).mono ?_
  rintro e w3 ⟨rfl, n2, rfl⟩
  go_wp2_with fail
  refine (take_yes g (p + 1) s 93 _ (HR1.out.drewN _) (by omega) HC.out hs).mono ?_
  rintro e w4 ⟨rfl, hr4, hg4⟩
  have HR4 := Lib.hid hr4
  have HG4 := Lib.hid hg4
  clear hr4 hg4
  go_wp2_with fail
  go_ret
  refine parts_ok HN.out (HG1.out.trans ((gr_drewN w1 _ _).trans HG4.out)) rfl HR4.out (World.ownsRow_nil _ _ _ _) trivial

set_option maxHeartbeats 400000 in
theorem parts0_n2 (g p : Nat) (s : ByteArray) (w : World) (h : Rdr w g s p) (hc : ba s p = 91) (hc2 : ba s (p + 1) ≠ 93) (h3 : node s 0 (p + 1) = none) (hs : s.size ≤ 400) :
    Calls Try.prog 97 #[.pointer (some ⟨g, 0, none⟩), .func (.func 96) #[.pointer (some ⟨g, 0, none⟩)] #[]] w (PartsPost s 0 p g w) := by
  have H := Lib.hid (take_yes g p s 91 w h (by omega) hc hs)
  have HN := Lib.hid (parts_n2 (d := 0) hc hc2 h3)
  have HC := Lib.hid hc2
  have H3 := Lib.hid h3
  clear hc hc2 h h3
  go_enter Try.func97, Try.ntmps97
  go_wp2_with fail
  refine H.out.mono ?_
  rintro e w1 ⟨rfl, hr1, hg1⟩
  have HR1 := Lib.hid hr1
  have HG1 := Lib.hid hg1
  clear hr1 hg1
  go_wp2_with fail
  refine (sees_no g (p + 1) s 93 w1 HR1.out HC.out).mono ?_
  rintro e w2 ⟨rfl, n, rfl⟩
  go_wp2_with fail
  refine (number_any g (p + 1) s _ (HR1.out.drewN n) hs).mono ?_
  intro e w3 hp
  obtain ⟨hg3, ⟨t, q, v, hn, he, hr, hnd⟩ | ⟨hn, b, rfl⟩⟩ := el0 hp
  · rw [H3.out] at hn; cases hn
  · have HG3 := Lib.hid hg3
    clear hg3 hp
    exact ⟨rfl, parts_fell HN.out (HG1.out.trans ((gr_drewN w1 _ _).trans HG3.out)) ⟨_, rfl⟩⟩

set_option maxHeartbeats 1000000 in
theorem parts0_s (g p : Nat) (s : ByteArray) (w : World) (h : Rdr w g s p) (hc : ba s p = 91) (hc2 : ba s (p + 1) ≠ 93) (t : T 0) (q : Nat) (h3 : node s 0 (p + 1) = some (t, q)) (hs : s.size ≤ 400) :
    Calls Try.prog 97 #[.pointer (some ⟨g, 0, none⟩), .func (.func 96) #[.pointer (some ⟨g, 0, none⟩)] #[]] w (PartsPost s 0 p g w) := by
  have H := Lib.hid (take_yes g p s 91 w h (by omega) hc hs)
  have HN := Lib.hid (parts_s (d := 0) hc hc2 h3)
  have HC := Lib.hid hc2
  have H3 := Lib.hid h3
  have hgw := h.lt
  have hq := node_ge s 0 _ _ _ h3
  clear hc hc2 h h3
  obtain ⟨i0, hi0, hz0, hz1, hz2⟩ := info_parts info0
  go_enter Try.func97, Try.ntmps97
  go_wp2_with fail
  refine H.out.mono ?_
  rintro e w1 ⟨rfl, hr1, hg1⟩
  have HR1 := Lib.hid hr1
  have HG1 := Lib.hid hg1
  clear hr1 hg1
  go_wp2_with fail
  refine (sees_no g (p + 1) s 93 w1 HR1.out HC.out).mono ?_
  rintro e w2 ⟨rfl, n, rfl⟩
  go_wp2_with fail
  refine (number_any g (p + 1) s _ (HR1.out.drewN n) hs).mono ?_
  intro e w3 hp
  obtain ⟨hg3, ⟨t', q', v, hn, rfl, hr3, hnd⟩ | ⟨hn, b, rfl⟩⟩ := el0 hp
  · obtain ⟨rfl, rfl⟩ : t = t' ∧ q = q' := by rw [H3.out] at hn; simpa using hn
    have HG3 := Lib.hid hg3
    have HR3 := Lib.hid hr3
    have HND := Lib.hid hnd
    obtain ⟨tv, rfl⟩ : ∃ tv : Int, v = .int .i64 tv := ⟨_, hnd⟩
    clear hg3 hp hr3 hnd hn
    have own0 := World.ownsRow_nil (w3.alloc (.cells #[.int .i64 tv] 110)) w.heap.size 110 1
    have hb3 : w.heap.size ≤ w3.heap.size := Nat.le_trans HG1.out.size (Nat.le_trans (gr_drewN w1 n (some g)).size HG3.out.size)
    go_wp2_with (at_builtin; refine wpList_append_own_at _ rfl _ _ 114 rfl w.heap.size 110 i0 (.int .i64 0) 1 8 Try.underlying114 hi0 hz0 hz1 hz2 rfl (by decide) _ _ _ rfl own0 ⟨w3.heap.size, 0, none⟩ 1 1 [.int .i64 tv] rfl rfl ?c1 ?c2 ?c3 ?c4 ?c5 ?_)
    case c1 => exact cell_one_new _ _ _
    case c2 => simp [Value.oneCell']
    case c3 => simp [maxLen]
    case c4 => omega
    case c5 => simp; omega
    intro sv w4 hown4 hg4 hnil4 hat4
    have hl4 : Lf s 0 g w w4 sv ([] ++ [t]) ([] ++ [.int .i64 tv]) q :=
      (Lf.start (d := 0) (HR1.out.drewN n) (HG1.out.trans (gr_drewN w1 n _)) (by omega)).step hq.1 hq.2 HG3.out HR3.out HND.out hown4 hg4 hat4 hgw
    have HL := Lib.hid (show Lp s 0 p g w w4 sv ([] ++ [t]) ([] ++ [.int .i64 tv]) (s.size + 1) q from ⟨by omega, HN.out, hl4⟩)
    clear hl4 hown4 hg4 hnil4 hat4 own0 hb3
    go_wp2_with fail
    go_loopw [5] (fun u wr => ∃ ts xs f q', Hid (Lp s 0 p g w wr u ts xs f q')) (fun _ wr => s.size + 1 - plc wr g)
    case atStart => exact ⟨_, _, _, _, HL⟩
    case round =>
      obtain ⟨ts, xs, f, q', hL⟩ := hrel
      have hle := hL.out.lf.le
      by_cases h93 : ba s q' = 93
      · have H93 := Lib.hid h93
        clear h93
        go_wp2_with fail
        refine (sees_yes g q' s 93 wr hL.out.lf.rdr (by omega) H93.out).mono ?_
        rintro e w5 ⟨rfl, n5, rfl⟩
        go_wp2_with fail
        refine (take_yes g q' s 93 _ (hL.out.lf.rdr.drewN n5) (by omega) H93.out hs).mono ?_
        rintro e w6 ⟨rfl, hr6, hg6⟩
        have HL6 := Lib.hid ((hL.out.lf.drewN n5).reader hg6 hr6 (by omega) (by have := ba_lt (s := s) (p := q') (by rw [H93.out]; omega); omega) hgw)
        clear hr6 hg6
        go_wp2_with fail
        go_ret
        exact parts_ok (hL.out.exit H93.out) HL6.out.gr rfl HL6.out.rdr HL6.out.done.1 HL6.out.done.2
      · have H93 := Lib.hid h93
        clear h93
        go_wp2_with fail
        refine (sees_no g q' s 93 wr hL.out.lf.rdr H93.out).mono ?_
        rintro e w5 ⟨rfl, n5, rfl⟩
        go_wp2_with fail
        by_cases h44 : ba s q' = 44
        · have H44 := Lib.hid h44
          clear h44
          have hq1 : q' < s.size := ba_lt (by rw [H44.out]; omega)
          refine (take_yes g q' s 44 _ (hL.out.lf.rdr.drewN n5) (by omega) H44.out hs).mono ?_
          rintro e w6 ⟨rfl, hr6, hg6⟩
          have HL6 := Lib.hid ((hL.out.lf.drewN n5).reader hg6 hr6 (by omega) (by omega) hgw)
          have HG6 := Lib.hid ((gr_drewN wr n5 _).trans hg6)
          clear hr6 hg6
          go_wp2_with fail
          refine (number_any g (q' + 1) s w6 HL6.out.rdr hs).mono ?_
          intro e w7 hp
          obtain ⟨hg7, ⟨t7, q7, v, hn, rfl, hr7, hnd⟩ | ⟨hn, b, rfl⟩⟩ := el0 hp
          · have HG7 := Lib.hid hg7
            have HR7 := Lib.hid hr7
            have HND7 := Lib.hid hnd
            have HN7 := Lib.hid (hL.out.next H93.out H44.out hn)
            obtain ⟨tv7, rfl⟩ : ∃ tv : Int, v = .int .i64 tv := ⟨_, hnd⟩
            have hlx := HL6.out.len
            have hb6 := HL6.out.gr.size
            have hb7 := hg7.size
            have own7 := (own_keep HL6.out.own (fun k hk => hg7.block k (HL6.out.own.lt k hk).2 (fun e => by have := (HL6.out.own.lt k hk).1; simp at e; omega))).alloc (.cells #[.int .i64 tv7] 110)
            clear hg7 hr7 hnd hn hp
            go_wp2_with (at_builtin; refine wpList_append_own_at _ rfl _ _ 114 rfl w.heap.size 110 i0 (.int .i64 0) 1 8 Try.underlying114 hi0 hz0 hz1 hz2 rfl (by decide) _ _ _ rfl own7 ⟨w7.heap.size, 0, none⟩ 1 1 [.int .i64 tv7] rfl rfl ?c1 ?c2 ?c3 ?c4 ?c5 ?_)
            case c1 => exact cell_one_new _ _ _
            case c2 => simp [Value.oneCell']
            case c3 => simp [maxLen]; omega
            case c4 => omega
            case c5 => simp; omega
            intro sv8 w8 hown8 hg8 hnil8 hat8
            obtain ⟨f8, hf8, hle8, hlt8, hcom8⟩ := HN7.out
            have HL8 := Lib.hid (show Lp s 0 p g w w8 sv8 (ts ++ [t7]) (xs ++ [.int .i64 tv7]) f8 q7 from ⟨hf8, hcom8, HL6.out.step (by omega) hle8 HG7.out HR7.out HND7.out hown8 hg8 hat8 hgw⟩)
            clear hown8 hg8 hnil8 hat8 own7 hcom8 hf8
            go_wp2_with fail
            go_roundw
            case rel => exact ⟨_, _, _, _, HL8⟩
            case measure =>
              rw [plc_eq hL.out.lf.rdr, plc_eq HL8.out.lf.rdr]
              omega
          · have HG7 := Lib.hid hg7
            have HN7 := Lib.hid hn
            clear hg7 hp hn
            exact ⟨rfl, parts_fell (hL.out.stop2 H93.out H44.out HN7.out) (HL6.out.gr.trans HG7.out) ⟨_, rfl⟩⟩
        · have H44 := Lib.hid h44
          clear h44
          refine (take_no g q' s 44 _ (hL.out.lf.rdr.drewN n5) H44.out).mono ?_
          rintro e w6 ⟨⟨b, rfl⟩, hg6⟩
          exact ⟨rfl, parts_fell (hL.out.stop1 H93.out H44.out) ((hL.out.lf.gr.trans (gr_drewN wr n5 _)).trans hg6) ⟨_, rfl⟩⟩
  · rw [H3.out] at hn; cases hn
end

/- Parts1 -/
section
open Go.RowKit

theorem Nd.iface {w : World} {S : Nat → Prop} {d : Nat} {t : T (d + 1)} {v : Value} (h : Nd w S (d + 1) t v) : ∃ ty pv, v = .iface ty pv := by
  obtain ⟨b, sv, xs, hv, _⟩ := h
  exact ⟨_, _, hv⟩

theorem info1 : (Try.prog.info? 64).map (fun i => (i.zero, i.size, i.bytes)) = some (some .nilIface, 1, 16) := by kernel_rfl

set_option maxHeartbeats 400000 in
theorem parts1_n1 (g p bx bn d : Nat) (s : ByteArray) (w : World) (h : Rdr w g s p) (hc : ba s p ≠ 91) :
    Calls Try.prog 98 #[.pointer (some ⟨g, 0, none⟩), .func (.func 99) #[] #[.pointer (some ⟨bx, 0, none⟩), .pointer (some ⟨bn, 0, none⟩)]] w (PartsPost s (d + 1) p g w) := by
  have H := Lib.hid (take_no g p s 91 w h hc)
  have HN := Lib.hid (parts_n1 (d := d + 1) hc)
  clear hc h
  go_enter Try.func98, Try.ntmps98
  go_wp2_with fail
  refine H.out.mono ?_
  rintro e w1 ⟨⟨b, rfl⟩, hg1⟩
  exact ⟨rfl, parts_fell HN.out hg1 ⟨_, rfl⟩⟩

set_option maxHeartbeats 400000 in
theorem parts1_e (g p bx bn d : Nat) (s : ByteArray) (w : World) (h : Rdr w g s p) (hc : ba s p = 91) (hc2 : ba s (p + 1) = 93) (hs : s.size ≤ 400) :
    Calls Try.prog 98 #[.pointer (some ⟨g, 0, none⟩), .func (.func 99) #[] #[.pointer (some ⟨bx, 0, none⟩), .pointer (some ⟨bn, 0, none⟩)]] w (PartsPost s (d + 1) p g w) := by
  have H := Lib.hid (take_yes g p s 91 w h (by omega) hc hs)
  have HN := Lib.hid (parts_e (d := d + 1) hc hc2)
  have HC := Lib.hid hc2
  clear hc hc2 h
  go_enter Try.func98, Try.ntmps98
  go_wp2_with fail
  refine H.out.mono ?_
  rintro e w1 ⟨rfl, hr1, hg1⟩
  have HR1 := Lib.hid hr1
  have HG1 := Lib.hid hg1
  clear hr1 hg1
  go_wp2_with fail
  refine (sees_yes g (p + 1) s 93 w1 HR1.out (by omega) HC.out).mono ?_
  rintro e w2 ⟨rfl, n, rfl⟩
  go_wp2_with fail
  refine wp_loop_rounds 1 ?_
  rw [rounds_succ]
  go_wp2_with fail
  refine (sees_yes g (p + 1) s 93 _ (HR1.out.drewN n) (by omega) HC.out).mono ?_
  rintro e w3 ⟨rfl, n2, rfl⟩
  go_wp2_with fail
  refine (take_yes g (p + 1) s 93 _ (HR1.out.drewN _) (by omega) HC.out hs).mono ?_
  rintro e w4 ⟨rfl, hr4, hg4⟩
  have HR4 := Lib.hid hr4
  have HG4 := Lib.hid hg4
  clear hr4 hg4
  go_wp2_with fail
  go_ret
  refine parts_ok HN.out (HG1.out.trans ((gr_drewN w1 _ _).trans HG4.out)) rfl HR4.out (World.ownsRow_nil _ _ _ _) trivial

set_option maxHeartbeats 400000 in
theorem parts1_n2 (g p bx bn d : Nat) (s : ByteArray) (w : World) (h : Rdr w g s p) (hc : ba s p = 91) (hc2 : ba s (p + 1) ≠ 93) (h3 : node s (d + 1) (p + 1) = none) (hs : s.size ≤ 400) (hel : ∀ (p : Nat) (w' : World), w.grownBy w' (some g) → Rdr w' g s p → Calls Try.prog 99 #[.pointer (some ⟨bx, 0, none⟩), .pointer (some ⟨bn, 0, none⟩)] w' (ElPost s (d + 1) p g w')) :
    Calls Try.prog 98 #[.pointer (some ⟨g, 0, none⟩), .func (.func 99) #[] #[.pointer (some ⟨bx, 0, none⟩), .pointer (some ⟨bn, 0, none⟩)]] w (PartsPost s (d + 1) p g w) := by
  have H := Lib.hid (take_yes g p s 91 w h (by omega) hc hs)
  have HN := Lib.hid (parts_n2 (d := d + 1) hc hc2 h3)
  have HC := Lib.hid hc2
  have H3 := Lib.hid h3
  have HE := Lib.hid hel
  clear hc hc2 h h3 hel
  go_enter Try.func98, Try.ntmps98
  go_wp2_with fail
  refine H.out.mono ?_
  rintro e w1 ⟨rfl, hr1, hg1⟩
  have HR1 := Lib.hid hr1
  have HG1 := Lib.hid hg1
  clear hr1 hg1
  go_wp2_with fail
  refine (sees_no g (p + 1) s 93 w1 HR1.out HC.out).mono ?_
  rintro e w2 ⟨rfl, n, rfl⟩
  go_wp2_with fail
  refine (HE.out (p + 1) _ (HG1.out.trans (gr_drewN w1 n _)) (HR1.out.drewN n)).mono ?_
  intro e w3 hp
  obtain ⟨hg3, ⟨t, q, v, hn, he, hr, hnd⟩ | ⟨hn, b, rfl⟩⟩ := hp
  · rw [H3.out] at hn; cases hn
  · have HG3 := Lib.hid hg3
    clear hg3
    exact ⟨rfl, parts_fell HN.out (HG1.out.trans ((gr_drewN w1 _ _).trans HG3.out)) ⟨_, rfl⟩⟩

set_option maxHeartbeats 1000000 in
theorem parts1_s (g p bx bn d : Nat) (s : ByteArray) (w : World) (h : Rdr w g s p) (hc : ba s p = 91) (hc2 : ba s (p + 1) ≠ 93) (t : T (d + 1)) (q : Nat) (h3 : node s (d + 1) (p + 1) = some (t, q)) (hs : s.size ≤ 400) (hel : ∀ (p : Nat) (w' : World), w.grownBy w' (some g) → Rdr w' g s p → Calls Try.prog 99 #[.pointer (some ⟨bx, 0, none⟩), .pointer (some ⟨bn, 0, none⟩)] w' (ElPost s (d + 1) p g w')) :
    Calls Try.prog 98 #[.pointer (some ⟨g, 0, none⟩), .func (.func 99) #[] #[.pointer (some ⟨bx, 0, none⟩), .pointer (some ⟨bn, 0, none⟩)]] w (PartsPost s (d + 1) p g w) := by
  have H := Lib.hid (take_yes g p s 91 w h (by omega) hc hs)
  have HN := Lib.hid (parts_s (d := d + 1) hc hc2 h3)
  have HC := Lib.hid hc2
  have H3 := Lib.hid h3
  have hgw := h.lt
  have hq := node_ge s (d + 1) _ _ _ h3
  have HE := Lib.hid hel
  clear hc hc2 h h3 hel
  obtain ⟨i0, hi0, hz0, hz1, hz2⟩ := info_parts info1
  go_enter Try.func98, Try.ntmps98
  go_wp2_with fail
  refine H.out.mono ?_
  rintro e w1 ⟨rfl, hr1, hg1⟩
  have HR1 := Lib.hid hr1
  have HG1 := Lib.hid hg1
  clear hr1 hg1
  go_wp2_with fail
  refine (sees_no g (p + 1) s 93 w1 HR1.out HC.out).mono ?_
  rintro e w2 ⟨rfl, n, rfl⟩
  go_wp2_with fail
  refine (HE.out (p + 1) _ (HG1.out.trans (gr_drewN w1 n _)) (HR1.out.drewN n)).mono ?_
  intro e w3 hp
  obtain ⟨hg3, ⟨t', q', v, hn, rfl, hr3, hnd⟩ | ⟨hn, b, rfl⟩⟩ := hp
  · obtain ⟨rfl, rfl⟩ : t = t' ∧ q = q' := by rw [H3.out] at hn; simpa using hn
    have HG3 := Lib.hid hg3
    have HR3 := Lib.hid hr3
    have HND := Lib.hid hnd
    obtain ⟨ty, pv, rfl⟩ : ∃ ty pv, v = .iface ty pv := hnd.iface
    clear hg3 hr3 hnd hn
    have own0 := World.ownsRow_nil (w3.alloc (.cells #[.iface ty pv] 64)) w.heap.size 64 1
    have hb3 : w.heap.size ≤ w3.heap.size := Nat.le_trans HG1.out.size (Nat.le_trans (gr_drewN w1 n (some g)).size HG3.out.size)
    go_wp2_with (at_builtin; refine wpList_append_own_at _ rfl _ _ 119 rfl w.heap.size 64 i0 .nilIface 1 16 Try.underlying119 hi0 hz0 hz1 hz2 rfl (by decide) _ _ _ rfl own0 ⟨w3.heap.size, 0, none⟩ 1 1 [.iface ty pv] rfl rfl ?c1 ?c2 ?c3 ?c4 ?c5 ?_)
    case c1 => exact cell_one_new _ _ _
    case c2 => simp [Value.oneCell']
    case c3 => simp [maxLen]
    case c4 => omega
    case c5 => simp; omega
    intro sv w4 hown4 hg4 hnil4 hat4
    have hl4 : Lf s (d + 1) g w w4 sv ([] ++ [t]) ([] ++ [.iface ty pv]) q :=
      (Lf.start (d := d + 1) (HR1.out.drewN n) (HG1.out.trans (gr_drewN w1 n _)) (by omega)).step hq.1 hq.2 HG3.out HR3.out HND.out hown4 hg4 hat4 hgw
    have HL := Lib.hid (show Lp s (d + 1) p g w w4 sv ([] ++ [t]) ([] ++ [.iface ty pv]) (s.size + 1) q from ⟨by omega, HN.out, hl4⟩)
    clear hl4 hown4 hg4 hnil4 hat4 own0 hb3
    go_wp2_with fail
    go_loopw [5] (fun u wr => ∃ ts xs f q', Hid (Lp s (d + 1) p g w wr u ts xs f q')) (fun _ wr => s.size + 1 - plc wr g)
    case atStart => exact ⟨_, _, _, _, HL⟩
    case round =>
      obtain ⟨ts, xs, f, q', hL⟩ := hrel
      have hle := hL.out.lf.le
      by_cases h93 : ba s q' = 93
      · have H93 := Lib.hid h93
        clear h93
        go_wp2_with fail
        refine (sees_yes g q' s 93 wr hL.out.lf.rdr (by omega) H93.out).mono ?_
        rintro e w5 ⟨rfl, n5, rfl⟩
        go_wp2_with fail
        refine (take_yes g q' s 93 _ (hL.out.lf.rdr.drewN n5) (by omega) H93.out hs).mono ?_
        rintro e w6 ⟨rfl, hr6, hg6⟩
        have HL6 := Lib.hid ((hL.out.lf.drewN n5).reader hg6 hr6 (by omega) (by have := ba_lt (s := s) (p := q') (by rw [H93.out]; omega); omega) hgw)
        clear hr6 hg6
        go_wp2_with fail
        go_ret
        exact parts_ok (hL.out.exit H93.out) HL6.out.gr rfl HL6.out.rdr HL6.out.done.1 HL6.out.done.2
      · have H93 := Lib.hid h93
        clear h93
        go_wp2_with fail
        refine (sees_no g q' s 93 wr hL.out.lf.rdr H93.out).mono ?_
        rintro e w5 ⟨rfl, n5, rfl⟩
        go_wp2_with fail
        by_cases h44 : ba s q' = 44
        · have H44 := Lib.hid h44
          clear h44
          have hq1 : q' < s.size := ba_lt (by rw [H44.out]; omega)
          refine (take_yes g q' s 44 _ (hL.out.lf.rdr.drewN n5) (by omega) H44.out hs).mono ?_
          rintro e w6 ⟨rfl, hr6, hg6⟩
          have HL6 := Lib.hid ((hL.out.lf.drewN n5).reader hg6 hr6 (by omega) (by omega) hgw)
          have HG6 := Lib.hid ((gr_drewN wr n5 _).trans hg6)
          clear hr6 hg6
          go_wp2_with fail
          refine (HE.out (q' + 1) w6 HL6.out.gr HL6.out.rdr).mono ?_
          intro e w7 hp
          obtain ⟨hg7, ⟨t7, q7, v, hn, rfl, hr7, hnd⟩ | ⟨hn, b, rfl⟩⟩ := hp
          · have HG7 := Lib.hid hg7
            have HR7 := Lib.hid hr7
            have HND7 := Lib.hid hnd
            have HN7 := Lib.hid (hL.out.next H93.out H44.out hn)
            obtain ⟨ty7, pv7, rfl⟩ : ∃ ty pv, v = .iface ty pv := hnd.iface
            have hlx := HL6.out.len
            have hb6 := HL6.out.gr.size
            have hb7 := hg7.size
            have own7 := (own_keep HL6.out.own (fun k hk => hg7.block k (HL6.out.own.lt k hk).2 (fun e => by have := (HL6.out.own.lt k hk).1; simp at e; omega))).alloc (.cells #[.iface ty7 pv7] 64)
            clear hg7 hr7 hnd hn
            go_wp2_with (at_builtin; refine wpList_append_own_at _ rfl _ _ 119 rfl w.heap.size 64 i0 .nilIface 1 16 Try.underlying119 hi0 hz0 hz1 hz2 rfl (by decide) _ _ _ rfl own7 ⟨w7.heap.size, 0, none⟩ 1 1 [.iface ty7 pv7] rfl rfl ?c1 ?c2 ?c3 ?c4 ?c5 ?_)
            case c1 => exact cell_one_new _ _ _
            case c2 => simp [Value.oneCell']
            case c3 => simp [maxLen]; omega
            case c4 => omega
            case c5 => simp; omega
            intro sv8 w8 hown8 hg8 hnil8 hat8
            obtain ⟨f8, hf8, hle8, hlt8, hcom8⟩ := HN7.out
            have HL8 := Lib.hid (show Lp s (d + 1) p g w w8 sv8 (ts ++ [t7]) (xs ++ [.iface ty7 pv7]) f8 q7 from ⟨hf8, hcom8, HL6.out.step (by omega) hle8 HG7.out HR7.out HND7.out hown8 hg8 hat8 hgw⟩)
            clear hown8 hg8 hnil8 hat8 own7 hcom8 hf8
            go_wp2_with fail
            go_roundw
            case rel => exact ⟨_, _, _, _, HL8⟩
            case measure =>
              rw [plc_eq hL.out.lf.rdr, plc_eq HL8.out.lf.rdr]
              omega
          · have HG7 := Lib.hid hg7
            have HN7 := Lib.hid hn
            clear hg7 hn
            exact ⟨rfl, parts_fell (hL.out.stop2 H93.out H44.out HN7.out) (HL6.out.gr.trans HG7.out) ⟨_, rfl⟩⟩
        · have H44 := Lib.hid h44
          clear h44
          refine (take_no g q' s 44 _ (hL.out.lf.rdr.drewN n5) H44.out).mono ?_
          rintro e w6 ⟨⟨b, rfl⟩, hg6⟩
          exact ⟨rfl, parts_fell (hL.out.stop1 H93.out H44.out) ((hL.out.lf.gr.trans (gr_drewN wr n5 _)).trans hg6) ⟨_, rfl⟩⟩
  · rw [H3.out] at hn; cases hn
end

/- Arr -/
section
open Go.RowKit

/-- How readArray ends. -/
def ArrPost (s : ByteArray) (d p g : Nat) (w : World) (e : Ending) (w' : World) : Prop :=
  w.grownBy w' (some g) ∧ ((∃ t q v, node s d p = some (t, q) ∧ e = .returned v ∧ Rdr w' g s q ∧ RepI w' (fun b => w.heap.size ≤ b) d t v) ∨ (node s d p = none ∧ Fell e))

theorem arr_fell {s : ByteArray} {d p g : Nat} {w w' : World} {e : Ending} (hn : node s d p = none) (hg : w.grownBy w' (some g)) (he : Fell e) : ArrPost s d p g w e w' := ⟨hg, .inr ⟨hn, he⟩⟩
theorem arr_ok {s : ByteArray} {d p g q : Nat} {w w' : World} {e : Ending} {t : T d} {v : Value} (hn : node s d p = some (t, q)) (hg : w.grownBy w' (some g)) (he : e = .returned v) (hr : Rdr w' g s q)
    (ha : RepI w' (fun b => w.heap.size ≤ b) d t v) : ArrPost s d p g w e w' := ⟨hg, .inl ⟨t, q, v, hn, he, hr, ha⟩⟩

theorem makeFunc_run (fn : Fn) (first cap : Array Value) (w : World) : (Instr.makeFunc fn first cap).run Try.prog w = .ok (.func fn first cap) w := rfl

set_option maxHeartbeats 400000 in
theorem array0 (g p : Nat) (s : ByteArray) (w : World) (h : Rdr w g s p) (hs : s.size ≤ 400) :
    Calls Try.prog 75 #[.pointer (some ⟨g, 0, none⟩), .int .i64 0] w (ArrPost s 0 p g w) := by
  have HR := Lib.hid h
  clear h
  go_enter Try.func75, Try.ntmps75
  go_wp2_with fail
  refine (number_any g p s _ ((HR.out.alloc _).alloc _) hs).mono ?_
  rintro e w1 ⟨hg1, ⟨v, q, hn, rfl, hr1⟩ | ⟨hn, b, rfl⟩⟩
  · have HG1 := Lib.hid hg1
    have HR1 := Lib.hid hr1
    have HN := Lib.hid hn
    obtain ⟨vi, hvi⟩ : ∃ vi : Int, vi = (v : Int) := ⟨_, rfl⟩
    rw [← hvi]
    have HVI := Lib.hid hvi
    clear hg1 hr1 hn hvi
    go_wp2_with fail
    go_ret
    refine arr_ok (d := 0) (t := v) HN.out (((World.grownBy_alloc _ _ _).trans (World.grownBy_alloc _ _ _)).trans HG1.out) rfl HR1.out ?_
    show _ = Value.iface _ (.int .i64 (v : Int))
    rw [← HVI.out]; rfl
  · have HG1 := Lib.hid hg1
    have HN := Lib.hid hn
    clear hg1 hn
    exact ⟨rfl, arr_fell (d := 0) HN.out (((World.grownBy_alloc _ _ _).trans (World.grownBy_alloc _ _ _)).trans HG1.out) ⟨_, rfl⟩⟩

theorem parts0_any (g p : Nat) (s : ByteArray) (w : World) (h : Rdr w g s p) (hs : s.size ≤ 400) :
    Calls Try.prog 97 #[.pointer (some ⟨g, 0, none⟩), .func (.func 96) #[.pointer (some ⟨g, 0, none⟩)] #[]] w (PartsPost s 0 p g w) := by
  by_cases hc : ba s p = 91
  · by_cases hc2 : ba s (p + 1) = 93
    · exact parts0_e g p s w h hc hc2 hs
    · cases h3 : node s 0 (p + 1) with
      | none => exact parts0_n2 g p s w h hc hc2 h3 hs
      | some r => exact parts0_s g p s w h hc hc2 r.1 r.2 h3 hs
  · exact parts0_n1 g p s w h hc

theorem parts1_any (g p bx bn d : Nat) (s : ByteArray) (w : World) (h : Rdr w g s p) (hs : s.size ≤ 400)
    (hel : ∀ (p : Nat) (w' : World), w.grownBy w' (some g) → Rdr w' g s p → Calls Try.prog 99 #[.pointer (some ⟨bx, 0, none⟩), .pointer (some ⟨bn, 0, none⟩)] w' (ElPost s (d + 1) p g w')) :
    Calls Try.prog 98 #[.pointer (some ⟨g, 0, none⟩), .func (.func 99) #[] #[.pointer (some ⟨bx, 0, none⟩), .pointer (some ⟨bn, 0, none⟩)]] w (PartsPost s (d + 1) p g w) := by
  by_cases hc : ba s p = 91
  · by_cases hc2 : ba s (p + 1) = 93
    · exact parts1_e g p bx bn d s w h hc hc2 hs
    · cases h3 : node s (d + 1) (p + 1) with
      | none => exact parts1_n2 g p bx bn d s w h hc hc2 h3 hs hel
      | some r => exact parts1_s g p bx bn d s w h hc hc2 r.1 r.2 h3 hs hel
  · exact parts1_n1 g p bx bn d s w h hc

/-- The node is laid round its row. -/
theorem rep_node {g d : Nat} {w w0 w1 : World} {ts : List (T d)} {sv : Value} {xs : List Value} (h0 : w.grownBy w0 (some g)) (h1 : w0.grownBy w1 (some g)) (ho : w1.ownsRow w0.heap.size (elT d) 1 sv xs.length xs) (ha : All2 (Nd w1 (fun b => w0.heap.size ≤ b) d) ts xs) :
    Nd (w1.alloc (.cells #[sv] (strT d))) (fun b => w.heap.size ≤ b) (d + 1) ts (.iface (ptrT d) (.pointer (some ⟨w1.heap.size, 0, none⟩))) := by
  have e0 := h0.size
  have e1 := h1.size
  have hl := ho.lt
  have hk : ∀ b, b < w1.heap.size → (w1.alloc (.cells #[sv] (strT d))).heap[b]? = w1.heap[b]? := fun b hb => Below.heap_alloc _ _ _ hb
  refine ⟨w1.heap.size, sv, xs, rfl, by omega, heap_alloc_new _ _, own_base (own_keep ho (fun k hk' => hk k (hl k hk').2)) (Nat.zero_le _), fun k hk' => by have := (hl k hk').1; omega, ?_⟩
  exact All2.mono (Nd.keep (fun b _ hb2 => hk b hb2) (fun b hb _ => by omega) d) ts xs ha

set_option maxHeartbeats 400000 in
theorem array1 (g p : Nat) (s : ByteArray) (w : World) (h : Rdr w g s p) (hs : s.size ≤ 400) :
    Calls Try.prog 75 #[.pointer (some ⟨g, 0, none⟩), .int .i64 1] w (ArrPost s 1 p g w) := by
  have HR := Lib.hid h
  clear h
  have hmf := makeFunc_run
  go_enter Try.func75, Try.ntmps75
  go_wp2_with fail
  clear hmf
  refine (parts0_any g p s _ ((HR.out.alloc _).alloc _) hs).mono ?_
  rintro e w1 ⟨hg1, ⟨ts, q, sv, xs, hn, rfl, hr1, ho1, ha1⟩ | ⟨hn, b, rfl⟩⟩
  · have HG1 := Lib.hid hg1
    have HR1 := Lib.hid hr1
    have HN := Lib.hid hn
    have HA := Lib.hid (rep_node (d := 0) ((World.grownBy_alloc _ _ _).trans (World.grownBy_alloc _ _ _)) hg1 ho1 ha1)
    obtain ⟨A1, m1, c1, rfl⟩ := own_form ho1
    clear hg1 hr1 hn ho1 ha1
    go_wp2_with fail
    go_ret
    exact arr_ok (d := 1) (t := ts) HN.out ((((World.grownBy_alloc _ _ _).trans (World.grownBy_alloc _ _ _)).trans HG1.out).trans (World.grownBy_alloc _ _ _)) rfl (HR1.out.alloc _) HA.out
  · have HG1 := Lib.hid hg1
    have HN := Lib.hid hn
    clear hg1 hn
    exact ⟨rfl, arr_fell (d := 1) HN.out (((World.grownBy_alloc _ _ _).trans (World.grownBy_alloc _ _ _)).trans HG1.out) ⟨_, rfl⟩⟩

/-- Two boxes, one behind the other. -/
theorem cell_two (w : World) (x y : Value) (tx ty : TypeId) : ((w.alloc (.cells #[x] tx)).alloc (.cells #[y] ty)).cell? ⟨w.heap.size, 0, none⟩ = some x ∧ ((w.alloc (.cells #[x] tx)).alloc (.cells #[y] ty)).cell? ⟨w.heap.size + 1, 0, none⟩ = some y := by
  have e : (w.alloc (.cells #[x] tx)).heap.size = w.heap.size + 1 := by simp
  constructor
  · exact cell_of_row _ _ 0 _ _ (0, 0) ((Below.heap_alloc _ _ _ (by omega)).trans (heap_alloc_new _ _))
  · have h := cell_of_row _ _ 0 _ _ (0, 0) (heap_alloc_new (w.alloc (.cells #[x] tx)) (.cells #[y] ty))
    rw [e] at h
    exact h

/-- What the closure does, out of readArray one depth below. -/
theorem closure_any (g bx bn d : Nat) (n : Int) (s : ByteArray) (hn0 : -1000 ≤ n) (hn1 : n ≤ 1000)
    (ih : ∀ (p : Nat) (w : World), Rdr w g s p → Calls Try.prog 75 #[.pointer (some ⟨g, 0, none⟩), .int .i64 (n - 1)] w (ArrPost s (d + 1) p g w))
    (p : Nat) (w : World) (h : Rdr w g s p) (hbx : w.cell? ⟨bx, 0, none⟩ = some (.pointer (some ⟨g, 0, none⟩))) (hbn : w.cell? ⟨bn, 0, none⟩ = some (.int .i64 n)) :
    Calls Try.prog 99 #[.pointer (some ⟨bx, 0, none⟩), .pointer (some ⟨bn, 0, none⟩)] w (ElPost s (d + 1) p g w) := by
  have HI := Lib.hid ih
  have HR := Lib.hid h
  clear ih h
  go_enter Try.func99, Try.ntmps99
  go_wp2_with fail
  refine (HI.out p w HR.out).mono ?_
  rintro e w1 ⟨hg1, ⟨t, q, v, hn, rfl, hr1, ha1⟩ | ⟨hn, b, rfl⟩⟩
  · have HG1 := Lib.hid hg1
    have HR1 := Lib.hid hr1
    have HN := Lib.hid hn
    have HA := Lib.hid ha1
    clear hg1 hr1 hn ha1
    go_wp2_with fail
    go_ret
    exact ⟨HG1.out, .inl ⟨t, q, v, HN.out, rfl, HR1.out, HA.out⟩⟩
  · have HG1 := Lib.hid hg1
    have HN := Lib.hid hn
    clear hg1 hn
    exact ⟨rfl, HG1.out, .inr ⟨HN.out, _, rfl⟩⟩

set_option maxHeartbeats 400000 in
theorem arrayS (g p d : Nat) (n : Int) (s : ByteArray) (w : World) (h : Rdr w g s p) (hs : s.size ≤ 400) (hn2 : 2 ≤ n) (hn3 : n ≤ 1000)
    (ih : ∀ (p : Nat) (w : World), Rdr w g s p → Calls Try.prog 75 #[.pointer (some ⟨g, 0, none⟩), .int .i64 (n - 1)] w (ArrPost s (d + 1) p g w)) :
    Calls Try.prog 75 #[.pointer (some ⟨g, 0, none⟩), .int .i64 n] w (ArrPost s (d + 2) p g w) := by
  have HI := Lib.hid ih
  have HR := Lib.hid h
  have hgw := h.lt
  clear ih h
  have hmf := makeFunc_run
  have e0 : (n == 0) = false := by rw [beq_eq_false_iff_ne]; omega
  have e1 : (n == 1) = false := by rw [beq_eq_false_iff_ne]; omega
  go_enter Try.func75, Try.ntmps75
  go_wp2_with fail
  clear hmf e0 e1
  refine (parts1_any g p _ _ d s _ ((HR.out.alloc _).alloc _) hs ?_).mono ?_
  · intro p' w' hg' hr'
    refine closure_any g _ _ d n s (by omega) (by omega) HI.out p' w' hr' ?_ ?_
    · exact hg'.cell (cell_two w _ _ _ _).1 (by simp; omega)
    · exact hg'.cell (cell_two w _ _ _ _).2 (by simp; omega)
  rintro e w1 ⟨hg1, ⟨ts, q, sv, xs, hn, rfl, hr1, ho1, ha1⟩ | ⟨hn, b, rfl⟩⟩
  · have HG1 := Lib.hid hg1
    have HR1 := Lib.hid hr1
    have HN := Lib.hid hn
    have HA := Lib.hid (rep_node (d := d + 1) ((World.grownBy_alloc _ _ _).trans (World.grownBy_alloc _ _ _)) hg1 ho1 ha1)
    obtain ⟨A1, m1, c1, rfl⟩ := own_form ho1
    clear hg1 hr1 hn ho1 ha1
    go_wp2_with fail
    go_ret
    exact arr_ok (d := d + 2) (t := ts) HN.out ((((World.grownBy_alloc _ _ _).trans (World.grownBy_alloc _ _ _)).trans HG1.out).trans (World.grownBy_alloc _ _ _)) rfl (HR1.out.alloc _) HA.out
  · have HG1 := Lib.hid hg1
    have HN := Lib.hid hn
    clear hg1 hn
    exact ⟨rfl, arr_fell (d := d + 2) HN.out (((World.grownBy_alloc _ _ _).trans (World.grownBy_alloc _ _ _)).trans HG1.out) ⟨_, rfl⟩⟩

theorem array_any (g : Nat) (s : ByteArray) (hs : s.size ≤ 400) : ∀ (d : Nat) (n : Int) (p : Nat) (w : World), n = d → d ≤ 1000 → Rdr w g s p →
    Calls Try.prog 75 #[.pointer (some ⟨g, 0, none⟩), .int .i64 n] w (ArrPost s d p g w)
  | 0, n, p, w, hn, _, h => by obtain rfl : n = 0 := hn; exact array0 g p s w h hs
  | 1, n, p, w, hn, _, h => by obtain rfl : n = 1 := hn; exact array1 g p s w h hs
  | d + 2, n, p, w, hn, hd, h => arrayS g p d n s w h hs (by omega) (by omega) (fun p w h => array_any g s hs (d + 1) (n - 1) p w (by omega) (by omega) h)
end

/- Nest -/
section
open Go.RowKit

/-- The array of a depth whose text is s. -/
def readN (s : ByteArray) (d : Nat) : Option (T d) := match node s d 0 with
  | none => none
  | some (t, q) => if q = s.size then some t else none

theorem catch_fell (p q : Addr) (b : ByteArray) (x y : Value) (w : World) (hc : w.cell? p = some x) (hz : w.frozen? p = false) (hc2 : w.cell? q = some y) (hz2 : w.frozen? q = false) (hne : p.block ≠ q.block) :
    CallsD Try.prog 74 #[.pointer (some p), .pointer (some q)] (.panicking [{ v := .iface 9 (.string b), recovered := false }]) w fun e u' w' =>
      e = .returned (.tuple #[]) ∧ u' = .panicking [{ v := .iface 9 (.string b), recovered := true }] ∧ w' = (w.setCell p .nilIface).setCell q (.bool false) := by
  have hc3 : (w.setCell p .nilIface).cell? q = some y := (World.cell?_setCell_other w p q .nilIface (fun e => hne (by rw [e]))).trans hc2
  refine callsD_of_wpS Try.func74 rfl fun c₀ cs hu => ?_
  apply wpS_seq
  apply wpS_region
  simp [wpOpsS, go_sem, recoverD, hu, Try.ntmps74, Exit.thenS]
  refine wpS_cond (t := true) (by simp [Act.eval, Array.replicate]) ?_
  simp only [if_true]
  apply wpS_region
  simp [wpOpsS, go_sem, hc, hz, hc3, hz2, bodyPostS, results, Try.results74]

theorem catch_idle (p q : Addr) (w : World) :
    CallsD Try.prog 74 #[.pointer (some p), .pointer (some q)] .returning w fun e u' w' => e = .returned (.tuple #[]) ∧ u' = .returning ∧ w' = w := by
  refine callsD_of_wpS Try.func74 rfl fun c₀ cs hu => ?_
  apply wpS_seq
  apply wpS_region
  simp [wpOpsS, go_sem, recoverD, hu, Try.ntmps74, Exit.thenS]
  refine wpS_cond (t := false) (by simp [Act.eval, Array.replicate]) ?_
  simp only [Bool.false_eq_true, if_false]
  refine wpS_of_wp (wp_skip ?_)
  cases c₀
  simp_all [bodyPostS, results, Try.results74]

/-- How readNested ends without an array. -/
def NestNo (w : World) (e : Ending) (w' : World) : Prop := e = .returned (.tuple #[.nilIface, .bool false]) ∧ w.grownBy w' none

set_option maxHeartbeats 400000 in
theorem nest_out (n : Int) (s : ByteArray) (w : World) (h : n < 0 ∨ 3 < n ∨ 400 < s.size) :
    Calls Try.prog 39 #[.string s, .int .i64 n] w (NestNo w) := by
  have hmf := makeFunc_run
  go_enter_defers Try.func39, Try.ntmps39
  go_wp2_with fail
  all_goals
    refine leaves_cons (f := 74) (args := #[.pointer (some ⟨w.heap.size, 0, none⟩), .pointer (some ⟨w.heap.size + 1, 0, none⟩)]) (by simp) (by simp [go_sem]) ?_
    refine (catch_idle _ _ _).mono ?_
    rintro e u' w'' ⟨rfl, rfl, rfl⟩
    simp [Leaves, settle, results, Try.results39, go_sem]
    exact ⟨rfl, (World.grownBy_alloc _ _ _).trans (World.grownBy_alloc _ _ _)⟩

/-- How readNested ends with an array. -/
def NestYes (d : Nat) (t : T d) (w : World) (e : Ending) (w' : World) : Prop :=
  ∃ v, e = .returned (.tuple #[v, .bool true]) ∧ w.grownBy w' none ∧ RepI w' (fun b => w.heap.size ≤ b) d t v
def NestPost (s : ByteArray) (d : Nat) (w : World) (e : Ending) (w' : World) : Prop := match readN s d with
  | some t => NestYes d t w e w'
  | none => NestNo w e w'

theorem frozen_grown {w w' : World} {row : Option Nat} (h : w.grownBy w' row) {b i : Nat} (hb : b < w.heap.size) (hne : some b ≠ row) (hf : w.frozen? ⟨b, i, none⟩ = false) : w'.frozen? ⟨b, i, none⟩ = false :=
  (World.frozen?_of_block (w := w) (a := ⟨b, i, none⟩) (h.block b hb hne)).trans hf

theorem rdr_new {w : World} {k : Nat} (s : ByteArray) (hk : w.heap.size = k) : Rdr (w.alloc (.cells #[.string s, .int .i64 0] 107)) k s 0 := by
  subst hk
  exact heap_alloc_new _ _

theorem nestPost_no {s : ByteArray} {d : Nat} {w w' : World} {e : Ending} (hr : readN s d = none) (he : e = .returned (.tuple #[.nilIface, .bool false])) (hg : w.grownBy w' none) : NestPost s d w e w' := by
  unfold NestPost
  rw [hr]
  exact ⟨he, hg⟩
theorem nestPost_yes {s : ByteArray} {d : Nat} {t : T d} {v : Value} {w w' : World} {e : Ending} (hr : readN s d = some t) (he : e = .returned (.tuple #[v, .bool true])) (hg : w.grownBy w' none) (ha : RepI w' (fun b => w.heap.size ≤ b) d t v) : NestPost s d w e w' := by
  unfold NestPost
  rw [hr]
  exact ⟨v, he, hg, ha⟩
theorem gr_set_new {w w1 : World} {g i : Nat} (h : w.grownBy w1 none) (hg : w.heap.size ≤ g) (u : Value) : w.grownBy (w1.setCell ⟨g, i, none⟩ u) none := gr_new h (gr_set w1 g i u) hg
theorem RepI.iface {w : World} {S : Nat → Prop} : ∀ {d : Nat} {t : T d} {v : Value}, RepI w S d t v → ∃ ty pv, v = .iface ty pv
  | 0, _, _, h => ⟨_, _, h⟩
  | _ + 1, _, _, h => Nd.iface h

/-- The blocks that readNested makes first: the two results and the reader. -/
structure Three (w w3 : World) : Prop where
  gr : w.grownBy w3 none
  size : w3.heap.size = w.heap.size + 3
  c0 : w3.cell? ⟨w.heap.size, 0, none⟩ = some .nilIface
  f0 : w3.frozen? ⟨w.heap.size, 0, none⟩ = false
  c1 : w3.cell? ⟨w.heap.size + 1, 0, none⟩ = some (.bool false)
  f1 : w3.frozen? ⟨w.heap.size + 1, 0, none⟩ = false
theorem three (w : World) (s : ByteArray) : Three w (((w.alloc (.cells #[.nilIface] 64)).alloc (.cells #[.bool false] 4)).alloc (.cells #[.string s, .int .i64 0] 107)) := by
  have h := cell_two w .nilIface (.bool false) 64 4
  refine ⟨(World.grownBy_alloc _ _ _).trans ((World.grownBy_alloc _ _ _).trans (World.grownBy_alloc _ _ _)), by simp, ?_, ?_, ?_, ?_⟩
  · rw [World.cell?_alloc_lt _ _ _ (by simp; omega)]; exact h.1
  · simp [go_sem]
  · rw [World.cell?_alloc_lt _ _ _ (by simp)]; exact h.2
  · simp [go_sem]

set_option maxHeartbeats 1000000 in
theorem nest_in (n : Int) (d : Nat) (s : ByteArray) (w : World) (hnd : n = d) (h0 : 0 ≤ n) (h3 : n ≤ 3) (hs : s.size ≤ 400) :
    Calls Try.prog 39 #[.string s, .int .i64 n] w (NestPost s d w) := by
  have hmf := makeFunc_run
  have HND := Lib.hid hnd
  have hd3 : d ≤ 3 := by omega
  clear hnd
  go_enter_defers Try.func39, Try.ntmps39
  go_wp2_with fail
  clear hmf
  refine (array_any _ s hs d n 0 _ HND.out (by omega) (rdr_new s (by simp))).mono ?_
  have H3 := Lib.hid (three w s)
  generalize ((w.alloc (.cells #[.nilIface] 64)).alloc (.cells #[.bool false] 4)).alloc (.cells #[.string s, .int .i64 0] 107) = w3 at H3
  rintro e w4 ⟨hg4, ⟨t, q, v, hn, rfl, hr4, ha4⟩ | ⟨hn, b, rfl⟩⟩
  · have hs3 := H3.out.size
    have hc0 := hg4.cell H3.out.c0 (by simp; omega)
    have hf0 := frozen_grown hg4 (by omega) (by simp; omega) H3.out.f0
    have hc1 := hg4.cell H3.out.c1 (by simp)
    have hf1 := frozen_grown hg4 (by omega) (by simp) H3.out.f1
    have HG4 := Lib.hid hg4
    have HN := Lib.hid hn
    have HR4 := Lib.hid hr4
    have HA4 := Lib.hid ha4
    have hz4 := hg4.size
    have hqs := node_ge s d 0 t q hn
    obtain ⟨ty, pv, rfl⟩ := ha4.iface
    clear hg4 hn hr4 ha4
    go_wp2_with fail
    have HR5 := Lib.hid (HR4.out.grown (gr_set w4 w.heap.size 0 (.iface ty pv)) (by simp; omega))
    by_cases hend : q = s.size
    · refine (end_yes _ q s _ HR5.out (by omega)).mono ?_
      rintro e w6 ⟨rfl, n6, rfl⟩
      have HE := Lib.hid hend
      clear hend
      go_wp2_with fail
      refine leaves_cons (f := 74) (args := #[.pointer (some ⟨w.heap.size, 0, none⟩), .pointer (some ⟨w.heap.size + 1, 0, none⟩)]) (by simp) (by simp [go_sem]) ?_
      refine (catch_idle _ _ _).mono ?_
      rintro e u' w'' ⟨rfl, rfl, rfl⟩
      simp [Leaves, settle, results, Try.results39, go_sem, hc0, hc1]
      have hr : readN s d = some t := by rw [readN, HN.out]; exact if_pos HE.out
      have hg0 := gr_new H3.out.gr HG4.out (by omega)
      have hg1 : w.grownBy ((w4.setCell ⟨w.heap.size, 0, none⟩ (.iface ty pv)).drewN n6) none := (gr_set_new hg0 (by omega) (.iface ty pv)).trans (gr_drewN _ n6 none)
      refine nestPost_yes hr rfl (gr_set_new (gr_set_new hg1 (by omega) _) (by omega) _) (RepI.keep ?_ ?_ d t _ HA4.out)
      · intro b hb _
        rw [Below.heap_setCell _ _ _ _ (by simp; omega), Below.heap_setCell _ _ _ _ (by simp; omega)]
        exact Below.heap_setCell _ _ _ _ (by simp; omega)
      · intro b hb _
        omega
    · refine (end_no _ q s _ HR5.out (by omega)).mono ?_
      rintro e w6 ⟨⟨b, rfl⟩, hg6⟩
      have hr : readN s d = none := by rw [readN, HN.out]; exact if_neg hend
      have HR := Lib.hid hr
      have hb0 : ((w4.setCell ⟨w.heap.size, 0, none⟩ (.iface ty pv)).cell? ⟨w.heap.size, 0, none⟩) = some (.iface ty pv) := by simp [go_sem, hc0]
      have hg5 := gr_set w4 w.heap.size 0 (.iface ty pv)
      have hb1 := hg5.cell hc1 (by simp)
      have hbf0 := (by simpa [go_sem] using hf0 : (w4.setCell ⟨w.heap.size, 0, none⟩ (.iface ty pv)).frozen? ⟨w.heap.size, 0, none⟩ = false)
      have hbf1 := frozen_grown hg5 (by omega) (by simp) hf1
      have hd0 := hg6.cell hb0 (by simp; omega)
      have hd1 := hg6.cell hb1 (by simp)
      have hdf0 := frozen_grown hg6 (by simp; omega) (by simp; omega) hbf0
      have hdf1 := frozen_grown hg6 (by simp; omega) (by simp) hbf1
      have HG := Lib.hid (gr_new (gr_set_new (gr_new H3.out.gr HG4.out (by omega)) (by omega) (.iface ty pv)) hg6 (by omega))
      clear hr hb0 hg5 hb1 hbf0 hbf1 hg6 hc0 hc1 hf0 hf1
      refine leaves_cons (f := 74) (args := #[.pointer (some ⟨w.heap.size, 0, none⟩), .pointer (some ⟨w.heap.size + 1, 0, none⟩)]) (by simp) (by simp [go_sem]) ?_
      refine (catch_fell _ _ b _ _ _ hd0 hdf0 hd1 hdf1 (by simp)).mono ?_
      rintro e u' w'' ⟨rfl, rfl, rfl⟩
      simp [Leaves, settle, results, Try.results39, go_sem, hd0, hd1]
      exact nestPost_no HR.out rfl (gr_set_new (gr_set_new HG.out (by omega) _) (by omega) _)
  · have hs3 := H3.out.size
    have hc0 := hg4.cell H3.out.c0 (by simp; omega)
    have hf0 := frozen_grown hg4 (by omega) (by simp; omega) H3.out.f0
    have hc1 := hg4.cell H3.out.c1 (by simp)
    have hf1 := frozen_grown hg4 (by omega) (by simp) H3.out.f1
    have hr : readN s d = none := by rw [readN, hn]
    have HR := Lib.hid hr
    have HG := Lib.hid (gr_new H3.out.gr hg4 (by omega))
    clear hr hn hg4
    refine leaves_cons (f := 74) (args := #[.pointer (some ⟨w.heap.size, 0, none⟩), .pointer (some ⟨w.heap.size + 1, 0, none⟩)]) (by simp) (by simp [go_sem]) ?_
    refine (catch_fell _ _ b _ _ _ hc0 hf0 hc1 hf1 (by simp)).mono ?_
    rintro e u' w'' ⟨rfl, rfl, rfl⟩
    simp [Leaves, settle, results, Try.results39, go_sem, hc0, hc1]
    exact nestPost_no HR.out rfl (gr_set_new (gr_set_new HG.out (by omega) _) (by omega) _)
end

/- LayRd -/
section
open Go.RowKit

theorem readN_text {s : ByteArray} {d : Nat} {t : T d} (h : readN s d = some t) : s.data.toList = text d t := by
  unfold readN at h
  split at h
  · cases h
  · rename_i t' q hn
    split at h
    · rename_i hq
      cases h
      have := sub_node s d 0 _ q hn
      rw [hq, sub_all] at this
      exact this
    · cases h
theorem readN_short {s : ByteArray} {d : Nat} {t : T d} (h : readN s d = some t) (hs : s.size ≤ 400) : (text d t).length ≤ 1000000 := by
  rw [← readN_text h, Array.length_toList]
  have : s.data.size = s.size := rfl
  omega

theorem gr_below {w u w' : World} (h : w.grownBy u none) (hb : Below w.heap.size u w') : w.grownBy w' none :=
  ⟨hb.os.trans h.os, hb.tape.trans h.tape, hb.output.trans h.output, Nat.le_trans h.size hb.size, fun k hk hne => (hb.block k hk).trans (h.block k hk hne)⟩

theorem LaidAt.reads {w : World} {base g c : Nat} {dv : Value} {LL : List (List Int)} {D : List Int} (h : LaidAt w base g c dv LL D) :
    (∃ A8 c8, dv = .slice A8 D.length c8 ∧ Ints w A8 D ∧ D.length ≤ c8 ∧ (A8 = none → c8 = 0)) ∧ Rws w (some ⟨g, 0, none⟩) LL ∧
    ∀ (w' : World) (j : Nat) (L : List Int), w.grownBy w' none → LL[j]? = some L → ∀ b off, some (⟨g, 0, none⟩ : Addr) = some ⟨b, off, none⟩ → ∃ Aj cj, w'.cell? ⟨b, off + j, none⟩ = some (.slice Aj L.length cj) ∧ Ints w' Aj L ∧ (Aj = none → cj = 0) ∧ L.length ≤ cj := by
  obtain ⟨vs, ho, hr⟩ := h
  have hlen : vs.length = LL.length := by have := ho.1; omega
  have hrow : ∀ (i : Nat) (L : List Int), LL[i]? = some L → ∃ v, vs[i]? = some v ∧ w.ownsRow base 3 1 v L.length (L.map (Value.int .i64)) := fun i L hL => by
    have hi := (List.getElem?_eq_some_iff.1 hL).1
    exact ⟨vs[i], List.getElem?_eq_getElem (by omega), hr.2.1 i vs[i] L (by rw [List.getElem?_append_left (by omega)]; exact List.getElem?_eq_getElem (by omega)) (by rw [List.getElem?_append_left hi]; exact hL)⟩
  refine ⟨?_, ?_, ?_⟩
  · have hd := hr.2.1 vs.length dv D (by simp) (by rw [hlen]; simp)
    obtain ⟨A8, m8, c8, rfl⟩ := own_form hd
    obtain ⟨h1, h2, h3, h4⟩ := row_reads hd
    subst h1
    exact ⟨A8, c8, rfl, h2, h3, h4⟩
  · refine rws_own ho (fun i L hL => ?_)
    obtain ⟨v, hv, hov⟩ := hrow i L hL
    obtain ⟨A8, m8, c8, rfl⟩ := own_form hov
    obtain ⟨h1, h2, h3, h4⟩ := row_reads hov
    subst h1
    exact ⟨_, hv, A8, c8, rfl, h3, fun _ => hov⟩
  · intro w' j L hg hL b off hbo
    cases hbo
    obtain ⟨v, hv, hov⟩ := hrow j L hL
    obtain ⟨A8, m8, c8, rfl⟩ := own_form hov
    obtain ⟨h1, h2, h3, h4⟩ := row_reads hov
    subst h1
    have hc := ho.cells (g := g) rfl j _ hv
    rw [addr_flat] at hc
    exact ⟨A8, c8, hg.cell hc (by simp), h2.grown hg (by simp), h4, h3⟩
end

/- OwnM -/
section
open Go.RowKit

/-- One row more, copied, behind those of a list that is being made. -/
theorem ownss_step {w wr w5 w8 : World} {j cap m8 : Nat} {Ax A8 : Option Addr} {cx : Nat} {x : Value} {vs : List Value} {LL : List (List Int)} {L : List Int}
    (how : wr.ownsRow w.heap.size 23 1 (.slice Ax j cx) j vs) (hf : Fam wr w.heap.size j vs LL) (hg5 : wr.grownBy w5 none)
    (ho5 : w5.ownsRow wr.heap.size 3 1 x L.length (L.map (Value.int .i64))) (hL : LL[j]? = some L) (hg8 : (w5.alloc (.cells #[x] 23)).grownBy w8 (Value.slice Ax j cx).ownBlock)
    (ho8 : w8.ownsRow w.heap.size 23 1 (.slice A8 m8 cap) (j + 1) (vs ++ [x])) (hgr : w.grownBy wr none) :
    (∃ vs, w8.ownsRow w.heap.size 23 1 (.slice A8 m8 cap) (j + 1) vs ∧ Fam w8 w.heap.size (j + 1) vs LL) ∧ w.grownBy w8 none := by
  have hg6 : wr.grownBy (w5.alloc (.cells #[x] 23)) none := hg5.trans (World.grownBy_alloc _ _ _)
  have how6 := how.kept hg6 (by cases hv : (Value.slice Ax j cx).ownBlock <;> simp)
  have hx6 := ho5.alloc (.cells #[x] 23)
  have hx8 := own_aside hx6 how6 (by decide) hg8
  have hf8 := (hf.grown hg6).aside how6 hg8
  have hvl : vs.length = j := by have := how.1; omega
  refine ⟨⟨_, ho8, ?_⟩, gr_ownF (hgr.trans hg6) hg8 (fun k hk => (how.lt k hk).1)⟩
  obtain ⟨A5, q5, c5, rfl⟩ := own_form ho5
  have hq5 := own_len2 ho5
  subst hq5
  have hc5 : L.length ≤ c5 := by
    rcases ho5.2 with ⟨hv, hn⟩ | ⟨g, cap, cur, hv, _, _, hnc, _⟩
    · simp only [Value.slice.injEq] at hv; omega
    · simp only [Value.slice.injEq] at hv; omega
  refine Fam.more (lo := wr.heap.size) hf8 hL (by rw [← hvl]; simp) (fun i hi => List.getElem?_append_left (by omega)) ⟨A5, c5, rfl, hc5, fun _ => own_base hx8 hgr.size⟩ (fun g _ hg => (ho5.lt g hg).1) ?_
  intro i M v g hi hM hv hl hg
  exact (hf.lt hi hM hv hl hg).2

set_option maxRecDepth 100000 in
set_option maxHeartbeats 4000000 in
theorem ownss_any (A : Option Addr) (c : Nat) (LL : List (List Int)) (w : World) (h : Rws w A LL) (hn : LL.length ≤ 1099511627776) (hm : ∀ M ∈ LL, M.length ≤ 1099511627776) 
    (hcl : ∀ (w' : World) (j : Nat) (L : List Int), w.grownBy w' none → LL[j]? = some L → ∀ b off, A = some ⟨b, off, none⟩ → ∃ Aj cj, w'.cell? ⟨b, off + j, none⟩ = some (.slice Aj L.length cj) ∧ Ints w' Aj L ∧ (Aj = none → cj = 0) ∧ L.length ≤ cj) :
    Calls Try.prog 73 #[.slice A LL.length c] w fun e w' => ∃ A' c', e = .returned (.slice A' LL.length c') ∧ w.grownBy w' none ∧ LL.length ≤ c' ∧ ∃ vs, w'.ownsRow w.heap.size 23 1 (.slice A' LL.length c') LL.length vs ∧ Fam w' w.heap.size LL.length vs LL := by
  obtain ⟨i0, hi0, hz0, hz1, hz2⟩ := info_parts infoL
  obtain ⟨j0, hj0, hy0, hy1, hy2⟩ := info_parts infoJ
  have H := Lib.hid h
  have HCL := Lib.hid hcl
  have HM := Lib.hid hm
  obtain ⟨n, hnn⟩ : ∃ n, LL.length = n := ⟨_, rfl⟩
  have HN := Lib.hid hnn
  rw [hnn] at hn ⊢
  clear h hcl hm hnn
  have HO := Lib.hid (World.ownsRow_made (base := w.heap.size) (e := 23) (size := 1) w #[] 0 (Nat.le_refl _) (by simp) (by simp))
  go_enter Try.func73, Try.ntmps73
  go_wp2_with fail
  go_loopw [9, 3] (fun i u wr => ∃ (j : Nat) (Ax : Option Addr) (cx : Nat), j ≤ n ∧ i = .int .i64 j ∧ u = .slice Ax j cx ∧ Hid (∃ vs, wr.ownsRow w.heap.size 23 1 (.slice Ax j cx) j vs ∧ Fam wr w.heap.size j vs LL) ∧ Hid (w.grownBy wr none)) (fun i _ _ => n - (intOf i).toNat)
  case atStart => exact ⟨0, _, _, Nat.zero_le _, rfl, rfl, Lib.hid ⟨[], HO.out, Fam.zero _ _ _ _⟩, Lib.hid (World.grownBy_alloc _ _ _)⟩
  case round =>
    obtain ⟨j, Ax, cx, hj, rfl, rfl, hst, hgr⟩ := hrel
    obtain ⟨vs, how, hf⟩ := hst.out
    by_cases hlt : j < n
    · obtain ⟨L, hL⟩ : ∃ L, LL[j]? = some L := ⟨_, List.getElem?_eq_getElem (by have := HN.out; omega)⟩
      obtain ⟨b, off, rfl, _, _⟩ := H.out (by have := HN.out; omega)
      obtain ⟨Aj, cj, hcell, hij, hnj, hcj⟩ := HCL.out wr j L hgr.out hL b off rfl
      have hll := HM.out L (List.mem_of_getElem? hL)
      have HLL := Lib.hid hL
      have HIJ := Lib.hid hij
      obtain ⟨q, hq⟩ : ∃ q, L.length = q := ⟨_, rfl⟩
      rw [hq] at hcell hll hcj
      have HQ := Lib.hid hq
      have HOW := Lib.hid how
      have HF := Lib.hid hf
      clear hij hL hq how hf
      cases Aj with
      | none =>
        have h0 := hnj rfl
        subst h0
        have hq0 : q = 0 := by omega
        have HQ0 := Lib.hid hq0
        subst hq0
        clear hnj hcj
        have ho5 : (wr.alloc (.cells #[] 3)).ownsRow wr.heap.size 3 1 (.slice (some ⟨wr.heap.size, 0, none⟩) 0 0) 0 [] := World.ownsRow_made (base := wr.heap.size) (e := 3) (size := 1) wr #[] 0 (Nat.le_refl _) (by simp) (by simp)
        have HO5 := Lib.hid ho5
        clear ho5
        have wg := World.grownBy_alloc wr (.cells #[] 3) none
        have hs5 := hgr.out.size
        have own6 := (HOW.out.kept wg (by cases hv : (Value.slice Ax j cx).ownBlock <;> simp)).alloc (.cells #[(.slice (some ⟨wr.heap.size, 0, none⟩) 0 0)] 23)
        go_wp2_with (at_builtin; refine wpList_append_own_at _ rfl _ _ 22 rfl w.heap.size 23 i0 (.slice none 0 0) 1 24 Try.underlying22 hi0 hz0 hz1 hz2 rfl (by decide) _ _ _ rfl own6 ⟨wr.heap.size + 1, 0, none⟩ 1 1 [(.slice (some ⟨wr.heap.size, 0, none⟩) 0 0)] rfl rfl ?d1 ?d2 ?d3 ?d4 ?d5 ?_)
        case d2 => simp [Value.oneCell']
        case d3 => simp only [maxLen]; omega
        case d4 => omega
        case d5 => first | omega | (simp; omega)
        intro v8 w8 hown8 hg8 _ _
        obtain ⟨A8, m8, c8, rfl⟩ := own_form hown8
        have hm8 := own_len2 hown8
        have hst8 := ownss_step HOW.out HF.out wg (by rw [HQ.out, List.eq_nil_of_length_eq_zero HQ.out]; exact HO5.out) HLL.out hg8 hown8 hgr.out
        have HST8 := Lib.hid hst8
        subst hm8
        clear hst8 hown8 hg8 own6
        go_wp2_with fail
        go_roundw
        case rel => exact ⟨j + 1, _, _, by omega, by go_num, rfl, Lib.hid HST8.out.1, Lib.hid HST8.out.2⟩
        case measure => simp [intOf]; omega
      | some aj =>
        have own1 : (wr.alloc (.cells #[] 3)).ownsRow wr.heap.size 3 1 (.slice (some ⟨wr.heap.size, 0, none⟩) 0 0) 0 [] := World.ownsRow_made (base := wr.heap.size) (e := 3) (size := 1) wr #[] 0 (Nat.le_refl _) (by simp) (by simp)
        go_wp2_with (at_builtin; refine wpList_append_own_at _ rfl _ _ 23 rfl wr.heap.size 3 j0 (.int .i64 0) 1 8 Try.underlying23 hj0 hy0 hy1 hy2 rfl (by decide) _ _ _ rfl own1 aj q cj (L.map (Value.int .i64)) rfl ?c1 ?c0 ?c2 ?c3 ?c4 ?c5 ?_)
        case c1 => simp; exact HQ.out
        case c0 =>
          intro i u hu
          rw [List.getElem?_map] at hu
          obtain ⟨z, hz, rfl⟩ := Option.map_eq_some_iff.1 hu
          have hi := (List.getElem?_eq_some_iff.1 hz).1
          obtain ⟨b2, off2, ha, _, hc⟩ := (HIJ.out.grown (World.grownBy_alloc wr (.cells #[] 3) none) (by simp)) (by omega)
          cases ha
          rw [addr_flat]
          exact hc i z hz
        case c2 => intro u hu; obtain ⟨z, _, rfl⟩ := List.mem_map.1 hu; rfl
        case c3 => simp only [maxLen]; omega
        case c4 => omega
        case c5 => simp
        intro v5 w5 hown5 hg5 _ _
        obtain ⟨A5, m5, c5, rfl⟩ := own_form hown5
        have hm5 := own_len2 hown5
        have wg := gr_ownF (World.grownBy_alloc wr (.cells #[] 3) none) hg5 (fun k hk => by cases hk; exact Nat.le_refl _)
        have HO5 := Lib.hid hown5
        have hs5 := Nat.le_trans hgr.out.size wg.size
        clear hown5 hg5 own1 hm5 hnj hcj
        have own6 := (HOW.out.kept wg (by cases hv : (Value.slice Ax j cx).ownBlock <;> simp)).alloc (.cells #[(.slice A5 m5 c5)] 23)
        go_wp2_with (at_builtin; refine wpList_append_own_at _ rfl _ _ 22 rfl w.heap.size 23 i0 (.slice none 0 0) 1 24 Try.underlying22 hi0 hz0 hz1 hz2 rfl (by decide) _ _ _ rfl own6 ⟨w5.heap.size, 0, none⟩ 1 1 [(.slice A5 m5 c5)] rfl rfl ?f1 ?f2 ?f3 ?f4 ?f5 ?_)
        case f1 => exact cell_one_new _ _ _
        case f2 => simp [Value.oneCell']
        case f3 => simp only [maxLen]; omega
        case f4 => omega
        case f5 => first | omega | (simp; omega)
        intro v8 w8 hown8 hg8 _ _
        obtain ⟨A8, m8, c8, rfl⟩ := own_form hown8
        have hm8 := own_len2 hown8
        have hst8 := ownss_step HOW.out HF.out wg (by rw [HQ.out]; exact HO5.out) HLL.out hg8 hown8 hgr.out
        have HST8 := Lib.hid hst8
        subst hm8
        clear hst8 hown8 hg8 own6
        go_wp2_with fail
        go_roundw
        case rel => exact ⟨j + 1, _, _, by omega, by go_num, rfl, Lib.hid HST8.out.1, Lib.hid HST8.out.2⟩
        case measure => simp [intOf]; omega
    · have hjn : j = n := by omega
      have HJ := Lib.hid hjn
      have HOW := Lib.hid how
      have HF := Lib.hid hf
      clear hjn how hf
      go_wp2_with fail
      go_ret
      have how := HOW.out
      have hcx : j ≤ cx := by
        rcases how.2 with ⟨hv, hn⟩ | ⟨g, cap, cur, hv, _, _, hnc, _⟩
        · omega
        · simp only [Value.slice.injEq] at hv; omega
      have hjn : j = n := HJ.out
      subst hjn
      exact ⟨Ax, cx, rfl, hgr.out, hcx, vs, how, HF.out⟩
end

/- RawM -/
section
open Go.RowKit

/-- A layout to be copied: its cells, and slices that are nil have no room. -/
def LytC (w : World) (v : Value) (LL : List (List Int)) (D : List Int) : Prop :=
  ∃ A c B d, v = .agg #[.slice A LL.length c, .slice B D.length d] ∧ LL.length ≤ c ∧ D.length ≤ d ∧ Rws w A LL ∧ Ints w B D ∧ (B = none → d = 0) ∧
    ∀ (w' : World) (j : Nat) (L : List Int), w.grownBy w' none → LL[j]? = some L → ∀ b off, A = some ⟨b, off, none⟩ → ∃ Aj cj, w'.cell? ⟨b, off + j, none⟩ = some (.slice Aj L.length cj) ∧ Ints w' Aj L ∧ (Aj = none → cj = 0) ∧ L.length ≤ cj
theorem LytC.grown {w w' : World} {v : Value} {LL : List (List Int)} {D : List Int} (h : LytC w v LL D) (hg : w.grownBy w' none) : LytC w' v LL D := by
  obtain ⟨A, c, B, d, rfl, h1, h2, h3, h4, h5, h6⟩ := h
  exact ⟨A, c, B, d, rfl, h1, h2, h3.grown hg, h4.grown hg (by simp), h5, fun w2 j L h => h6 w2 j L (hg.trans h)⟩
theorem LytC.zero (w : World) : LytC w (.agg #[.slice none 0 0, .slice none 0 0]) [] [] :=
  ⟨none, 0, none, 0, rfl, Nat.le_refl _, Nat.le_refl _, fun h => by simp at h, fun h => by simp at h, fun _ => rfl, fun _ _ _ _ h => by simp at h⟩

/-- What an own copy of a list of ints is: 'append([]int{}, list...)'. -/
theorem copy_row {w w8 : World} {A : Option Addr} {m8 c8 q : Nat} {zs : List Int} (h : w8.ownsRow w.heap.size 3 1 (.slice A m8 c8) q (zs.map (Value.int .i64))) (hq : zs.length = q) : m8 = q ∧ Ints w8 A zs ∧ q ≤ c8 := by
  subst hq
  obtain ⟨h1, h2, h3, _⟩ := row_reads h
  exact ⟨h1, h2, h3⟩

set_option maxRecDepth 100000 in
set_option maxHeartbeats 4000000 in
theorem ownl_any (v : Value) (LL : List (List Int)) (D : List Int) (w : World) (h : LytC w v LL D) (hn : LL.length ≤ 1099511627776) (hm : ∀ M ∈ LL, M.length ≤ 1099511627776) (hd : D.length ≤ 1099511627776) :
    Calls Try.prog 38 #[v] w fun e w' => ∃ u, e = .returned u ∧ w.grownBy w' none ∧ OwnLyt w' w.heap.size u LL D := by
  obtain ⟨A, c, B, d, rfl, h1, h2, h3, h4, h5, h6⟩ := h
  obtain ⟨j0, hj0, hy0, hy1, hy2⟩ := info_parts infoJ
  have HS := Lib.hid (fun u (hg : w.grownBy u none) => ownss_any A c LL u (h3.grown hg) hn hm (fun w2 j L h => h6 w2 j L (hg.trans h)))
  have HD := Lib.hid h4
  obtain ⟨n, hnn⟩ : ∃ n, LL.length = n := ⟨_, rfl⟩
  obtain ⟨m, hmm⟩ : ∃ m, D.length = m := ⟨_, rfl⟩
  have HN := Lib.hid hnn
  have HM := Lib.hid hmm
  rw [hnn] at HS hn
  rw [hmm] at hd h2
  rw [hnn, hmm]
  clear h1 h3 h4 h6 hm hnn hmm
  have HG0 := Lib.hid ((World.grownBy_alloc w (.cells #[.slice A n c, .slice B m d] 25) none).trans (World.grownBy_alloc _ (.cells #[.slice none 0 0, .slice none 0 0] 25) none))
  have P0 := (Pr.new w 25 (.slice A n c) (.slice B m d)).alloc (.cells #[.slice none 0 0, .slice none 0 0] 25)
  have P1 := Pr.new (w.alloc (.cells #[.slice A n c, .slice B m d] 25)) 25 (.slice none 0 0) (.slice none 0 0)
  rw [sz_alloc] at P1
  have HP0 := Lib.hid P0
  have HP1 := Lib.hid P1
  clear P0 P1
  go_enter Try.func38, Try.ntmps38
  go_wp2_with fail
  generalize (w.alloc (.cells #[.slice A n c, .slice B m d] 25)).alloc (.cells #[.slice none 0 0, .slice none 0 0] 25) = u0 at HG0 HP0 HP1 ⊢
  refine (HS.out _ HG0.out).mono ?_
  rintro e w1 ⟨A1, c1, rfl, hg1, hc1, vs, ho1, hf1⟩
  have Q0 := HP0.out.grown hg1 (by simp)
  have Q1 := HP1.out.grown hg1 (by simp)
  have hs := gr_set w1 w.heap.size 0 (.slice A1 n c1)
  have hgw := gr_ownF (HG0.out.trans hg1) hs (fun k hk => by cases hk; exact Nat.le_refl _)
  have HG2 := Lib.hid hgw
  have HOW := Lib.hid (own_box ho1 Q0 (by decide) hs)
  have HF := Lib.hid (hf1.box Q0 (by decide) hs)
  have HQ0 := Lib.hid (Q0.set0 (.slice A1 n c1))
  have HQ1 := Lib.hid (Q1.grown hs (by simp))
  have q0 := Q0.c0
  have q1 := Q0.c1
  have q2 := Q0.f 0
  have HCC := Lib.hid hc1
  clear hg1 ho1 hf1 hs hgw Q0 Q1 hc1
  go_upto_region 2 with fail
  clear q0 q1 q2
  generalize w1.setCell ⟨w.heap.size, 0, none⟩ (.slice A1 n c1) = w2 at HG2 HOW HF HQ0 HQ1 ⊢
  have own1 : (w2.alloc (.cells #[] 3)).ownsRow w2.heap.size 3 1 (.slice (some ⟨w2.heap.size, 0, none⟩) 0 0) 0 [] := World.ownsRow_made (base := w2.heap.size) (e := 3) (size := 1) w2 #[] 0 (Nat.le_refl _) (by simp) (by simp)
  -- what is left, once the copy of the data lies in a new row
  have FIN : ∀ (w5 : World) (A5 : Option Addr) (m5 c5 : Nat), w2.grownBy w5 none → w5.ownsRow w2.heap.size 3 1 (.slice A5 m5 c5) m (D.map (Value.int .i64)) →
      Pr w5 w.heap.size 25 (.slice A1 n c1) (.slice B m d) ∧ Pr w5 (w.heap.size + 1) 25 (.slice none 0 0) (.slice none 0 0) ∧
      Pr (((w5.setCell ⟨w.heap.size, 1, none⟩ (.slice A5 m5 c5)).setCell ⟨w.heap.size + 1, 0, none⟩ (.slice A1 n c1)).setCell ⟨w.heap.size + 1, 1, none⟩ (.slice A5 m5 c5)) (w.heap.size + 1) 25 (.slice A1 n c1) (.slice A5 m5 c5) ∧
      (∃ u, u = Value.agg #[.slice A1 n c1, .slice A5 m5 c5] ∧ w.grownBy (((w5.setCell ⟨w.heap.size, 1, none⟩ (.slice A5 m5 c5)).setCell ⟨w.heap.size + 1, 0, none⟩ (.slice A1 n c1)).setCell ⟨w.heap.size + 1, 1, none⟩ (.slice A5 m5 c5)) none ∧
        OwnLyt (((w5.setCell ⟨w.heap.size, 1, none⟩ (.slice A5 m5 c5)).setCell ⟨w.heap.size + 1, 0, none⟩ (.slice A1 n c1)).setCell ⟨w.heap.size + 1, 1, none⟩ (.slice A5 m5 c5)) w.heap.size u LL D) := by
    intro w5 A5 m5 c5 hg5 ho5
    have R0 := HQ0.out.grown hg5 (by simp)
    have R1 := HQ1.out.grown hg5 (by simp)
    have how5 := HOW.out.kept hg5 (by cases hv : (Value.slice A1 n c1).ownBlock <;> simp)
    have hf5 := HF.out.grown hg5
    have s1 := gr_set w5 w.heap.size 1 (.slice A5 m5 c5)
    have how6 := own_box how5 R0 (by decide) s1
    have hf6 := hf5.box R0 (by decide) s1
    have ho6 := own_box ho5 R0 (by decide) s1
    have R2 := R1.grown s1 (by simp)
    have s2 := (gr_set (w5.setCell ⟨w.heap.size, 1, none⟩ (.slice A5 m5 c5)) (w.heap.size + 1) 0 (.slice A1 n c1)).trans (gr_set ((w5.setCell ⟨w.heap.size, 1, none⟩ (.slice A5 m5 c5)).setCell ⟨w.heap.size + 1, 0, none⟩ (.slice A1 n c1)) (w.heap.size + 1) 1 (.slice A5 m5 c5))
    have how7 := own_box how6 R2 (by decide) s2
    have hf7 := hf6.box R2 (by decide) s2
    have ho7 := own_box ho6 R2 (by decide) s2
    obtain ⟨hm5, hi5, hc5⟩ := copy_row (w := w2) ho7 HM.out
    refine ⟨R0, R1, (R2.set0 _).set1 _, _, rfl, gr_ownF (gr_ownF (HG2.out.trans hg5) s1 (fun k hk => by cases hk; exact Nat.le_refl _)) s2 (fun k hk => by cases hk; omega), A1, c1, .slice A5 m5 c5, vs, by rw [HN.out], by rw [HN.out]; exact HCC.out, by rw [HN.out]; exact own_base how7 HG0.out.size, ?_⟩
    have hvl : vs.length = LL.length := by have := how7.1; have := HN.out; omega
    rw [HN.out]
    refine Fam.all (lo := w2.heap.size) (hf7.low HG0.out.size) hvl HN.out.symm ⟨A5, c5, by rw [HM.out, hm5], by rw [HM.out]; exact hc5, fun _ => own_base (by rw [HM.out]; exact ho7) HG2.out.size⟩ (fun g _ hg => (ho7.lt g hg).1) ?_
    intro i M u g hi hM hu hl hg
    exact (HF.out.lt hi hM hu hl hg).2
  have FIN := Lib.hid FIN
  cases B with
  | none =>
    have h0 := h5 rfl
    subst h0
    have hm0 : m = 0 := by omega
    subst hm0
    obtain ⟨R0, R1, hpf, u, hu, hgf, hly⟩ := FIN.out (w2.alloc (.cells #[] 3)) (some ⟨w2.heap.size, 0, none⟩) 0 0 (World.grownBy_alloc _ _ _) (by rw [List.eq_nil_of_length_eq_zero HM.out]; exact own1)
    have q0 := HQ0.out.c1
    have r0 := R0.c0
    have r1 := R0.c1
    have r2 := R0.f 1
    have r3 := R1.c0
    have r4 := R1.c1
    have r5 := R1.f 0
    have r6 := R1.f 1
    have z0 := hpf.c0
    have z1 := hpf.c1
    clear own1 h2 h5 R0 R1 hpf
    go_wp2_with fail
    refine bodyPost_ret (v := u) (by simp [results, Try.results38, go_sem, z0, z1, hu]) rfl ?_
    exact ⟨u, rfl, hgf, hly⟩
  | some ab =>
    have HD2 := Lib.hid (HD.out.grown (HG2.out.trans (World.grownBy_alloc w2 (.cells #[] 3) none)) (by simp))
    have q0 := HQ0.out.c1
    have q1 := (HQ0.out.alloc (.cells #[] 3)).c1
    go_wp2_with (at_builtin; refine wpList_append_own_at _ rfl _ _ 23 rfl w2.heap.size 3 j0 (.int .i64 0) 1 8 Try.underlying23 hj0 hy0 hy1 hy2 rfl (by decide) _ _ _ rfl own1 ab m d (D.map (Value.int .i64)) rfl ?g1 ?g0 ?g2 ?g3 ?g4 ?g5 ?_)
    case g1 => simp; exact HM.out
    case g0 =>
      intro j u hu
      rw [List.getElem?_map] at hu
      obtain ⟨z, hz, rfl⟩ := Option.map_eq_some_iff.1 hu
      have hj := (List.getElem?_eq_some_iff.1 hz).1
      obtain ⟨b, off, ha, _, hc⟩ := HD2.out (by omega)
      cases ha
      rw [addr_flat]
      exact hc j z hz
    case g2 => intro u hu; obtain ⟨z, _, rfl⟩ := List.mem_map.1 hu; rfl
    case g3 => simp only [maxLen]; omega
    case g4 => omega
    case g5 => simp
    intro v8 w8 hown8 hg8 _ _
    obtain ⟨A5, m5, c5, rfl⟩ := own_form hown8
    obtain ⟨R0, R1, hpf, u, hu, hgf, hly⟩ := FIN.out w8 A5 m5 c5 (gr_ownF (World.grownBy_alloc w2 (.cells #[] 3) none) hg8 (fun k hk => by cases hk; exact Nat.le_refl _)) (by simpa using hown8)
    clear q1 hown8 hg8
    have r0 := R0.c0
    have r1 := R0.c1
    have r2 := R0.f 1
    have r3 := R1.c0
    have r4 := R1.c1
    have r5 := R1.f 0
    have r6 := R1.f 1
    have z0 := hpf.c0
    have z1 := hpf.c1
    clear own1 h2 h5 R0 R1 hpf
    go_wp2_with fail
    refine bodyPost_ret (v := u) (by simp [results, Try.results38, go_sem, z0, z1, hu]) rfl ?_
    exact ⟨u, rfl, hgf, hly⟩
end

/- VEmpty -/
section
open Go.RowKit

/-- An empty level more. -/
theorem flatv_step {wr : World} {base gl j : Nat} {d0 : Value} {D : List Int} (h : FlatV wr base gl d0 (List.replicate j []) D) :
    ∃ g c vs, Tri wr gl 34 (.int .i64 0) (.slice (some ⟨g, 0, none⟩) j c) d0 ∧ wr.ownsRow base 23 1 (.slice (some ⟨g, 0, none⟩) j c) j vs ∧ base ≤ wr.heap.size ∧
      ∀ (w8 : World) (gg cap : Nat), ((wr.alloc (.cells #[] 3)).alloc (.cells #[.slice (some ⟨wr.heap.size, 0, none⟩) 0 0] 23)).grownBy w8 (Value.slice (some ⟨g, 0, none⟩) j c).ownBlock →
        w8.ownsRow base 23 1 (.slice (some ⟨gg, 0, none⟩) (j + 1) cap) (j + 1) (vs ++ [.slice (some ⟨wr.heap.size, 0, none⟩) 0 0]) →
        Tri w8 gl 34 (.int .i64 0) (.slice (some ⟨g, 0, none⟩) j c) d0 ∧ Below base wr (w8.setCell ⟨gl, 1, none⟩ (.slice (some ⟨gg, 0, none⟩) (j + 1) cap)) ∧
        FlatV (w8.setCell ⟨gl, 1, none⟩ (.slice (some ⟨gg, 0, none⟩) (j + 1) cap)) base gl d0 (List.replicate (j + 1) []) D ∧
        ∀ (g0 : Nat) (x y z : Value), g0 ≠ gl → Tri wr g0 34 x y z → Tri (w8.setCell ⟨gl, 1, none⟩ (.slice (some ⟨gg, 0, none⟩) (j + 1) cap)) g0 34 x y z := by
  obtain ⟨g, c, hp, ⟨vs, ho, hr⟩, hb, hgl⟩ := h
  rw [List.length_replicate] at hp ho
  refine ⟨g, c, vs, hp, ho, hb, fun w8 gg cap hg8 ho8 => ?_⟩
  have hg6 : wr.grownBy ((wr.alloc (.cells #[] 3)).alloc (.cells #[.slice (some ⟨wr.heap.size, 0, none⟩) 0 0] 23)) none := (World.grownBy_alloc _ _ _).trans (World.grownBy_alloc _ _ _)
  have ho6 := ho.kept hg6 (by cases hv : (Value.slice (some ⟨g, 0, none⟩) j c).ownBlock <;> simp)
  have hx6 : ((wr.alloc (.cells #[] 3)).alloc (.cells #[.slice (some ⟨wr.heap.size, 0, none⟩) 0 0] 23)).ownsRow base 3 1 (.slice (some ⟨wr.heap.size, 0, none⟩) 0 0) 0 [] :=
    (World.ownsRow_made (base := base) (e := 3) (size := 1) wr #[] 0 hb (by simp) (by simp)).alloc _
  have hx8 := own_aside hx6 ho6 (by decide) hg8
  have hp8 := Tri.row (hp.grown hg6 (by simp)) ho6 (by decide) hg8
  have hr6 := hr.grown hg6
  have hr8 : LRows w8 base (vs ++ [d0]) (List.replicate j [] ++ [D]) := ⟨hr6.1, fun i v L hv hL => own_aside (hr6.2.1 i v L hv hL) ho6 (by decide) hg8, hr6.2.2⟩
  have hs := gr_set w8 gl 1 (.slice (some ⟨gg, 0, none⟩) (j + 1) cap)
  have hvl : vs.length = (List.replicate j ([] : List Int)).length := by have := ho.1; simp; omega
  have hr9 := (hr8.insert (L := []) hvl hx8 (fun g2 i v hg2 hv hv2 => by
    simp only [Value.ownBlock, Option.some.injEq] at hg2
    subst hg2
    have hi : i < (List.replicate j ([] : List Int) ++ [D]).length := by rw [← hr.1]; exact (List.getElem?_eq_some_iff.1 hv).1
    have := ((hr.2.1 i v _ hv (List.getElem?_eq_getElem hi)).lt _ hv2).2
    omega))
  have hB : Below base wr w8 := ⟨hg8.os.trans hg6.os, hg8.tape.trans hg6.tape, hg8.output.trans hg6.output, Nat.le_trans hg6.size hg8.size, fun k hk => (hg8.block k (Nat.lt_of_lt_of_le (Nat.lt_of_lt_of_le hk hb) hg6.size) (fun e => by have := (ho.lt k e.symm).1; omega)).trans (hg6.block k (Nat.lt_of_lt_of_le hk hb) (by simp))⟩
  have e1 : List.replicate j ([] : List Int) ++ [[]] = List.replicate (j + 1) [] := by rw [List.replicate_succ']
  have hoB : (w8.setCell ⟨gl, 1, none⟩ (.slice (some ⟨gg, 0, none⟩) (j + 1) cap)).ownsRow base 23 1 (.slice (some ⟨gg, 0, none⟩) (j + 1) cap) (j + 1) (vs ++ [.slice (some ⟨wr.heap.size, 0, none⟩) 0 0]) :=
    own_keep ho8 (fun q hq => hs.block q (ho8.lt q hq).2 (fun e => by
      cases e
      rcases ho8.2 with ⟨hv, _⟩ | ⟨b, cap', cur, hv, _, hb', _⟩
      · cases hv
      · cases hv
        simp only [Value.ownBlock, Option.some.injEq] at hq
        subst hq
        unfold Tri at hp8
        rw [hb'] at hp8
        cases hp8))
  refine ⟨hp8, hB.trans (below_set hgl), ⟨gg, cap, by rw [List.length_replicate]; exact hp8.set1 _, ⟨_, by rw [List.length_replicate]; exact hoB, ?_⟩, Nat.le_trans hb (Nat.le_trans hg6.size (Nat.le_trans hg8.size hs.size)), hgl⟩, fun g0 x y z hne hpg => ?_⟩
  · rw [← e1]
    exact LRows.other hr9 hp8 (by decide) hs
  · exact (Tri.row (hpg.grown hg6 (by simp)) ho6 (by decide) hg8).grown hs (by simpa using hne)

/-- The beginning: no levels, no numbers. -/
theorem flatv_start (w : World) (o : Obj) :
    FlatV ((((w.alloc o).alloc (.cells #[] 23)).alloc (.cells #[] 3)).alloc (.cells #[.int .i64 0, .slice (some ⟨w.heap.size + 1, 0, none⟩) 0 0, .slice (some ⟨w.heap.size + 1 + 1, 0, none⟩) 0 0] 34)) w.heap.size (w.heap.size + 1 + 1 + 1) (.slice (some ⟨w.heap.size + 1 + 1, 0, none⟩) 0 0) (List.replicate 0 []) [] := by
  have h1 := World.ownsRow_made (base := w.heap.size) (e := 23) (size := 1) (w.alloc o) #[] 0 (by simp) (by simp) (by simp)
  have h2 := World.ownsRow_made (base := w.heap.size) (e := 3) (size := 1) ((w.alloc o).alloc (.cells #[] 23)) #[] 0 (by simp; omega) (by simp) (by simp)
  have h3 := Tri.new (((w.alloc o).alloc (.cells #[] 23)).alloc (.cells #[] 3)) 34 (.int .i64 0) (.slice (some ⟨w.heap.size + 1, 0, none⟩) 0 0) (.slice (some ⟨w.heap.size + 1 + 1, 0, none⟩) 0 0)
  rw [sz_alloc] at h1
  rw [sz_alloc, sz_alloc] at h2
  rw [sz_alloc, sz_alloc, sz_alloc] at h3
  refine ⟨w.heap.size + 1, 0, h3, ⟨[], (h1.alloc _).alloc _, ?_⟩, by simp; omega, by omega⟩
  refine ⟨rfl, fun i v L hv hL => ?_, fun i j v u g hne hv hu _ => ?_⟩
  · match i, hv, hL with
    | 0, hv, hL =>
      simp at hv hL
      subst hv hL
      exact h2.alloc _
    | i + 1, hv, _ => simp at hv
  · have hi := (List.getElem?_eq_some_iff.1 hv).1
    have hj := (List.getElem?_eq_some_iff.1 hu).1
    simp at hi hj
    omega

theorem LaidAt.keep {w w' : World} {base g c : Nat} {d : Value} {LL : List (List Int)} {D : List Int} (h : LaidAt w base g c d LL D) (hk : ∀ (q : Nat) (cs : Array Value) (t : TypeId), base ≤ q → w.heap[q]? = some (.cells cs t (0, 0)) → (t = 3 ∨ t = 23) → w'.heap[q]? = w.heap[q]?) : LaidAt w' base g c d LL D := by
  have key : ∀ {e : TypeId} {v : Value} {n : Nat} {xs : List Value}, w.ownsRow base e 1 v n xs → (e = 3 ∨ e = 23) → w'.ownsRow base e 1 v n xs := fun {e v n xs} ho he => own_keep ho (fun q hq => by
    rcases ho.2 with ⟨rfl, _⟩ | ⟨b, cap, cur, rfl, hb, hg, _⟩
    · cases hq
    · simp only [Value.ownBlock, Option.some.injEq] at hq
      subst hq
      exact hk _ _ _ hb hg he)
  obtain ⟨vs, ho, hr⟩ := h
  exact ⟨vs, key ho (.inr rfl), hr.1, fun i v L hv hL => key (hr.2.1 i v L hv hL) (.inl rfl), hr.2.2⟩

set_option maxRecDepth 100000 in
set_option maxHeartbeats 4000000 in
theorem vempty_any (d : Nat) (w : World) (hd : d ≤ 10) :
    Calls Try.prog 101 #[.int .i64 (d : Int)] w fun e w' => ∃ g c dv, e = .returned (.agg #[.int .i64 0, .slice (some ⟨g, 0, none⟩) d c, dv]) ∧ w.grownBy w' none ∧ LaidAt w' w.heap.size g c dv (List.replicate d []) [] := by
  obtain ⟨i0, hi0, hz0, hz1, hz2⟩ := info_parts infoL
  go_enter Try.func101, Try.ntmps101
  go_wp2_with fail
  have HFM := Lib.hid (flatv_start w (.cells #[.int .i64 0, .slice none 0 0, .slice none 0 0] 34))
  have HND := Lib.hid ((((Tri.new w 34 (.int .i64 0) (.slice none 0 0) (.slice none 0 0)).alloc (.cells #[] 23)).alloc (.cells #[] 3)).alloc (.cells #[.int .i64 0, .slice (some ⟨w.heap.size + 1, 0, none⟩) 0 0, .slice (some ⟨w.heap.size + 1 + 1, 0, none⟩) 0 0] 34))
  have hbw : Below w.heap.size w ((((w.alloc (.cells #[.int .i64 0, .slice none 0 0, .slice none 0 0] 34)).alloc (.cells #[] 23)).alloc (.cells #[] 3)).alloc (.cells #[.int .i64 0, .slice (some ⟨w.heap.size + 1, 0, none⟩) 0 0, .slice (some ⟨w.heap.size + 1 + 1, 0, none⟩) 0 0] 34)) := by
    have hg := (((World.grownBy_alloc w (.cells #[.int .i64 0, .slice none 0 0, .slice none 0 0] 34) none).trans (World.grownBy_alloc _ (.cells #[] 23) none)).trans (World.grownBy_alloc _ (.cells #[] 3) none)).trans (World.grownBy_alloc _ (.cells #[.int .i64 0, .slice (some ⟨w.heap.size + 1, 0, none⟩) 0 0, .slice (some ⟨w.heap.size + 1 + 1, 0, none⟩) 0 0] 34) none)
    exact ⟨hg.os, hg.tape, hg.output, hg.size, fun k hk => hg.block k hk (by simp)⟩
  have HBW := Lib.hid hbw
  clear hbw
  generalize (((w.alloc (.cells #[.int .i64 0, .slice none 0 0, .slice none 0 0] 34)).alloc (.cells #[] 23)).alloc (.cells #[] 3)).alloc (.cells #[.int .i64 0, .slice (some ⟨w.heap.size + 1, 0, none⟩) 0 0, .slice (some ⟨w.heap.size + 1 + 1, 0, none⟩) 0 0] 34) = u0 at HFM HND HBW ⊢
  go_loopw [9] (fun i wr => ∃ (j : Nat), j ≤ d ∧ i = .int .i64 j ∧ Hid (FlatV wr w.heap.size (w.heap.size + 1 + 1 + 1) (.slice (some ⟨w.heap.size + 1 + 1, 0, none⟩) 0 0) (List.replicate j []) []) ∧ Hid (Below w.heap.size w wr) ∧ Hid (Tri wr w.heap.size 34 (.int .i64 0) (.slice none 0 0) (.slice none 0 0))) (fun i _ => d - (intOf i).toNat)
  case atStart => exact ⟨0, Nat.zero_le _, rfl, HFM, HBW, HND⟩
  case round =>
    obtain ⟨j, hj, rfl, hfm, hbl, hnd⟩ := hrel
    by_cases hlt : j < d
    · obtain ⟨g, c, vs, hp, ho, hb, hst⟩ := flatv_step hfm.out
      have HST := Lib.hid hst
      have own6 := (ho.alloc (.cells #[] 3)).alloc (.cells #[.slice (some ⟨wr.heap.size, 0, none⟩) 0 0] 23)
      have p0 := hp.c1
      clear hp ho hst
      go_wp2_with (at_builtin; refine wpList_append_own_at _ rfl _ _ 22 rfl w.heap.size 23 i0 (.slice none 0 0) 1 24 Try.underlying22 hi0 hz0 hz1 hz2 rfl (by decide) _ _ _ rfl own6 ⟨wr.heap.size + 1, 0, none⟩ 1 1 [(.slice (some ⟨wr.heap.size, 0, none⟩) 0 0)] rfl rfl ?h1 ?h2 ?h3 ?h4 ?h5 ?_)
      case h2 => simp [Value.oneCell']
      case h3 => simp only [maxLen]; omega
      case h4 => omega
      case h5 => first | omega | (simp; omega)
      case h1 =>
        have hcn := cell_one_new (wr.alloc (.cells #[] 3)) (.slice (some ⟨wr.heap.size, 0, none⟩) 0 0) 23
        rw [sz_alloc] at hcn
        exact hcn
      intro v8 w8 hown8 hg8 hnil8 _
      obtain ⟨g8, c8, rfl⟩ : ∃ g8 c8, v8 = .slice (some ⟨g8, 0, none⟩) (j + 1) c8 := by
        rcases hown8.2 with ⟨hv, hz⟩ | ⟨b8, cap8, cur8, hv8, _⟩
        · omega
        · exact ⟨b8, cap8, hv8⟩
      obtain ⟨hp8, hb8, hf8, hn8⟩ := HST.out w8 g8 c8 hg8 hown8
      have HB8 := Lib.hid hb8
      have HF8 := Lib.hid hf8
      have HN8 := Lib.hid (hn8 _ _ _ _ (by omega) hnd.out)
      have x0 := hp8.c1
      have x1 := hp8.f 1
      clear hown8 hg8 hnil8 own6 hp8 hb8 hf8 hn8
      go_wp2_with fail
      go_roundw
      case rel => exact ⟨j + 1, by omega, by go_num, HF8, Lib.hid (hbl.out.trans HB8.out), HN8⟩
      case measure => simp [intOf]; omega
    · have hjn : j = d := by omega
      subst hjn
      obtain ⟨g, c, hp, hl, _, _⟩ := hfm.out
      rw [List.length_replicate] at hp
      have p0 := hp.c0
      have p1 := hp.c1
      have p2 := hp.c2
      have r0 := hnd.out.c0
      have r1 := hnd.out.c1
      have r2 := hnd.out.c2
      have f0 := hnd.out.f 0
      have f1 := hnd.out.f 1
      have f2 := hnd.out.f 2
      have HL := Lib.hid hl
      clear hp hl
      go_wp2_with fail
      obtain ⟨B2, hB2⟩ : ∃ B, Value.slice (some ⟨w.heap.size + 1 + 1, 0, none⟩) 0 0 = B := ⟨_, rfl⟩
      rw [hB2] at HL ⊢
      have S1 := ((hnd.out.set0 (.int .i64 0)).set1 (.slice (some ⟨g, 0, none⟩) j c)).set2 B2
      have hgz := ((gr_set wr w.heap.size 0 (.int .i64 0)).trans (gr_set _ w.heap.size 1 (.slice (some ⟨g, 0, none⟩) j c))).trans (gr_set ((wr.setCell ⟨w.heap.size, 0, none⟩ (.int .i64 0)).setCell ⟨w.heap.size, 1, none⟩ (.slice (some ⟨g, 0, none⟩) j c)) w.heap.size 2 B2)
      have q0 := S1.c0
      have q1 := S1.c1
      have q2 := S1.c2
      refine bodyPost_ret (v := .agg #[.int .i64 0, .slice (some ⟨g, 0, none⟩) j c, B2]) (by simp [results, Try.results101, go_sem, q0, q1, q2]) rfl ?_
      refine ⟨g, c, B2, rfl, gr_ownF (gr_below (gr_refl w none) hbl.out) hgz (fun q hq => by cases hq; exact Nat.le_refl _), HL.out.keep (fun q cs t hq hc ht => hgz.block q (Array.getElem?_eq_some_iff.1 hc).1 (fun e => ?_))⟩
      cases e
      have h1 := hnd.out
      unfold Tri at h1
      rw [hc] at h1
      cases h1
      rcases ht with ht | ht <;> cases ht
end

/- VPack -/
section
open Go.RowKit

/-- A vector to be copied. -/
def VctC (w : World) (v : Value) (n : Int) (LL : List (List Int)) (D : List Int) : Prop :=
  ∃ x y, v = .agg #[.int .i64 n, x, y] ∧ LytC w (.agg #[x, y]) LL D
theorem behind_zero {d : Nat} (ts us : List (T d)) : behind 0 (lv d ts) (lv d us) = lv d (ts ++ us) := by
  rw [behind, List.take_zero, List.nil_append, List.drop_zero, lv_append]
theorem lv_none : ∀ d, lv d [] = List.replicate d []
  | 0 => rfl
  | d + 1 => by rw [lv, List.map_nil, List.flatMap_nil, lv_none d, List.replicate_succ]
theorem short_take {d : Nat} {ts : List (T d)} (h : Short (lv d ts)) (j : Nat) : Short (lv d (ts.take j)) := by
  have h1 : Short (behind 0 (lv d []) (lv d ts)) := by rw [behind_zero]; exact h
  have h2 := Short.part (j := j) h1 (by rw [lv_len]; omega)
  rw [behind_zero] at h2
  exact h2
theorem LaidAt.len {w : World} {base g c : Nat} {d : Value} {LL : List (List Int)} {D : List Int} (h : LaidAt w base g c d LL D) : LL.length ≤ c := by
  obtain ⟨vs, ho, _⟩ := h
  rcases ho.2 with ⟨hv, _⟩ | ⟨_, _, _, hv, _, _, hnc, _⟩
  · cases hv
  · simp only [Value.slice.injEq] at hv; omega
theorem LaidAt.lytc {w : World} {base g c : Nat} {d : Value} {LL : List (List Int)} {D : List Int} (h : LaidAt w base g c d LL D) : LytC w (.agg #[.slice (some ⟨g, 0, none⟩) LL.length c, d]) LL D := by
  obtain ⟨⟨A9, c9, rfl, hi9, hd9, hn9⟩, hrw9, hcl9⟩ := h.reads
  exact ⟨_, _, _, _, rfl, h.len, hd9, hrw9, hi9, hn9, hcl9⟩
theorem LaidAt.vec {w w' : World} {base g c gV : Nat} {d x y z : Value} {LL : List (List Int)} {D : List Int} (h : LaidAt w base g c d LL D) (hp : Tri w gV 34 x y z) (hg : w.grownBy w' (some gV)) : LaidAt w' base g c d LL D :=
  h.keep (fun q cs t _ hc ht => hg.block q (Array.getElem?_eq_some_iff.1 hc).1 (fun e => by
    cases e
    unfold Tri at hp
    rw [hc] at hp
    cases hp
    rcases ht with ht | ht <;> cases ht))

set_option maxRecDepth 100000 in
set_option maxHeartbeats 4000000 in
theorem vpack_any (d : Nat) (ts : List (T d)) (xs : List (Int × Value)) (S : Nat → Prop) (A : Option Addr) (k c : Nat) (w : World) (hd : d ≤ 3) (hox : w.ownsRow 0 97 2 (.slice A k c) xs.length (flat2 xs)) (ha : All2 (SNd w S d) ts xs) (hS : ∀ b, S b → b < w.heap.size) (hsh : Short (lv d ts)) (hdl : (dat d ts).length ≤ 1000000) (hn : ts.length ≤ 2000) :
    Calls Try.prog 83 #[.slice A k c, .int .i64 (d : Int)] w fun e w' => ∃ g c A8 k8 c8, e = .returned (.agg #[.int .i64 (ts.length : Int), .slice (some ⟨g, 0, none⟩) d c, .slice A8 k8 c8]) ∧ w.grownBy w' none ∧ LaidAt w' (w.heap.size + 1) g c (.slice A8 k8 c8) (lv d ts) (dat d ts) := by
  obtain ⟨n, hnn⟩ : ∃ n, ts.length = n := ⟨_, rfl⟩
  have hkx := (srowV hox).1
  have hxl := All2.length _ _ ha
  have hkn : k = n := by omega
  subst hkn
  have HE := Lib.hid (fun u => vempty_any d u (by omega))
  have HN := Lib.hid hnn
  have HXL := Lib.hid hxl
  have hg0 := World.grownBy_alloc w (.cells #[.int .i64 0, .slice none 0 0, .slice none 0 0] 34) none
  have HX := Lib.hid (fun (w' : World) (hb : Below (w.heap.size + 1) (w.alloc (.cells #[.int .i64 0, .slice none 0 0, .slice none 0 0] 34)) w') => (own_keep hox (fun g hg => (hb.block g (by have := (hox.lt g hg).2; omega)).trans (hg0.block g (hox.lt g hg).2 (by simp))) : w'.ownsRow 0 97 2 (.slice A k c) xs.length (flat2 xs)))
  have HAB := Lib.hid (fun (w' : World) (hb : Below (w.heap.size + 1) (w.alloc (.cells #[.int .i64 0, .slice none 0 0, .slice none 0 0] 34)) w') => (All2.mono (SNd.keep (w := w) (w' := w') (S' := S) (fun b hs _ => (hb.block b (by have := hS b hs; omega)).trans (hg0.block b (hS b hs) (by simp))) (fun _ hs _ => hs) d) ts xs ha))
  have HSS := Lib.hid hS
  have HSH := Lib.hid hsh
  have HDL := Lib.hid hdl
  have HG0 := Lib.hid hg0
  have HP0 := Lib.hid (Tri.new w 34 (.int .i64 0) (.slice none 0 0) (.slice none 0 0))
  rw [hnn] at hn
  rw [hnn]
  clear hox ha hS hsh hdl hnn hkx hxl hg0
  go_enter Try.func83, Try.ntmps83
  go_wp2_with fail
  have hsz0 : (w.alloc (.cells #[.int .i64 0, .slice none 0 0, .slice none 0 0] 34)).heap.size = w.heap.size + 1 := by simp
  have HSZ := Lib.hid hsz0
  generalize w.alloc (.cells #[.int .i64 0, .slice none 0 0, .slice none 0 0] 34) = w1 at HX HAB HG0 HP0 HSZ ⊢
  clear hsz0
  refine (HE.out w1).mono ?_
  rintro e w2 ⟨g, c0, dv, rfl, hg2, hl2⟩
  have hgA := World.grownBy_alloc w2 (.cells #[.int .i64 0, .slice (some ⟨g, 0, none⟩) d c0, dv] 34) none
  have hT := Tri.new w2 34 (.int .i64 0) (.slice (some ⟨g, 0, none⟩) d c0) dv
  have hF : FlatV (w2.alloc (.cells #[.int .i64 0, .slice (some ⟨g, 0, none⟩) d c0, dv] 34)) (w.heap.size + 1) w2.heap.size dv (lv d (ts.take 0)) (dat d (ts.take 0)) := by
    rw [List.take_zero, lv_none, dat_nil]
    refine ⟨g, c0, by rw [List.length_replicate]; exact hT, ?_, ?_, ?_⟩
    · rw [← HSZ.out]; exact hl2.grown hgA
    · have := hg2.size; have := HSZ.out; simp; omega
    · have := hg2.size; have := HSZ.out; omega
  have HF := Lib.hid hF
  have HB2 := Lib.hid (show Below (w.heap.size + 1) w1 (w2.alloc (.cells #[.int .i64 0, .slice (some ⟨g, 0, none⟩) d c0, dv] 34)) from by
    have h := hg2.trans hgA
    exact ⟨h.os, h.tape, h.output, h.size, fun q hq => h.block q (by rw [HSZ.out]; exact hq) (by simp)⟩)
  obtain ⟨A8, k8, c8, rfl⟩ : ∃ A k c, dv = .slice A k c := by
    obtain ⟨⟨A8, c8, rfl, _⟩, _⟩ := hl2.reads
    exact ⟨_, _, _, rfl⟩
  clear hg2 hl2 hgA hT hF
  go_wp2_with fail
  generalize w2.alloc (.cells #[.int .i64 0, .slice (some ⟨g, 0, none⟩) d c0, .slice A8 k8 c8] 34) = u0 at HF HB2 ⊢
  go_loopw [12] (fun i wr => ∃ (j : Nat), j ≤ k ∧ i = .int .i64 j ∧ Hid (Below (w.heap.size + 1) w1 wr) ∧ Hid (∃ d', FlatV wr (w.heap.size + 1) w2.heap.size d' (lv d (ts.take j)) (dat d (ts.take j)))) (fun i _ => k - (intOf i).toNat)
  case atStart => exact ⟨0, Nat.zero_le _, rfl, HB2, Lib.hid ⟨_, HF.out⟩⟩
  case round =>
    obtain ⟨j, hj, rfl, hbl, hfe⟩ := hrel
    obtain ⟨d', hfl⟩ := hfe.out
    have HFL := Lib.hid hfl
    clear hfl
    by_cases hlt : j < k
    · obtain ⟨tt, x, ht, hx, hnd⟩ := All2.nth (j := j) (HAB.out wr hbl.out) (by have := HXL.out; have := HN.out; omega)
      obtain ⟨g3, rfl, hcells⟩ := (srowV (HX.out wr hbl.out)).2.2 (by omega)
      obtain ⟨m3, sv3⟩ := x
      obtain ⟨A3, k3, c3, hsv⟩ := hnd.form
      simp only at hsv
      subst hsv
      have hx1 := hcells j _ hx
      obtain ⟨hx1, hx2⟩ := hx1
      have hga := World.grownBy_alloc wr (.cells #[.int .i64 m3, .slice A3 k3 c3] 97) none
      have HBA := Lib.hid (show Below (w.heap.size + 1) wr (wr.alloc (.cells #[.int .i64 m3, .slice A3 k3 c3] 97)) from by
        obtain ⟨_, _, _, _, hb, _⟩ := HFL.out
        exact ⟨hga.os, hga.tape, hga.output, hga.size, fun b hbb => hga.block b (by omega) (by simp)⟩)
      have e1 : ts.take j ++ [tt] = ts.take (j + 1) := by rw [List.take_add_one, ht]; rfl
      have HC := Lib.hid (layv_any d tt w2.heap.size (w.heap.size + 1) 0 S m3 A3 k3 c3 d' _ _ (wr.alloc (.cells #[.int .i64 m3, .slice A3 k3 c3] 97)) (HFL.out.grown hga) (SNd.keep (S' := S) (fun b hs _ => HBA.out.block b (by have := HSS.out b hs; omega)) (fun _ hs _ => hs) d tt _ hnd) (fun b hb => by have := HSS.out b hb; omega) (by rw [lv_len]; omega) (by omega)
        (by rw [behind_zero, e1]; exact short_take HSH.out _) (by rw [← dat_append, e1]; have := dat_part (d := d) (ts := ts) (j + 1); have := HDL.out; omega))
      rw [behind_zero, ← dat_append, e1] at HC
      clear ht hx hcells hnd hga e1
      go_wp2_with fail
      refine HC.out.mono ?_
      rintro e w5 ⟨rfl, hb5, d5, hf5⟩
      have HB5 := Lib.hid (hbl.out.trans (HBA.out.trans hb5))
      have HF5 := Lib.hid hf5
      clear hb5 hf5
      go_wp2_with fail
      go_roundw
      case rel => exact ⟨j + 1, by omega, by go_num, HB5, Lib.hid ⟨d5, HF5.out⟩⟩
      case measure => simp [intOf]; omega
    · have hjn : j = k := by omega
      have e : ts.take j = ts := List.take_of_length_le (by have := HN.out; omega)
      have hfl := HFL.out
      rw [e] at hfl
      obtain ⟨g5, c5, hp5, hl5, _, hgl⟩ := hfl
      rw [lv_len] at hp5
      obtain ⟨A9, k9, c9, rfl⟩ : ∃ A k c, d' = .slice A k c := by
        obtain ⟨⟨A8, c8, rfl, _⟩, _⟩ := hl5.reads
        exact ⟨_, _, _, rfl⟩
      have hr5 : Tri wr w.heap.size 34 (.int .i64 0) (.slice none 0 0) (.slice none 0 0) := (hbl.out.block w.heap.size (Nat.lt_succ_self _)).trans HP0.out
      have p0 := hp5.c0
      have p1 := hp5.c1
      have p2 := hp5.c2
      have p3 := hp5.f 0
      have r0 := hr5.c0
      have r1 := hr5.c1
      have r2 := hr5.c2
      have f0 := hr5.f 0
      have f1 := hr5.f 1
      have f2 := hr5.f 2
      have HP5 := Lib.hid hp5
      have HL5 := Lib.hid hl5
      have HR5 := Lib.hid hr5
      have hne : w.heap.size ≠ w2.heap.size := by omega
      clear hp5 hl5 hr5 e hjn
      go_wp2_with fail
      have hgW : w.grownBy wr none := gr_below HG0.out ⟨hbl.out.os, hbl.out.tape, hbl.out.output, hbl.out.size, fun q hq => hbl.out.block q (by omega)⟩
      have hs1 := gr_set wr w2.heap.size 0 (.int .i64 (k : Int))
      have T5 := HP5.out.set0 (.int .i64 (k : Int))
      have hR1 := HR5.out.grown hs1 (by simp; omega)
      have hL1 := HL5.out.vec HP5.out hs1
      have hg1 := gr_ownF hgW hs1 (fun q hq => by cases hq; omega)
      generalize wr.setCell ⟨w2.heap.size, 0, none⟩ (.int .i64 (k : Int)) = w6 at T5 hR1 hL1 hg1 ⊢
      have S1 := ((hR1.set0 (.int .i64 (k : Int))).set1 (.slice (some ⟨g5, 0, none⟩) d c5)).set2 (.slice A9 k9 c9)
      have hgz := ((gr_set w6 w.heap.size 0 (.int .i64 (k : Int))).trans (gr_set _ w.heap.size 1 (.slice (some ⟨g5, 0, none⟩) d c5))).trans (gr_set ((w6.setCell ⟨w.heap.size, 0, none⟩ (.int .i64 (k : Int))).setCell ⟨w.heap.size, 1, none⟩ (.slice (some ⟨g5, 0, none⟩) d c5)) w.heap.size 2 (.slice A9 k9 c9))
      have q0 := S1.c0
      have q1 := S1.c1
      have q2 := S1.c2
      refine bodyPost_ret (v := .agg #[.int .i64 (k : Int), .slice (some ⟨g5, 0, none⟩) d c5, .slice A9 k9 c9]) (by simp [results, Try.results83, go_sem, q0, q1, q2]) rfl ?_
      exact ⟨g5, c5, A9, k9, c9, rfl, gr_ownF hg1 hgz (fun q hq => by cases hq; exact Nat.le_refl _), hL1.vec hR1 hgz⟩
end

/- SOut -/
section
open Go.RowKit

theorem wp_append_run {P : Program} {o : Oper} {a : Act} {w : World} {K : Act → World → Prop} {Q : Exit → Act → World → Prop} (s x : Operand) (t : TypeId) (ho : o.op = Op.call { callee := Callee.builtin Builtin.append, args := #[s, x], argTypes := #[t, t] })
    (v u : Value) (hs : a.eval s = v) (hx : a.eval x = u) (v' : Value) (w' : World) (hrun : (Builtin.append_ #[t, t] o.type #[v, u]).run P w = .ok v' w') (h : K (a.put o.dst v') w') : o.wp P a w K Q := by
  unfold Oper.wp
  simp [execOp, ho, resolve, invoke, builtin, hs, hx, hrun, Result.andThen]
  exact h

/-- A row of ints that lies from a block on, unless it is empty. -/
def RowN (lo : Nat) (w : World) (A : Option Addr) (L : List Int) (c : Nat) : Prop := (A = none → c = 0) ∧ L.length ≤ c ∧ (0 < L.length → ∃ b off, A = some ⟨b, off, none⟩ ∧ lo ≤ b ∧ b < w.heap.size ∧ ∀ (j : Nat) (z : Int), L[j]? = some z → w.cell? ⟨b, off + j, none⟩ = some (.int .i64 z))
theorem RowN.move {lo : Nat} {w w' : World} {A : Option Addr} {L : List Int} {c : Nat} {row : Option Nat} (h : RowN lo w A L c) (hg : w.grownBy w' row) (hr : ∀ g, row = some g → g < lo) : RowN lo w' A L c :=
  ⟨h.1, h.2.1, fun hl => by
    obtain ⟨b, off, rfl, h1, h2, h3⟩ := h.2.2 hl
    exact ⟨b, off, rfl, h1, Nat.lt_of_lt_of_le h2 hg.size, fun j z hj => hg.cell (h3 j z hj) (fun e => by have := hr b e.symm; omega)⟩⟩
theorem RowN.ints {lo : Nat} {w : World} {A : Option Addr} {L : List Int} {c : Nat} (h : RowN lo w A L c) : Ints w A L := fun hl => by
  obtain ⟨b, off, rfl, _, h2, h3⟩ := h.2.2 hl
  exact ⟨b, off, rfl, h2, h3⟩
theorem RowN.lows {lo lo' : Nat} {w : World} {A : Option Addr} {L : List Int} {c : Nat} (h : RowN lo w A L c) (hl : lo' ≤ lo) : RowN lo' w A L c :=
  ⟨h.1, h.2.1, fun hn => by
    obtain ⟨b, off, rfl, h1, h2⟩ := h.2.2 hn
    exact ⟨b, off, rfl, by omega, h2⟩⟩
theorem RowN.of_own {lo n : Nat} {w : World} {A : Option Addr} {L : List Int} {c : Nat} (h : w.ownsRow lo 3 1 (.slice A n c) L.length (L.map (Value.int .i64))) : RowN lo w A L c := by
  obtain ⟨_, h2, h3, h4⟩ := row_reads h
  refine ⟨h4, h3, fun hl => ?_⟩
  obtain ⟨b, off, rfl, h5, h6⟩ := h2 hl
  exact ⟨b, off, rfl, (h.lt b rfl).1, h5, h6⟩
/-- A vector that lies from a block on. -/
def VctN (lo : Nat) (w : World) (v : Value) (k : Int) (LL : List (List Int)) (D : List Int) : Prop :=
  ∃ A c B e, v = .agg #[.int .i64 k, .slice A LL.length c, .slice B D.length e] ∧ LL.length ≤ c ∧ RowN lo w B D e ∧
    (0 < LL.length → ∃ b off, A = some ⟨b, off, none⟩ ∧ lo ≤ b ∧ b < w.heap.size ∧ ∀ (j : Nat) (L : List Int), LL[j]? = some L → ∃ Aj cj, w.cell? ⟨b, off + j, none⟩ = some (.slice Aj L.length cj) ∧ RowN lo w Aj L cj)
theorem VctN.move {lo : Nat} {w w' : World} {v : Value} {k : Int} {LL : List (List Int)} {D : List Int} {row : Option Nat} (h : VctN lo w v k LL D) (hg : w.grownBy w' row) (hr : ∀ g, row = some g → g < lo) : VctN lo w' v k LL D := by
  obtain ⟨A, c, B, e, rfl, h1, h2, h3⟩ := h
  refine ⟨A, c, B, e, rfl, h1, h2.move hg hr, fun hl => ?_⟩
  obtain ⟨b, off, rfl, h4, h5, h6⟩ := h3 hl
  refine ⟨b, off, rfl, h4, Nat.lt_of_lt_of_le h5 hg.size, fun j L hj => ?_⟩
  obtain ⟨Aj, cj, h7, h8⟩ := h6 j L hj
  exact ⟨Aj, cj, hg.cell h7 (fun e => by have := hr b e.symm; omega), h8.move hg hr⟩
theorem VctN.lows {lo lo' : Nat} {w : World} {v : Value} {k : Int} {LL : List (List Int)} {D : List Int} (h : VctN lo w v k LL D) (hl : lo' ≤ lo) : VctN lo' w v k LL D := by
  obtain ⟨A, c, B, e, rfl, h1, h2, h3⟩ := h
  refine ⟨A, c, B, e, rfl, h1, h2.lows hl, fun hn => ?_⟩
  obtain ⟨b, off, rfl, h4, h5, h6⟩ := h3 hn
  refine ⟨b, off, rfl, by omega, h5, fun j L hj => ?_⟩
  obtain ⟨Aj, cj, h7, h8⟩ := h6 j L hj
  exact ⟨Aj, cj, h7, h8.lows hl⟩
theorem VctN.c {lo : Nat} {w : World} {v : Value} {k : Int} {LL : List (List Int)} {D : List Int} (h : VctN lo w v k LL D) : VctC w v k LL D := by
  obtain ⟨A, c, B, e, rfl, h1, h2, h3⟩ := h
  refine ⟨_, _, rfl, A, c, B, e, rfl, h1, h2.2.1, fun hl => ?_, h2.ints, h2.1, fun w' j L hg hj b off e2 => ?_⟩
  · obtain ⟨b, off, rfl, _, h5, h6⟩ := h3 hl
    refine ⟨b, off, rfl, h5, fun j L hj => ?_⟩
    obtain ⟨Aj, cj, h7, h8⟩ := h6 j L hj
    exact ⟨Aj, cj, h7, h8.2.1, h8.ints⟩
  · obtain ⟨b2, off2, e3, _, h5, h6⟩ := h3 (by have := (List.getElem?_eq_some_iff.1 hj).1; omega)
    rw [e2] at e3
    cases e3
    obtain ⟨Aj, cj, h7, h8⟩ := h6 j L hj
    exact ⟨Aj, cj, hg.cell h7 (by simp), h8.ints.grown hg (by simp), h8.1, h8.2.1⟩

set_option maxRecDepth 100000 in
/-- Headers of rows put behind one in a new list. -/
theorem app_sls (lo : Nat) (w : World) (_hlw : lo ≤ w.heap.size) (g : Nat) (hlg : lo ≤ g) (x : Value) (hg : w.cell? ⟨g, 0, none⟩ = some x) (hgl : g < w.heap.size) (A : Option Addr) (n c : Nat) (vs : List Value) (hv : vs.length = n) (hA : ∀ (j : Nat) (v : Value), vs[j]? = some v → ∃ b off, A = some ⟨b, off, none⟩ ∧ w.cell? ⟨b, off + j, none⟩ = some v) (hn : n ≤ 10) (ty : TypeId) :
    ∃ v' w', (Builtin.append_ #[22, 22] ty #[.slice (some ⟨g, 0, none⟩) 1 1, .slice A n c]).run Try.prog w = .ok v' w' ∧ w.grownBy w' none ∧ ∃ gq cq, v' = .slice (some ⟨gq, 0, none⟩) (n + 1) cq ∧ n + 1 ≤ cq ∧ lo ≤ gq ∧ gq < w'.heap.size ∧ ∀ (j : Nat) (v : Value), (x :: vs)[j]? = some v → w'.cell? ⟨gq, j, none⟩ = some v := by
  obtain ⟨i0, hi0, hz0, hz1, hz2⟩ := info_parts infoL
  have hu := Try.underlying22
  by_cases hn0 : n = 0
  · subst hn0
    obtain rfl := List.eq_nil_of_length_eq_zero hv
    refine ⟨.slice (some ⟨g, 0, none⟩) 1 1, w, ?_, gr_refl _ _, g, 1, rfl, Nat.le_refl _, hlg, hgl, fun j v hj => ?_⟩
    · cases A <;> simp [Builtin.append_, run_underlying hu, sizeOf, typeInfo, hi0, Builtin.lenOf, Builtin.firstCells, loadCells, loadCellsFrom, storeCells]
    · cases j with
      | zero => simp at hj; subst hj; exact hg
      | succ j => simp at hj
  · obtain ⟨b, off, rfl, _⟩ := hA 0 _ (List.getElem?_eq_getElem (by omega))
    obtain ⟨v', w', h1, h2, h3⟩ := run_append_arg_grows (P := Try.prog) (w := w) 22 ty 23 i0 (.slice none 0 0) 1 24 hu hi0 hz0 hz1 hz2 rfl (by decide) ⟨g, 0, none⟩ 1 1 [x] rfl (fun j u hj => by
      cases j with
      | zero => simp at hj; subst hj; rw [addr_flat]; exact hg
      | succ j => simp at hj) ⟨b, off, none⟩ n c vs (by omega) (fun j u hj => by
      obtain ⟨b2, off2, e, h⟩ := hA j u hj
      cases e
      rw [addr_flat]
      exact h) (by omega) (by simp only [maxLen]; omega) (by omega)
    refine ⟨v', w', h1, h3, ?_⟩
    rcases h2.2 with ⟨_, hn⟩ | ⟨gq, cap, cur, hv', hbq, hgq, hnc, _, _, htake⟩
    · omega
    · refine ⟨gq, cap, by rw [hv']; congr 1; omega, by omega, by omega, (Array.getElem?_eq_some_iff.1 hgq).1, fun j v hj => ?_⟩
      have hjl : j < (x :: vs).length := (List.getElem?_eq_some_iff.1 hj).1
      simp only [List.length_cons] at hjl
      rw [cell_of_row w' gq j _ _ (0, 0) hgq]
      have h5 : (cur.toList.take ((1 + n) * 1))[j]? = (x :: vs)[j]? := by rw [htake]; rfl
      rw [List.getElem?_take, if_pos (by omega)] at h5
      rw [← Array.getElem?_toList, h5, hj]

set_option maxHeartbeats 1000000 in
theorem splain_any (lo : Nat) (B : Option Addr) (e : Nat) (D : List Int) (w : World) (h : RowN lo w B D e) :
    Calls Try.prog 103 #[.slice B D.length e] w fun ee w' => ∃ u, ee = .returned u ∧ w.grownBy w' none ∧ VctN lo w' u (D.length : Int) [] D := by
  have H := Lib.hid h
  obtain ⟨n, hn⟩ : ∃ n, D.length = n := ⟨_, rfl⟩
  have HN := Lib.hid hn
  rw [hn]
  clear h hn
  go_enter Try.func103, Try.ntmps103
  go_wp2_with fail
  have S1 := ((Tri.new w 34 (.int .i64 (n : Int)) (.slice (some ⟨w.heap.size + 1, 0, none⟩) 0 0) (.slice B n e)).alloc (.cells #[] 23))
  have s0 := S1.c0
  have s1 := S1.c1
  have s2 := S1.c2
  have hg := (World.grownBy_alloc w (.cells #[.int .i64 (n : Int), .slice (some ⟨w.heap.size + 1, 0, none⟩) 0 0, .slice B n e] 34) none).trans (World.grownBy_alloc _ (.cells #[] 23) none)
  refine bodyPost_ret (v := .agg #[.int .i64 (n : Int), .slice (some ⟨w.heap.size + 1, 0, none⟩) 0 0, .slice B n e]) (by simp [results, Try.results103, go_sem, s0, s1, s2]) rfl ?_
  exact ⟨_, rfl, hg, some ⟨w.heap.size + 1, 0, none⟩, 0, B, e, by rw [HN.out]; rfl, Nat.le_refl _, H.out.move hg (by simp), fun h => by simp at h⟩

/-- The headers of a vector's rows. -/
theorem hdrs {lo : Nat} {w : World} {A B : Option Addr} {n c m e : Nat} {k : Int} {LL : List (List Int)} {D : List Int} (h : VctN lo w (.agg #[.int .i64 k, .slice A n c, .slice B m e]) k LL D) : LL.length = n ∧ D.length = m ∧ n ≤ c ∧ RowN lo w B D e ∧
    ∃ vs : List Value, vs.length = n ∧ (∀ (j : Nat) (v : Value), vs[j]? = some v → ∃ b off, A = some ⟨b, off, none⟩ ∧ w.cell? ⟨b, off + j, none⟩ = some v) ∧
      ∀ (j : Nat) (M : List Int), LL[j]? = some M → ∃ Aj cj, vs[j]? = some (.slice Aj M.length cj) ∧ RowN lo w Aj M cj := by
  obtain ⟨A', c', B', e', hv, h1, h2, h3⟩ := h
  simp only [Value.agg.injEq, Array.mk.injEq, List.cons.injEq, Value.slice.injEq, and_true, true_and] at hv
  obtain ⟨⟨rfl, rfl, rfl⟩, rfl, rfl, rfl⟩ := hv
  refine ⟨rfl, rfl, h1, h2, ?_⟩
  by_cases hl : 0 < LL.length
  · obtain ⟨b, off, rfl, _, hb, hc⟩ := h3 hl
    refine ⟨(List.range LL.length).map (fun i => (w.cell? ⟨b, off + i, none⟩).getD (.int .i64 0)), by simp, fun j v hj => ⟨b, off, rfl, ?_⟩, fun j M hj => ?_⟩
    · have hjd : j < LL.length := by have := (List.getElem?_eq_some_iff.1 hj).1; simpa using this
      rw [List.getElem?_map, List.getElem?_range hjd] at hj
      simp only [Option.map_some, Option.some.injEq] at hj
      obtain ⟨Bj, cj, h7, _⟩ := hc j _ (List.getElem?_eq_getElem hjd)
      rw [h7] at hj
      simp only [Option.getD_some] at hj
      subst hj
      exact h7
    · have hid : j < LL.length := (List.getElem?_eq_some_iff.1 hj).1
      obtain ⟨Aj, cj, h7, h8⟩ := hc j M hj
      refine ⟨Aj, cj, ?_, h8⟩
      rw [List.getElem?_map, List.getElem?_range hid]
      simp only [Option.map_some, h7, Option.getD_some]
  · have e0 : LL = [] := List.eq_nil_of_length_eq_zero (by omega)
    subst e0
    exact ⟨[], rfl, fun j v hj => by simp at hj, fun j M hj => by simp at hj⟩

/-- How l8Outer's operations answer. -/
def oR (lo b3 : Nat) (lv_ : Value) (nl n : Nat) (A : Option Addr) (c : Nat) (dv : Value) (vs : List Value) (i : Nat) (v : Value) (w : World) : Prop :=
  if i = 0 ∨ i = 2 then v = lv_ else
  if i = 1 then v = .int .i64 (nl : Int) else
  if i = 3 then ∃ g, v = .slice (some ⟨g, 0, none⟩) 1 1 ∧ lo ≤ g ∧ g < w.heap.size ∧ w.cell? ⟨g, 0, none⟩ = some lv_ else
  if i = 4 ∨ i = 5 ∨ i = 8 then v = .pointer (some ⟨b3, 1, none⟩) else
  if i = 6 then v = .slice A n c else
  if i = 9 then v = .pointer (some ⟨b3, 2, none⟩) else
  if i = 10 then v = dv else
  ∃ gq cq, n + 1 ≤ cq ∧ lo ≤ gq ∧ gq < w.heap.size ∧ (∀ (j : Nat) (u : Value), (lv_ :: vs)[j]? = some u → w.cell? ⟨gq, j, none⟩ = some u) ∧
    (if i = 7 then v = .slice (some ⟨gq, 0, none⟩) (n + 1) cq else if i = 11 then v = .agg #[.slice (some ⟨gq, 0, none⟩) (n + 1) cq, dv] else v = .agg #[.int .i64 (nl : Int), .slice (some ⟨gq, 0, none⟩) (n + 1) cq, dv])

theorem oR_mono {lo b3 nl n c : Nat} {lh dv : Value} {A : Option Addr} {vs : List Value} {i : Nat} {v : Value} {w w' : World} (h : oR lo b3 lh nl n A c dv vs i v w) (hg : w.grownBy w' none) : oR lo b3 lh nl n A c dv vs i v w' := by
  unfold oR at h ⊢
  by_cases h0 : i = 0 ∨ i = 2
  · rw [if_pos h0] at h ⊢; exact h
  rw [if_neg h0] at h ⊢
  by_cases h1 : i = 1
  · rw [if_pos h1] at h ⊢; exact h
  rw [if_neg h1] at h ⊢
  by_cases h3 : i = 3
  · rw [if_pos h3] at h ⊢
    obtain ⟨g, h4, h4', h5, h6⟩ := h
    exact ⟨g, h4, h4', Nat.lt_of_lt_of_le h5 hg.size, hg.cell h6 (by simp)⟩
  rw [if_neg h3] at h ⊢
  by_cases h4 : i = 4 ∨ i = 5 ∨ i = 8
  · rw [if_pos h4] at h ⊢; exact h
  rw [if_neg h4] at h ⊢
  by_cases h6 : i = 6
  · rw [if_pos h6] at h ⊢; exact h
  rw [if_neg h6] at h ⊢
  by_cases h9 : i = 9
  · rw [if_pos h9] at h ⊢; exact h
  rw [if_neg h9] at h ⊢
  by_cases h10 : i = 10
  · rw [if_pos h10] at h ⊢; exact h
  rw [if_neg h10] at h ⊢
  obtain ⟨gq, cq, a1, a0, a2, a3, a4⟩ := h
  exact ⟨gq, cq, a1, a0, Nat.lt_of_lt_of_le a2 hg.size, fun j u hj => hg.cell (a3 j u hj) (by simp), a4⟩

set_option maxRecDepth 100000 in
set_option maxHeartbeats 1000000 in
theorem souter_any (lo : Nat) (Al A B : Option Addr) (cl c e : Nat) (L : List Int) (k : Int) (LL : List (List Int)) (D : List Int) (w : World) (hlow : lo ≤ w.heap.size) (hL : RowN lo w Al L cl) (h : VctN lo w (.agg #[.int .i64 k, .slice A LL.length c, .slice B D.length e]) k LL D) (hn : LL.length ≤ 3) :
    Calls Try.prog 105 #[.slice Al L.length cl, .agg #[.int .i64 k, .slice A LL.length c, .slice B D.length e]] w fun ee w' => ∃ u, ee = .returned u ∧ w.grownBy w' none ∧ VctN lo w' u (L.length : Int) (L :: LL) D := by
  obtain ⟨-, -, hc1, hB, vs, hvl, hvA, hvR⟩ := hdrs h
  obtain ⟨n, hnn⟩ : ∃ n, LL.length = n := ⟨_, rfl⟩
  obtain ⟨m, hm⟩ : ∃ m, D.length = m := ⟨_, rfl⟩
  obtain ⟨nl, hnl⟩ : ∃ nl, L.length = nl := ⟨_, rfl⟩
  rw [hnn] at hn hvl hc1
  rw [hnn, hm, hnl]
  have HNN := Lib.hid hnn
  have HM := Lib.hid hm
  have HNL := Lib.hid hnl
  obtain ⟨lh, hlh⟩ : ∃ lh, Value.slice Al nl cl = lh := ⟨_, rfl⟩
  have HLH := Lib.hid hlh
  have HL := Lib.hid hL
  have HB := Lib.hid hB
  have HV := Lib.hid hvA
  have HR := Lib.hid hvR
  have HLW := Lib.hid hlow
  have HVL := Lib.hid hvl
  clear h hnn hm hnl hlh hL hB hvA hvR hc1 hvl hlow
  go_enter Try.func105, Try.ntmps105
  go_upto_region 1 with fail
  have HG := Lib.hid ((World.grownBy_alloc w (.cells #[.int .i64 k, .slice A n c, .slice B m e] 34) none).trans (World.grownBy_alloc _ (.cells #[.int .i64 0, .slice none 0 0, .slice none 0 0] 34) none))
  have HT3 := Lib.hid ((Tri.new w 34 (.int .i64 k) (.slice A n c) (.slice B m e)).alloc (.cells #[.int .i64 0, .slice none 0 0, .slice none 0 0] 34))
  have HT4 := Lib.hid (Tri.new (w.alloc (.cells #[.int .i64 k, .slice A n c, .slice B m e] 34)) 34 (.int .i64 0) (.slice none 0 0) (.slice none 0 0))
  have hsz : (w.alloc (.cells #[.int .i64 k, .slice A n c, .slice B m e] 34)).heap.size = w.heap.size + 1 := by simp
  generalize (w.alloc (.cells #[.int .i64 k, .slice A n c, .slice B m e] 34)).alloc (.cells #[.int .i64 0, .slice none 0 0, .slice none 0 0] 34) = u at HG HT3 HT4 ⊢
  rw [hsz] at HT4
  clear hsz
  refine wp_region_last (u := u) 18 13 rfl (by simp) (by kernel_rfl) (oR lo w.heap.size lh nl n A c (.slice B m e) vs) (by kernel_rfl) ?mono ?last ?step u (gr_drewN u 1 none)
  case mono => exact fun i v w1 w2 h hg => oR_mono h hg
  case last =>
    intro o a' w' ho hdf hgr hsz hfar hall
    cases ho
    obtain ⟨gq, cq, a1, a0, a2, a3, e0⟩ : ∃ gq cq, n + 1 ≤ cq ∧ lo ≤ gq ∧ gq < w'.heap.size ∧ (∀ (j : Nat) (u : Value), (lh :: vs)[j]? = some u → w'.cell? ⟨gq, j, none⟩ = some u) ∧ a'.tmps.getD 17 undef = .agg #[.int .i64 (nl : Int), .slice (some ⟨gq, 0, none⟩) (n + 1) cq, .slice B m e] := hall 12 _ 17 rfl rfl
    have e1 : a'.tmps.getD 4 undef = .pointer (some ⟨w.heap.size + 1, 0, none⟩) := hfar 4 (by kernel_rfl)
    have e0' : a'.tmps[17]?.getD undef = .agg #[.int .i64 (nl : Int), .slice (some ⟨gq, 0, none⟩) (n + 1) cq, .slice B m e] := by rw [← e0]; simp
    have e1' : a'.tmps[4]?.getD undef = .pointer (some ⟨w.heap.size + 1, 0, none⟩) := by rw [← e1]; simp
    have T4 := HT4.out.grown hgr (by simp)
    have c0 := T4.c0
    have c1 := T4.c1
    have c2 := T4.c2
    have f0 := T4.f 0
    have f1 := T4.f 1
    have f2 := T4.f 2
    have S1 := ((T4.set0 (.int .i64 (nl : Int))).set1 (.slice (some ⟨gq, 0, none⟩) (n + 1) cq)).set2 (.slice B m e)
    have hgz := ((gr_set w' (w.heap.size + 1) 0 (.int .i64 (nl : Int))).trans (gr_set _ (w.heap.size + 1) 1 (.slice (some ⟨gq, 0, none⟩) (n + 1) cq))).trans (gr_set ((w'.setCell ⟨w.heap.size + 1, 0, none⟩ (.int .i64 (nl : Int))).setCell ⟨w.heap.size + 1, 1, none⟩ (.slice (some ⟨gq, 0, none⟩) (n + 1) cq)) (w.heap.size + 1) 2 (.slice B m e))
    have hgw := HG.out.trans hgr
    have hgf := gr_ownF hgw hgz (fun q hq => by cases hq; omega)
    have hqne : gq ≠ w.heap.size + 1 := fun e2 => by
      have h1 := a3 0 lh rfl
      rw [e2, c0, ← HLH.out] at h1
      cases h1
    go_simp
    go_wp2_with fail
    have s0 := S1.c0
    have s1 := S1.c1
    have s2 := S1.c2
    refine bodyPost_ret (v := .agg #[.int .i64 (nl : Int), .slice (some ⟨gq, 0, none⟩) (n + 1) cq, .slice B m e]) (by simp [results, Try.results105, go_sem, e1', s0, s1, s2]) hdf ?_
    have hcells : ∀ (j : Nat) (u : Value), (lh :: vs)[j]? = some u → (((w'.setCell ⟨w.heap.size + 1, 0, none⟩ (.int .i64 (nl : Int))).setCell ⟨w.heap.size + 1, 1, none⟩ (.slice (some ⟨gq, 0, none⟩) (n + 1) cq)).setCell ⟨w.heap.size + 1, 2, none⟩ (.slice B m e)).cell? ⟨gq, j, none⟩ = some u := fun j u hj => hgz.cell (a3 j u hj) (fun e2 => hqne (by simpa using e2))
    generalize ((w'.setCell ⟨w.heap.size + 1, 0, none⟩ (.int .i64 (nl : Int))).setCell ⟨w.heap.size + 1, 1, none⟩ (.slice (some ⟨gq, 0, none⟩) (n + 1) cq)).setCell ⟨w.heap.size + 1, 2, none⟩ (.slice B m e) = w9 at hgz hgf hcells ⊢
    have hwz : ∀ {Aj : Option Addr} {M : List Int} {cj : Nat}, RowN lo w Aj M cj → RowN lo w9 Aj M cj := fun h => h.move hgf (by simp)
    refine ⟨_, rfl, hgf, some ⟨gq, 0, none⟩, cq, B, e, by rw [HM.out, List.length_cons, HNN.out], by rw [List.length_cons, HNN.out]; exact a1, hwz HB.out, fun _ => ⟨gq, 0, rfl, a0, Nat.lt_of_lt_of_le a2 hgz.size, fun j M hj => ?_⟩⟩
    cases j with
    | zero =>
      simp only [List.getElem?_cons_zero, Option.some.injEq] at hj
      subst hj
      have h3 := hcells 0 lh rfl
      rw [← HLH.out] at h3
      exact ⟨Al, cl, by rw [HNL.out]; exact h3, hwz HL.out⟩
    | succ j =>
      obtain ⟨Aj, cj, b1, b2⟩ := HR.out j M (by simpa using hj)
      exact ⟨Aj, cj, by rw [Nat.zero_add]; exact hcells (j + 1) _ (by simpa using b1), hwz b2⟩
  case step =>
    refine ⟨.inr ?_, .inr ?_, .inr ?_, .inr ?_, .inr ?_, .inr ?_, .inr ?_, .inr ?_, .inr ?_, .inr ?_, .inr ?_, .inr ?_, .inr ?_, .inl rfl, trivial⟩
    · intro a' w' hdf hgr hfar hdep
      have e0 : a'.tmps.getD 0 undef = .slice Al nl cl := hfar 0 (by kernel_rfl)
      have e1 := HLH.out
      go_simp
      exact ⟨_, rfl, gr_refl _ _, rfl⟩
    · intro a' w' hdf hgr hfar hdep
      have e0 : a'.tmps.getD 5 undef = lh := hdep 0 _ 5 (by kernel_rfl) rfl rfl
      rw [← HLH.out] at e0
      go_simp
      exact ⟨_, rfl, gr_refl _ _, rfl⟩
    · intro a' w' hdf hgr hfar hdep
      have e0 : a'.tmps.getD 0 undef = .slice Al nl cl := hfar 0 (by kernel_rfl)
      have e1 := HLH.out
      go_simp
      exact ⟨_, rfl, gr_refl _ _, rfl⟩
    · intro a' w' hdf hgr hfar hdep
      have e0 : a'.tmps.getD 7 undef = lh := hdep 2 _ 7 (by kernel_rfl) rfl rfl
      rw [← HLH.out] at e0
      have e0' : a'.tmps[7]?.getD undef = .slice Al nl cl := by rw [← e0]; simp
      go_simp
      exact ⟨_, rfl, World.grownBy_alloc _ _ _, _, rfl, Nat.le_trans HLW.out (HG.out.trans hgr).size, by simp, by rw [← HLH.out]; exact cell_of_row _ _ 0 _ _ (0, 0) (heap_alloc_new _ _)⟩
    · intro a' w' hdf hgr hfar hdep
      have e0 : a'.tmps.getD 3 undef = .pointer (some ⟨w.heap.size, 0, none⟩) := hfar 3 (by kernel_rfl)
      go_simp
      exact ⟨_, rfl, gr_refl _ _, rfl⟩
    · intro a' w' hdf hgr hfar hdep
      have e0 : a'.tmps.getD 9 undef = .pointer (some ⟨w.heap.size, 1, none⟩) := hdep 4 _ 9 (by kernel_rfl) rfl rfl
      go_simp
      exact ⟨_, rfl, gr_refl _ _, rfl⟩
    · intro a' w' hdf hgr hfar hdep
      have e0 : a'.tmps.getD 10 undef = .pointer (some ⟨w.heap.size, 1, none⟩) := hdep 5 _ 10 (by kernel_rfl) rfl rfl
      have f0 := (HT3.out.grown hgr (by simp)).c1
      go_simp
      exact ⟨_, rfl, gr_refl _ _, rfl⟩
    · intro a' w' hdf hgr hfar hdep
      obtain ⟨g8, e0, l8, h8, c8⟩ : ∃ g, a'.tmps.getD 8 undef = .slice (some ⟨g, 0, none⟩) 1 1 ∧ lo ≤ g ∧ g < w'.heap.size ∧ w'.cell? ⟨g, 0, none⟩ = some lh := hdep 3 _ 8 (by kernel_rfl) rfl rfl
      have e1 : a'.tmps.getD 11 undef = .slice A n c := hdep 6 _ 11 (by kernel_rfl) rfl rfl
      obtain ⟨v', w2, hrun, hg2, gq, cq, hv2, hcq, hlq, hgq, hcells⟩ := app_sls lo w' (Nat.le_trans HLW.out (HG.out.trans hgr).size) g8 l8 lh c8 h8 A n c vs HVL.out (fun j v hj => by
        obtain ⟨b, off, h1, h2⟩ := HV.out j v hj
        exact ⟨b, off, h1, (HG.out.trans hgr).cell h2 (by simp)⟩) (by omega) 22
      refine wp_append_run (.tmp 8) (.tmp 11) 22 rfl _ _ e0 e1 v' w2 hrun ?_
      exact ⟨v', rfl, hg2, gq, cq, hcq, hlq, hgq, hcells, hv2⟩
    · intro a' w' hdf hgr hfar hdep
      have e0 : a'.tmps.getD 3 undef = .pointer (some ⟨w.heap.size, 0, none⟩) := hfar 3 (by kernel_rfl)
      go_simp
      exact ⟨_, rfl, gr_refl _ _, rfl⟩
    · intro a' w' hdf hgr hfar hdep
      have e0 : a'.tmps.getD 13 undef = .pointer (some ⟨w.heap.size, 1, none⟩) := hdep 8 _ 13 (by kernel_rfl) rfl rfl
      go_simp
      exact ⟨_, rfl, gr_refl _ _, rfl⟩
    · intro a' w' hdf hgr hfar hdep
      have e0 : a'.tmps.getD 14 undef = .pointer (some ⟨w.heap.size, 2, none⟩) := hdep 9 _ 14 (by kernel_rfl) rfl rfl
      have f0 := (HT3.out.grown hgr (by simp)).c2
      go_simp
      exact ⟨_, rfl, gr_refl _ _, rfl⟩
    · intro a' w' hdf hgr hfar hdep
      obtain ⟨gq, cq, a1, a0, a2, a3, e0⟩ : ∃ gq cq, n + 1 ≤ cq ∧ lo ≤ gq ∧ gq < w'.heap.size ∧ (∀ (j : Nat) (u : Value), (lh :: vs)[j]? = some u → w'.cell? ⟨gq, j, none⟩ = some u) ∧ a'.tmps.getD 12 undef = .slice (some ⟨gq, 0, none⟩) (n + 1) cq := hdep 7 _ 12 (by kernel_rfl) rfl rfl
      have e1 : a'.tmps.getD 15 undef = .slice B m e := hdep 10 _ 15 (by kernel_rfl) rfl rfl
      have e0' : a'.tmps[12]?.getD undef = .slice (some ⟨gq, 0, none⟩) (n + 1) cq := by rw [← e0]; simp
      have e1' : a'.tmps[15]?.getD undef = .slice B m e := by rw [← e1]; simp
      go_simp
      exact ⟨_, rfl, gr_refl _ _, gq, cq, a1, a0, a2, a3, rfl⟩
    · intro a' w' hdf hgr hfar hdep
      obtain ⟨gq, cq, a1, a0, a2, a3, e0⟩ : ∃ gq cq, n + 1 ≤ cq ∧ lo ≤ gq ∧ gq < w'.heap.size ∧ (∀ (j : Nat) (u : Value), (lh :: vs)[j]? = some u → w'.cell? ⟨gq, j, none⟩ = some u) ∧ a'.tmps.getD 16 undef = .agg #[.slice (some ⟨gq, 0, none⟩) (n + 1) cq, .slice B m e] := hdep 11 _ 16 (by kernel_rfl) rfl rfl
      have e1 : a'.tmps.getD 6 undef = .int .i64 (nl : Int) := hdep 1 _ 6 (by kernel_rfl) rfl rfl
      have e0' : a'.tmps[16]?.getD undef = .agg #[.slice (some ⟨gq, 0, none⟩) (n + 1) cq, .slice B m e] := by rw [← e0]; simp
      have e1' : a'.tmps[6]?.getD undef = .int .i64 (nl : Int) := by rw [← e1]; simp
      go_simp
      exact ⟨_, rfl, gr_refl _ _, gq, cq, a1, a0, a2, a3, rfl⟩
end

end Go.Proofs.Ytdfanconjiiceaa
