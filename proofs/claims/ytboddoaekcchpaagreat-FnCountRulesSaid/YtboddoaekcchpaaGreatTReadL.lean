/- What the term reader's readLoop and read of the program do. -/
import Derived.Test.YtboddoaekcchpaaGreatTRead
import Derived.Test.YtboddoaekcchpaaGreatDig
import Derived.Deep.RegionLaw
import Derived.StillTailTactics
namespace Go.Proofs.YtboddoaekcchpaaGreat
open Go.RowKit

set_option maxRecDepth 100000 in
set_option maxHeartbeats 2000000 in
theorem tloop_any (g f p : Nat) (s : ByteArray) (hs : s.size ≤ 400) (c : Int) (hc : ba s p = c) (hc2 : c = 91 ∨ c = 123)
    (ih : ∀ (p : Nat) (w : World), p ≤ s.size → s.size < p + f → TRd w g s p → Calls Tryz.prog 46 #[.pointer (some ⟨g, 0, none⟩)] w (TPost s f p g w))
    (hf : s.size < p + 1 + f) (w : World) (h : TRd w g s (p + 1)) :
    Calls Tryz.prog 68 #[.pointer (some ⟨g, 0, none⟩), .int .u8 c] w (NPost 94 s (f + 1) p g w) := by
  have HI := Lib.hid ih
  have HR := Lib.hid h
  have HC := Lib.hid (show ba s p = 91 ∨ ba s p = 123 by rw [hc]; exact hc2)
  have HCE := Lib.hid hc
  have HLB := Lib.hid (fun w => lastbr_any c hc2 w)
  have hgw := h.lt
  have hp1 : p < s.size := ba_lt (by omega)
  clear ih h hc hc2
  go_enter Tryz.func68, Tryz.ntmps68
  go_wp2_with fail
  have HN := Lib.hid (c4_new w (.int .u8 c) (.int .u8 0) .nilIface .nilIface 97)
  have HR0 := Lib.hid (HR.out.alloc (.cells #[.int .u8 c, .int .u8 0, .nilIface, .nilIface] 97))
  have HG0 := Lib.hid (World.grownBy_alloc w (.cells #[.int .u8 c, .int .u8 0, .nilIface, .nilIface] 97) (some g))
  have HZ0 := Lib.hid (show (w.alloc (.cells #[.int .u8 c, .int .u8 0, .nilIface, .nilIface] 97)).heap.size = w.heap.size + 1 by simp)
  generalize w.alloc (.cells #[.int .u8 c, .int .u8 0, .nilIface, .nilIface] 97) = w0 at HN HR0 HG0 HZ0 ⊢
  cases hl : isL (ba s (p + 1))
  · refine (tofL_no g (p + 1) s _ HR0.out (by omega) hs hl).mono ?_
    rintro e w1 ⟨⟨b, rfl⟩, hg1⟩
    exact ⟨rfl, npost_fell (tm_loop_n0 HC.out (by rw [hl]; simp)) (HG0.out.trans hg1) ⟨_, rfl⟩⟩
  have hp2 : p + 1 < s.size := ba_lt (by have := isL_ge hl; omega)
  have HL := Lib.hid hl
  clear hl
  refine (tofL_yes g (p + 1) s _ HR0.out hs HL.out).mono ?_
  rintro e w1 ⟨rfl, hr1, hg1⟩
  have HN1 := Lib.hid (HN.out.grown hg1 (by simp; omega))
  have HG1 := Lib.hid (HG0.out.trans hg1)
  have HR1 := Lib.hid hr1
  have hz1 : w.heap.size + 1 ≤ w1.heap.size := by have := HZ0.out; have := hg1.size; omega
  have n1 := HN1.out.f 1
  have n1c := HN1.out.c1
  clear hr1 hg1
  obtain ⟨v, hvv⟩ : ∃ v, ba s (p + 1) = v := ⟨_, rfl⟩
  rw [hvv]
  have HVV := Lib.hid hvv
  clear hvv
  go_wp2_with fail
  have HN2 := Lib.hid (HN1.out.set1 (.int .u8 v))
  have HR2 := Lib.hid (HR1.out.far (k := w.heap.size) (i := 1) (by omega) (.int .u8 v))
  have HG2 := Lib.hid (gr_own (i := 1) HG1.out (Nat.le_refl _) (.int .u8 v))
  have hz2 : w.heap.size + 1 ≤ (w1.setCell ⟨w.heap.size, 1, none⟩ (.int .u8 v)).heap.size := by simpa using hz1
  generalize w1.setCell ⟨w.heap.size, 1, none⟩ (.int .u8 v) = w2 at HN2 HR2 HG2 hz2 ⊢
  clear HN1 HR1 HG1 n1 n1c hz1 HN HR0 HG0
  by_cases h58 : ba s (p + 1 + 1) = 58
  case neg =>
    refine (take_no g (p + 1 + 1) s 58 _ HR2.out h58).mono ?_
    rintro e w3 ⟨⟨b, rfl⟩, hg3⟩
    exact ⟨rfl, npost_fell (tm_loop_n0 HC.out (fun hh => h58 hh.2)) (HG2.out.trans hg3) ⟨_, rfl⟩⟩
  have hp3 : p + 1 + 1 < s.size := ba_lt (by omega)
  have H58 := Lib.hid h58
  clear h58
  refine (take_yes g (p + 1 + 1) s 58 _ HR2.out (by omega) H58.out hs).mono ?_
  rintro e w3 ⟨rfl, hr3, hg3⟩
  have HN3 := Lib.hid (HN2.out.grown hg3 (by simp; omega))
  have HG3 := Lib.hid (HG2.out.trans hg3)
  have HR3 := Lib.hid (show TRd w3 g s (p + 3) from hr3)
  have hz3 : w.heap.size + 1 ≤ w3.heap.size := Nat.le_trans hz2 hg3.size
  clear hr3 hg3 hz2 HN2 HR2 HG2
  go_wp2_with fail
  refine (HI.out (p + 3) _ (by omega) (by omega) HR3.out).mono ?_
  rintro e w4 ⟨hg4, ⟨x, q4, v4, hn4, rfl, hr4, ha4⟩ | ⟨hn4, b4, rfl⟩⟩
  case inr => exact ⟨rfl, npost_fell (tm_loop_n1 HC.out hn4) (HG3.out.trans hg4) ⟨_, rfl⟩⟩
  have g4 := tm_ge s f _ _ _ hn4
  have HN4 := Lib.hid (HN3.out.grown hg4 (by simp; omega))
  have HG4 := Lib.hid (HG3.out.trans hg4)
  have HX4 := Lib.hid (ha4.wide (S' := fun b => w.heap.size + 1 ≤ b) (fun b hb => by omega))
  obtain ⟨ty4, pv4, rfl⟩ := ha4.iface
  have n2 := HN4.out.f 2
  have n2c := HN4.out.c2
  have HM4 := Lib.hid hn4
  have HR4 := Lib.hid hr4
  have hz4 : w.heap.size + 1 ≤ w4.heap.size := Nat.le_trans hz3 hg4.size
  clear hn4 hg4 ha4 hr4 HN3 HG3 HR3 hz3
  go_wp2_with fail
  have HN5 := Lib.hid (HN4.out.set2 (.iface ty4 pv4))
  have HR5 := Lib.hid (HR4.out.far (k := w.heap.size) (i := 2) (by omega) (.iface ty4 pv4))
  have HG5 := Lib.hid (gr_own (i := 2) HG4.out (Nat.le_refl _) (.iface ty4 pv4))
  have HX5 := Lib.hid (HX4.out.far (b := w.heap.size) (i := 2) (by show ¬ (w.heap.size + 1 ≤ w.heap.size); omega) (.iface ty4 pv4))
  have hz5 : w.heap.size + 1 ≤ (w4.setCell ⟨w.heap.size, 2, none⟩ (.iface ty4 pv4)).heap.size := by simpa using hz4
  generalize w4.setCell ⟨w.heap.size, 2, none⟩ (.iface ty4 pv4) = w5 at HN5 HR5 HG5 HX5 hz5 ⊢
  clear HN4 HR4 HG4 HX4 n2 n2c hz4
  by_cases h62 : ba s q4 = 62
  case neg =>
    refine (take_no g q4 s 62 _ HR5.out h62).mono ?_
    rintro e w6 ⟨⟨b, rfl⟩, hg6⟩
    exact ⟨rfl, npost_fell (tm_loop_n2 HC.out HM4.out h62) (HG5.out.trans hg6) ⟨_, rfl⟩⟩
  have hq4 : q4 < s.size := ba_lt (by omega)
  have H62 := Lib.hid h62
  clear h62
  refine (take_yes g q4 s 62 _ HR5.out (by omega) H62.out hs).mono ?_
  rintro e w6 ⟨rfl, hr6, hg6⟩
  have HN6 := Lib.hid (HN5.out.grown hg6 (by simp; omega))
  have HX6 := Lib.hid (HX5.out.more hg6 (by show ¬ (w.heap.size + 1 ≤ g); omega))
  have HG6 := Lib.hid (HG5.out.trans hg6)
  have HR6 := Lib.hid (show TRd w6 g s (q4 + 1) from hr6)
  have hz6 : w.heap.size + 1 ≤ w6.heap.size := Nat.le_trans hz5 hg6.size
  clear hr6 hg6 hz5 HN5 HR5 HG5 HX5
  go_wp2_with fail
  refine (HI.out (q4 + 1) _ (by omega) (by omega) HR6.out).mono ?_
  rintro e w7 ⟨hg7, ⟨y, q7, v7, hn7, rfl, hr7, ha7⟩ | ⟨hn7, b7, rfl⟩⟩
  case inr => exact ⟨rfl, npost_fell (tm_loop_n3 HC.out HM4.out hn7) (HG6.out.trans hg7) ⟨_, rfl⟩⟩
  have g7 := tm_ge s f _ _ _ hn7
  have HN7 := Lib.hid (HN6.out.grown hg7 (by simp; omega))
  have HX7 := Lib.hid (HX6.out.more hg7 (by show ¬ (w.heap.size + 1 ≤ g); omega))
  have HG7 := Lib.hid (HG6.out.trans hg7)
  have HR7 := Lib.hid hr7
  have HY7 := Lib.hid (ha7.wide (S' := fun b => w.heap.size + 1 ≤ b) (fun b hb => by omega))
  obtain ⟨ty7, pv7, rfl⟩ := ha7.iface
  have n3 := HN7.out.f 3
  have n3c := HN7.out.c3
  have HM7 := Lib.hid hn7
  clear hn7 hg7 ha7 hr7 hz6 HN6 HR6 HG6 HX6
  go_wp2_with fail
  have HN8 := Lib.hid (HN7.out.set3 (.iface ty7 pv7))
  have HR8 := Lib.hid (HR7.out.far (k := w.heap.size) (i := 3) (by omega) (.iface ty7 pv7))
  have HG8 := Lib.hid (gr_own (i := 3) HG7.out (Nat.le_refl _) (.iface ty7 pv7))
  have HX8 := Lib.hid (HX7.out.far (b := w.heap.size) (i := 3) (by show ¬ (w.heap.size + 1 ≤ w.heap.size); omega) (.iface ty7 pv7))
  have HY8 := Lib.hid (HY7.out.far (b := w.heap.size) (i := 3) (by show ¬ (w.heap.size + 1 ≤ w.heap.size); omega) (.iface ty7 pv7))
  generalize w7.setCell ⟨w.heap.size, 3, none⟩ (.iface ty7 pv7) = w8 at HN8 HR8 HG8 HX8 HY8 ⊢
  clear HN7 HR7 HG7 HX7 HY7 n3 n3c
  by_cases hlast : ba s q7 = c + 2
  · have HLA := Lib.hid hlast
    clear hlast
    have hc0 : 0 ≤ c + 2 := by rcases HC.out with e | e <;> (rw [HCE.out] at e; omega)
    go_region_law (first
      | (go_simp
         go_at_call 84
         refine (HLB.out _).mono ?_
         rintro e w9 ⟨rfl, rfl⟩)
      | (go_simp
         go_at_call 83
         refine (take_yes g q7 s (c + 2) _ (HR8.out.drewN _) hc0 HLA.out hs).mono ?_
         rintro e w9 ⟨rfl, hr9, hg9⟩
         have HN9 := Lib.hid ((HN8.out.drewN 1).grown hg9 (by simp; omega))
         have HX9 := Lib.hid (HX8.out.more ((gr_drewN w8 1 (some g)).trans hg9) (by show ¬ (w.heap.size + 1 ≤ g); omega))
         have HY9 := Lib.hid (HY8.out.more ((gr_drewN w8 1 (some g)).trans hg9) (by show ¬ (w.heap.size + 1 ≤ g); omega))
         have HG9 := Lib.hid (HG8.out.trans ((gr_drewN w8 1 (some g)).trans hg9))
         have HR9 := Lib.hid hr9
         clear hr9 hg9))
    all_goals
      go_wp2_with fail
      go_ret
      refine npost_ok (tm_loop_s HC.out HL.out (show ba s (p + 2) = 58 from H58.out) HM4.out H62.out HM7.out (HLA.out.trans (by rw [HCE.out]))) HG9.out rfl HR9.out ?_
      rw [HCE.out, HVV.out]
      exact ⟨_, _, _, rfl, Nat.le_refl _, HN9.out, HX9.out.wide (fun b hb => by omega), HY9.out.wide (fun b hb => by omega)⟩
  · have HLA := Lib.hid hlast
    clear hlast
    have HR9 := Lib.hid (HR8.out.drewN 1)
    refine wp_region_still_tail 5 (by kernel_rfl) (by kernel_rfl) ?_
    simp only [List.take_succ_cons, List.take_zero, List.drop_succ_cons, List.drop_zero]
    iterate 4 still_step
    still_call (HLB.out _)
    refine wpStill_nil ?_
    change wpList _ _ _ _ _ (w8.drewN 1)
    go_wp2_with fail
    refine (take_no g q7 s (c + 2) _ HR9.out HLA.out).mono ?_
    rintro e w9 ⟨⟨b9, rfl⟩, hg9⟩
    exact ⟨rfl, npost_fell (tm_loop_n4 HC.out HM4.out HM7.out (by rw [HCE.out]; exact HLA.out)) (HG8.out.trans ((gr_drewN w8 1 (some g)).trans hg9)) ⟨_, rfl⟩⟩

theorem box2 (w : World) (x y : Value) (ty : TypeId) : (w.alloc (.cells #[x, y] ty)).heap[w.heap.size]? = some (.cells #[x, y] ty (0, 0)) := heap_alloc_new _ _

set_option maxHeartbeats 1000000 in
theorem tread_any (g : Nat) (s : ByteArray) (hs : s.size ≤ 400) : ∀ (f p : Nat) (w : World), p ≤ s.size → s.size < p + f → TRd w g s p →
    Calls Tryz.prog 46 #[.pointer (some ⟨g, 0, none⟩)] w (TPost s f p g w)
  | 0, p, w, hp, hf, h => by omega
  | f + 1, p, w, hp, hf, h => by
    have HI := Lib.hid (tread_any g s hs f)
    have HR := Lib.hid h
    have hgw := h.lt
    clear h
    rcases Nat.lt_or_ge p s.size with hlt | hge
    case inr =>
      have H1 := Lib.hid (tnext_no g p s w HR.out (by omega))
      have HN := Lib.hid (tm_out (f := f) hge)
      clear hge
      go_enter Tryz.func46, Tryz.ntmps46
      go_wp2_with fail
      refine H1.out.mono ?_
      rintro e w1 ⟨⟨b, rfl⟩, hg1⟩
      exact ⟨rfl, tpost_fell HN.out hg1 ⟨_, rfl⟩⟩
    have H1 := Lib.hid (tnext_yes g p s w HR.out hlt hs)
    obtain ⟨c, hc⟩ : ∃ c, ba s p = c := ⟨_, rfl⟩
    have hc0 : 0 ≤ c := by rw [← hc, ba_in hlt]; omega
    have hc1 : c ≤ 255 := by rw [← hc]; exact ba_hi s p
    rw [hc] at H1
    have HC := Lib.hid hc
    clear hc
    cases hD : isD c
    case true =>
      have HX := Lib.hid (fun w => isdigit_any c true hD w)
      have HM := Lib.hid (show tm s (f + 1) p = some (.dig c, p + 1) by have := tm_dig (s := s) (p := p) (f := f) (by rw [HC.out]; exact hD); rw [HC.out] at this; exact this)
      clear hD
      go_enter Tryz.func46, Tryz.ntmps46
      go_wp2_with fail
      refine H1.out.mono ?_
      rintro e w1 ⟨rfl, hr1, hg1⟩
      have HR1 := Lib.hid hr1
      have HG1 := Lib.hid hg1
      clear hr1 hg1
      go_wp2_with fail
      refine (HX.out w1).mono ?_
      rintro e w' ⟨rfl, rfl⟩
      go_wp2_with fail
      go_ret
      exact tpost_ok HM.out HG1.out rfl HR1.out rfl
    have HXD := Lib.hid (fun w => isdigit_any c false hD w)
    have HD := Lib.hid hD
    clear hD
    cases hV : isV c
    case true =>
      have HX := Lib.hid (fun w => oneofV c hc0 hc1 true hV w)
      have HM := Lib.hid (show tm s (f + 1) p = some (.var c, p + 1) by have := tm_var (s := s) (p := p) (f := f) (by rw [HC.out]; exact hV); rw [HC.out] at this; exact this)
      clear hV
      go_enter Tryz.func46, Tryz.ntmps46
      go_wp2_with fail
      refine H1.out.mono ?_
      rintro e w1 ⟨rfl, hr1, hg1⟩
      have HR1 := Lib.hid hr1
      have HG1 := Lib.hid hg1
      clear hr1 hg1
      go_wp2_with fail
      refine (HXD.out w1).mono ?_
      rintro e w' ⟨rfl, rfl⟩
      go_wp2_with fail
      refine (HX.out w').mono ?_
      rintro e w' ⟨rfl, rfl⟩
      go_wp2_with fail
      go_ret
      exact tpost_ok HM.out HG1.out rfl HR1.out rfl
    have HXV := Lib.hid (fun w => oneofV c hc0 hc1 false hV w)
    have HV := Lib.hid hV
    clear hV
    cases hP : isP c
    case true =>
      have HX := Lib.hid (fun w => oneofP c hc0 hc1 true hP w)
      have HP := Lib.hid hP
      clear hP
      go_enter Tryz.func46, Tryz.ntmps46
      go_wp2_with fail
      refine H1.out.mono ?_
      rintro e w1 ⟨rfl, hr1, hg1⟩
      have HR1 := Lib.hid hr1
      have HG1 := Lib.hid hg1
      clear hr1 hg1
      go_wp2_with fail
      refine (HXD.out w1).mono ?_
      rintro e w' ⟨rfl, rfl⟩
      go_wp2_with fail
      refine (HXV.out w').mono ?_
      rintro e w' ⟨rfl, rfl⟩
      go_wp2_with fail
      refine (HX.out w').mono ?_
      rintro e w' ⟨rfl, rfl⟩
      go_wp2_with fail
      refine (HI.out (p + 1) _ (by omega) (by omega) HR1.out).mono ?_
      rintro e w2 ⟨hg2, ⟨x, q2, v2, hn2, rfl, hr2, ha2⟩ | ⟨hn2, b2, rfl⟩⟩
      case inr => exact ⟨rfl, tpost_fell (tm_pre_n (by rw [HC.out]; exact HP.out) hn2) (HG1.out.trans hg2) ⟨_, rfl⟩⟩
      obtain ⟨ty2, pv2, rfl⟩ := ha2.iface
      have HG2 := Lib.hid (HG1.out.trans hg2)
      have HR2 := Lib.hid hr2
      have HM2 := Lib.hid hn2
      have HZ2 := Lib.hid (Nat.le_trans HG1.out.size hg2.size)
      have HZ1 := Lib.hid HG1.out.size
      have HA2 := Lib.hid ha2
      clear hg2 hr2 hn2 ha2
      go_wp2_with fail
      go_ret
      refine tpost_ok (tm_pre_s (by rw [HC.out]; exact HP.out) HM2.out) (HG2.out.trans (World.grownBy_alloc _ _ _)) rfl (HR2.out.alloc _) ?_
      rw [HC.out]
      exact ⟨_, _, rfl, HZ2.out, box2 _ _ _ _, HA2.out.keep (fun b _ hb => Below.heap_alloc _ _ _ hb) (fun b hb _ => Nat.le_trans HZ1.out hb) _ _⟩
    have HXP := Lib.hid (fun w => oneofP c hc0 hc1 false hP w)
    have HP := Lib.hid hP
    clear hP
    by_cases h40 : c = 40
    · subst h40
      have HN40 := Lib.hid (tpair_any g f p s hs HC.out HI.out (by omega))
      go_enter Tryz.func46, Tryz.ntmps46
      go_wp2_with fail
      refine H1.out.mono ?_
      rintro e w1 ⟨rfl, hr1, hg1⟩
      have HR1 := Lib.hid hr1
      have HG1 := Lib.hid hg1
      clear hr1 hg1
      go_wp2_with fail
      refine (HXD.out w1).mono ?_
      rintro e w' ⟨rfl, rfl⟩
      go_wp2_with fail
      refine (HXV.out w').mono ?_
      rintro e w' ⟨rfl, rfl⟩
      go_wp2_with fail
      refine (HXP.out w').mono ?_
      rintro e w' ⟨rfl, rfl⟩
      go_wp2_with fail
      refine (HN40.out w' HR1.out).mono ?_
      rintro e w2 ⟨hg2, ⟨t, q2, b2, hn2, rfl, hr2, ha2⟩ | ⟨hn2, b2, rfl⟩⟩
      case inr => exact ⟨rfl, tpost_fell hn2 (HG1.out.trans hg2) ⟨_, rfl⟩⟩
      have HG2 := Lib.hid (HG1.out.trans hg2)
      have HZ1 := Lib.hid HG1.out.size
      have HR2 := Lib.hid hr2
      have HM2 := Lib.hid hn2
      have HA2 := Lib.hid ha2
      clear hg2 hr2 hn2 ha2
      go_wp2_with fail
      go_ret
      exact tpost_ok HM2.out HG2.out rfl HR2.out (HA2.out.wide (fun b hb => Nat.le_trans HZ1.out hb))
    by_cases h91 : c = 91 ∨ c = 123
    · have HN91 := Lib.hid (tloop_any g f p s hs c HC.out h91 HI.out (by omega))
      have hb40 : (c == 40) = false := by rw [beq_eq_false_iff_ne]; omega
      have H91 := Lib.hid h91
      rcases h91 with rfl | rfl
      all_goals
        go_enter Tryz.func46, Tryz.ntmps46
        go_wp2_with fail
        refine H1.out.mono ?_
        rintro e w1 ⟨rfl, hr1, hg1⟩
        have HR1 := Lib.hid hr1
        have HG1 := Lib.hid hg1
        clear hr1 hg1
        go_wp2_with fail
        refine (HXD.out w1).mono ?_
        rintro e w' ⟨rfl, rfl⟩
        go_wp2_with fail
        refine (HXV.out w').mono ?_
        rintro e w' ⟨rfl, rfl⟩
        go_wp2_with fail
        refine (HXP.out w').mono ?_
        rintro e w' ⟨rfl, rfl⟩
        go_wp2_with fail
        refine (HN91.out w' HR1.out).mono ?_
        rintro e w2 ⟨hg2, ⟨t, q2, b2, hn2, rfl, hr2, ha2⟩ | ⟨hn2, b2, rfl⟩⟩
        case inr => exact ⟨rfl, tpost_fell hn2 (HG1.out.trans hg2) ⟨_, rfl⟩⟩
        have HG2 := Lib.hid (HG1.out.trans hg2)
        have HZ1 := Lib.hid HG1.out.size
        have HR2 := Lib.hid hr2
        have HM2 := Lib.hid hn2
        have HA2 := Lib.hid ha2
        clear hg2 hr2 hn2 ha2
        go_wp2_with fail
        go_ret
        exact tpost_ok HM2.out HG2.out rfl HR2.out (HA2.out.wide (fun b hb => Nat.le_trans HZ1.out hb))
    · have hb40 : (c == 40) = false := by rw [beq_eq_false_iff_ne]; omega
      have hb91 : (c == 91) = false := by rw [beq_eq_false_iff_ne]; omega
      have hb123 : (c == 123) = false := by rw [beq_eq_false_iff_ne]; omega
      have HM := Lib.hid (show tm s (f + 1) p = none from tm_none (by rw [HC.out]; exact HD.out) (by rw [HC.out]; exact HV.out) (by rw [HC.out]; exact HP.out) (by rw [HC.out]; exact h40) (by rw [HC.out]; omega) (by rw [HC.out]; omega))
      clear h40 h91
      go_enter Tryz.func46, Tryz.ntmps46
      go_wp2_with fail
      refine H1.out.mono ?_
      rintro e w1 ⟨rfl, hr1, hg1⟩
      have HG1 := Lib.hid hg1
      clear hr1 hg1
      go_wp2_with fail
      refine (HXD.out w1).mono ?_
      rintro e w' ⟨rfl, rfl⟩
      go_wp2_with fail
      refine (HXV.out w').mono ?_
      rintro e w' ⟨rfl, rfl⟩
      go_wp2_with fail
      refine (HXP.out w').mono ?_
      rintro e w' ⟨rfl, rfl⟩
      go_wp2_with fail
      exact ⟨rfl, tpost_fell HM.out HG1.out ⟨_, rfl⟩⟩

end Go.Proofs.YtboddoaekcchpaaGreat
