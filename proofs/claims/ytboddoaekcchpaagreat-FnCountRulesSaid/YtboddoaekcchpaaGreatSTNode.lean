/- What the model's reader of terms does: node at digits, variables and signs ahead of a part; and where nothing fits. -/
import Derived.Test.YtboddoaekcchpaaGreatSTRd
namespace Go.Proofs.YtboddoaekcchpaaGreat
open Go.RowKit

theorem spost_bad {s : ByteArray} {f p g q : Nat} {w w' : World} {e : Ending} {a b : Int} {A : Option Addr} {k c : Nat} (hg : w.grownBy w' (some g)) (he : e = .returned (.agg #[.int .u8 a, .int .u8 b, .slice A k c])) (hn : tm s f p = none) (hq : q ≤ s.size) (hr : SR w' g s q true) :
    SPost s f p g w e w' := ⟨hg, a, b, A, k, c, he, .inr ⟨hn, q, hq, hr⟩⟩
theorem spost_ok {s : ByteArray} {f p g q : Nat} {w w' : World} {e : Ending} {a b : Int} {A : Option Addr} {k c : Nat} {t : Tm} (hg : w.grownBy w' (some g)) (he : e = .returned (.agg #[.int .u8 a, .int .u8 b, .slice A k c])) (hn : tm s f p = some (t, q)) (hr : SR w' g s q false)
    (ha : SN w' (fun b => w.heap.size ≤ b) t (a, b, .slice A k c)) : SPost s f p g w e w' := ⟨hg, a, b, A, k, c, he, .inl ⟨t, q, hn, hr, ha⟩⟩

/-- A row of nodes of a call's own, laid whole. -/
theorem row_new {w : World} {k : Nat} (xs : List (Int × Int × Value)) (cs : Array Value) (hcs : cs.toList = flat3 xs) (hk : w.heap.size = k) (hl : xs.length ≤ 10) :
    (w.alloc (.cells cs 57)).ownsRow 0 57 3 (.slice (some ⟨k, 0, none⟩) xs.length xs.length) xs.length (flat3 xs) := by
  subst hk
  have hz : cs.size = xs.length * 3 := by rw [← flat3_length, ← hcs]; simp
  refine ⟨flat3_length xs, .inr ⟨w.heap.size, xs.length, cs, rfl, Nat.zero_le _, heap_alloc_new w _, Nat.le_refl _, by unfold maxLen; omega, hz, ?_⟩⟩
  rw [← flat3_length, ← hcs]
  exact List.take_of_length_le (Nat.le_refl _)

set_option maxHeartbeats 1000000 in
theorem snode_dig (g f p : Nat) (s : ByteArray) (hs : s.size ≤ 1048576) (w : World) (h : SR w g s p false) (hp : p < s.size) (hd : isD (ba s p) = true) :
    Calls Tryz.prog 51 #[.pointer (some ⟨g, 0, none⟩)] w (SPost s (f + 1) p g w) := by
  have HR := Lib.hid h
  have hgw := h.lt
  have HR0 := Lib.hid (h.alloc (.cells #[.int .u8 0, .int .u8 0, .slice none 0 0] 57))
  have HN := Lib.hid (c3_new w (.int .u8 0) (.int .u8 0) (.slice none 0 0) 57)
  have HG0 := Lib.hid (World.grownBy_alloc w (.cells #[.int .u8 0, .int .u8 0, .slice none 0 0] 57) (some g))
  have HZ0 := Lib.hid (show (w.alloc (.cells #[.int .u8 0, .int .u8 0, .slice none 0 0] 57)).heap.size = w.heap.size + 1 by simp)
  clear h
  go_enter Tryz.func51, Tryz.ntmps51
  go_wp2_with fail
  refine (snext_any g p s false _ HR0.out hs).mono ?_
  generalize w.alloc (.cells #[.int .u8 0, .int .u8 0, .slice none 0 0] 57) = w0 at HR0 HN HG0 HZ0 ⊢
  rintro e w1 ⟨hg1, c, rfl, hc0, hc1, hcase⟩
  have HN1 := Lib.hid (HN.out.grown hg1 (by simp; omega))
  have HG1 := Lib.hid (HG0.out.trans hg1)
  have hz1 : w.heap.size + 1 ≤ w1.heap.size := by have := HZ0.out; have := hg1.size; omega
  clear hg1 HR0 HN HG0
  rcases hcase with ⟨hlt, hcb, hr1⟩ | ⟨hge, _⟩
  case inr => omega
  have HM := Lib.hid (show tm s (f + 1) p = some (.dig c, p + 1) by have := tm_dig (f := f) hd; rw [← hcb] at this; exact this)
  have HI := Lib.hid (fun w => in_any c 48 57 true (by rw [hcb]; exact hd) w)
  have HR1 := Lib.hid hr1
  have HB1 := Lib.hid (HN1.out.alloc (.cells #[] 57))
  clear hr1 hcb hd
  have n0 := HB1.out.c0
  have n1 := HB1.out.c1
  have n2 := HB1.out.c2
  have f0 := HB1.out.f 0
  have f1 := HB1.out.f 1
  have f2 := HB1.out.f 2
  go_wp2_with fail
  refine (HI.out w1).mono ?_
  rintro e w' ⟨rfl, rfl⟩
  go_wp2_with fail
  have HL := Lib.hid (HB1.out.laid (x' := .int .u8 48) (y' := .int .u8 c) (z' := (.slice (some ⟨w'.heap.size, 0, none⟩) 0 0)))
  clear n0 n1 n2 f0 f1 f2
  have n0 := HL.out.c0
  have n1 := HL.out.c1
  have n2 := HL.out.c2
  unfold laid3 at n0 n1 n2
  refine bodyPost_ret (v := .agg #[.int .u8 48, .int .u8 c, (.slice (some ⟨w'.heap.size, 0, none⟩) 0 0)]) (by simp [results, Tryz.results51, go_sem, n0, n1, n2]) rfl ?_
  refine spost_ok (gr_laid3 (HG1.out.trans (World.grownBy_alloc _ _ _)) (Nat.le_refl _) _ _ _) rfl HM.out ((HR1.out.alloc _).laid (by omega) _ _ _) ?_
  refine ⟨rfl, rfl, own_keep (row_new [] #[] rfl rfl (by simp)) (fun k hk => laid3_heap _ _ _ _ _ _ (by simp [Value.ownBlock] at hk; omega)), fun k hk => by simp [Value.ownBlock] at hk; omega⟩

set_option maxHeartbeats 1000000 in
theorem snode_var_a (g f p : Nat) (s : ByteArray) (hs : s.size ≤ 1048576) (w : World) (h : SR w g s p false) (hp : p < s.size) (hv : ba s p = 97) (hd : isV (ba s p) = true) :
    Calls Tryz.prog 51 #[.pointer (some ⟨g, 0, none⟩)] w (SPost s (f + 1) p g w) := by
  have HR := Lib.hid h
  have hgw := h.lt
  have HR0 := Lib.hid (h.alloc (.cells #[.int .u8 0, .int .u8 0, .slice none 0 0] 57))
  have HN := Lib.hid (c3_new w (.int .u8 0) (.int .u8 0) (.slice none 0 0) 57)
  have HG0 := Lib.hid (World.grownBy_alloc w (.cells #[.int .u8 0, .int .u8 0, .slice none 0 0] 57) (some g))
  have HZ0 := Lib.hid (show (w.alloc (.cells #[.int .u8 0, .int .u8 0, .slice none 0 0] 57)).heap.size = w.heap.size + 1 by simp)
  clear h
  go_enter Tryz.func51, Tryz.ntmps51
  go_wp2_with fail
  refine (snext_any g p s false _ HR0.out hs).mono ?_
  generalize w.alloc (.cells #[.int .u8 0, .int .u8 0, .slice none 0 0] 57) = w0 at HR0 HN HG0 HZ0 ⊢
  rintro e w1 ⟨hg1, c, rfl, hc0, hc1, hcase⟩
  have HN1 := Lib.hid (HN.out.grown hg1 (by simp; omega))
  have HG1 := Lib.hid (HG0.out.trans hg1)
  have hz1 : w.heap.size + 1 ≤ w1.heap.size := by have := HZ0.out; have := hg1.size; omega
  clear hg1 HR0 HN HG0
  rcases hcase with ⟨hlt, hcb, hr1⟩ | ⟨hge, _⟩
  case inr => omega
  have HM := Lib.hid (show tm s (f + 1) p = some (.var c, p + 1) by have := tm_var (f := f) hd; rw [← hcb] at this; exact this)
  rw [← hcb] at hv
  have HI := Lib.hid (fun w => in_any c 48 57 false (by rw [decide_eq_false_iff_not]; omega) w)
  subst hv
  have HR1 := Lib.hid hr1
  have HB1 := Lib.hid (HN1.out.alloc (.cells #[] 57))
  clear hr1 hcb hd
  have n0 := HB1.out.c0
  have n1 := HB1.out.c1
  have n2 := HB1.out.c2
  have f0 := HB1.out.f 0
  have f1 := HB1.out.f 1
  have f2 := HB1.out.f 2
  go_wp2_with fail
  refine (HI.out w1).mono ?_
  rintro e w' ⟨rfl, rfl⟩
  go_wp2_with fail
  have HL := Lib.hid (HB1.out.laid (x' := .int .u8 97) (y' := .int .u8 97) (z' := (.slice (some ⟨w'.heap.size, 0, none⟩) 0 0)))
  clear n0 n1 n2 f0 f1 f2
  have n0 := HL.out.c0
  have n1 := HL.out.c1
  have n2 := HL.out.c2
  unfold laid3 at n0 n1 n2
  refine bodyPost_ret (v := .agg #[.int .u8 97, .int .u8 97, (.slice (some ⟨w'.heap.size, 0, none⟩) 0 0)]) (by simp [results, Tryz.results51, go_sem, n0, n1, n2]) rfl ?_
  refine spost_ok (gr_laid3 (HG1.out.trans (World.grownBy_alloc _ _ _)) (Nat.le_refl _) _ _ _) rfl HM.out ((HR1.out.alloc _).laid (by omega) _ _ _) ?_
  refine ⟨rfl, rfl, own_keep (row_new [] #[] rfl rfl (by simp)) (fun k hk => laid3_heap _ _ _ _ _ _ (by simp [Value.ownBlock] at hk; omega)), fun k hk => by simp [Value.ownBlock] at hk; omega⟩

set_option maxHeartbeats 1000000 in
theorem snode_var_b (g f p : Nat) (s : ByteArray) (hs : s.size ≤ 1048576) (w : World) (h : SR w g s p false) (hp : p < s.size) (hv : ba s p = 98) (hd : isV (ba s p) = true) :
    Calls Tryz.prog 51 #[.pointer (some ⟨g, 0, none⟩)] w (SPost s (f + 1) p g w) := by
  have HR := Lib.hid h
  have hgw := h.lt
  have HR0 := Lib.hid (h.alloc (.cells #[.int .u8 0, .int .u8 0, .slice none 0 0] 57))
  have HN := Lib.hid (c3_new w (.int .u8 0) (.int .u8 0) (.slice none 0 0) 57)
  have HG0 := Lib.hid (World.grownBy_alloc w (.cells #[.int .u8 0, .int .u8 0, .slice none 0 0] 57) (some g))
  have HZ0 := Lib.hid (show (w.alloc (.cells #[.int .u8 0, .int .u8 0, .slice none 0 0] 57)).heap.size = w.heap.size + 1 by simp)
  clear h
  go_enter Tryz.func51, Tryz.ntmps51
  go_wp2_with fail
  refine (snext_any g p s false _ HR0.out hs).mono ?_
  generalize w.alloc (.cells #[.int .u8 0, .int .u8 0, .slice none 0 0] 57) = w0 at HR0 HN HG0 HZ0 ⊢
  rintro e w1 ⟨hg1, c, rfl, hc0, hc1, hcase⟩
  have HN1 := Lib.hid (HN.out.grown hg1 (by simp; omega))
  have HG1 := Lib.hid (HG0.out.trans hg1)
  have hz1 : w.heap.size + 1 ≤ w1.heap.size := by have := HZ0.out; have := hg1.size; omega
  clear hg1 HR0 HN HG0
  rcases hcase with ⟨hlt, hcb, hr1⟩ | ⟨hge, _⟩
  case inr => omega
  have HM := Lib.hid (show tm s (f + 1) p = some (.var c, p + 1) by have := tm_var (f := f) hd; rw [← hcb] at this; exact this)
  rw [← hcb] at hv
  have HI := Lib.hid (fun w => in_any c 48 57 false (by rw [decide_eq_false_iff_not]; omega) w)
  subst hv
  have HR1 := Lib.hid hr1
  have HB1 := Lib.hid (HN1.out.alloc (.cells #[] 57))
  clear hr1 hcb hd
  have n0 := HB1.out.c0
  have n1 := HB1.out.c1
  have n2 := HB1.out.c2
  have f0 := HB1.out.f 0
  have f1 := HB1.out.f 1
  have f2 := HB1.out.f 2
  go_wp2_with fail
  refine (HI.out w1).mono ?_
  rintro e w' ⟨rfl, rfl⟩
  go_wp2_with fail
  have HL := Lib.hid (HB1.out.laid (x' := .int .u8 97) (y' := .int .u8 98) (z' := (.slice (some ⟨w'.heap.size, 0, none⟩) 0 0)))
  clear n0 n1 n2 f0 f1 f2
  have n0 := HL.out.c0
  have n1 := HL.out.c1
  have n2 := HL.out.c2
  unfold laid3 at n0 n1 n2
  refine bodyPost_ret (v := .agg #[.int .u8 97, .int .u8 98, (.slice (some ⟨w'.heap.size, 0, none⟩) 0 0)]) (by simp [results, Tryz.results51, go_sem, n0, n1, n2]) rfl ?_
  refine spost_ok (gr_laid3 (HG1.out.trans (World.grownBy_alloc _ _ _)) (Nat.le_refl _) _ _ _) rfl HM.out ((HR1.out.alloc _).laid (by omega) _ _ _) ?_
  refine ⟨rfl, rfl, own_keep (row_new [] #[] rfl rfl (by simp)) (fun k hk => laid3_heap _ _ _ _ _ _ (by simp [Value.ownBlock] at hk; omega)), fun k hk => by simp [Value.ownBlock] at hk; omega⟩

set_option maxHeartbeats 1000000 in
theorem snode_var_r (g f p : Nat) (s : ByteArray) (hs : s.size ≤ 1048576) (w : World) (h : SR w g s p false) (hp : p < s.size) (hv : 118 ≤ ba s p ∧ ba s p ≤ 122) (hd : isV (ba s p) = true) :
    Calls Tryz.prog 51 #[.pointer (some ⟨g, 0, none⟩)] w (SPost s (f + 1) p g w) := by
  have HR := Lib.hid h
  have hgw := h.lt
  have HR0 := Lib.hid (h.alloc (.cells #[.int .u8 0, .int .u8 0, .slice none 0 0] 57))
  have HN := Lib.hid (c3_new w (.int .u8 0) (.int .u8 0) (.slice none 0 0) 57)
  have HG0 := Lib.hid (World.grownBy_alloc w (.cells #[.int .u8 0, .int .u8 0, .slice none 0 0] 57) (some g))
  have HZ0 := Lib.hid (show (w.alloc (.cells #[.int .u8 0, .int .u8 0, .slice none 0 0] 57)).heap.size = w.heap.size + 1 by simp)
  clear h
  go_enter Tryz.func51, Tryz.ntmps51
  go_wp2_with fail
  refine (snext_any g p s false _ HR0.out hs).mono ?_
  generalize w.alloc (.cells #[.int .u8 0, .int .u8 0, .slice none 0 0] 57) = w0 at HR0 HN HG0 HZ0 ⊢
  rintro e w1 ⟨hg1, c, rfl, hc0, hc1, hcase⟩
  have HN1 := Lib.hid (HN.out.grown hg1 (by simp; omega))
  have HG1 := Lib.hid (HG0.out.trans hg1)
  have hz1 : w.heap.size + 1 ≤ w1.heap.size := by have := HZ0.out; have := hg1.size; omega
  clear hg1 HR0 HN HG0
  rcases hcase with ⟨hlt, hcb, hr1⟩ | ⟨hge, _⟩
  case inr => omega
  have HM := Lib.hid (show tm s (f + 1) p = some (.var c, p + 1) by have := tm_var (f := f) hd; rw [← hcb] at this; exact this)
  rw [← hcb] at hv
  have HI := Lib.hid (fun w => in_any c 48 57 false (by rw [decide_eq_false_iff_not]; omega) w)
  have e97 : (c == 97) = false := by rw [beq_eq_false_iff_ne]; omega
  have e98 : (c == 98) = false := by rw [beq_eq_false_iff_ne]; omega
  have HJ := Lib.hid (fun w => in_any c 118 122 true (by rw [decide_eq_true_eq]; omega) w)
  have HR1 := Lib.hid hr1
  have HB1 := Lib.hid (HN1.out.alloc (.cells #[] 57))
  clear hr1 hcb hd hv
  have n0 := HB1.out.c0
  have n1 := HB1.out.c1
  have n2 := HB1.out.c2
  have f0 := HB1.out.f 0
  have f1 := HB1.out.f 1
  have f2 := HB1.out.f 2
  go_wp2_with fail
  refine (HI.out w1).mono ?_
  rintro e w' ⟨rfl, rfl⟩
  go_wp2_with fail
  refine (HJ.out w').mono ?_
  rintro e w' ⟨rfl, rfl⟩
  go_wp2_with fail
  have HL := Lib.hid (HB1.out.laid (x' := .int .u8 97) (y' := .int .u8 c) (z' := (.slice (some ⟨w'.heap.size, 0, none⟩) 0 0)))
  clear n0 n1 n2 f0 f1 f2
  have n0 := HL.out.c0
  have n1 := HL.out.c1
  have n2 := HL.out.c2
  unfold laid3 at n0 n1 n2
  refine bodyPost_ret (v := .agg #[.int .u8 97, .int .u8 c, (.slice (some ⟨w'.heap.size, 0, none⟩) 0 0)]) (by simp [results, Tryz.results51, go_sem, n0, n1, n2]) rfl ?_
  refine spost_ok (gr_laid3 (HG1.out.trans (World.grownBy_alloc _ _ _)) (Nat.le_refl _) _ _ _) rfl HM.out ((HR1.out.alloc _).laid (by omega) _ _ _) ?_
  refine ⟨rfl, rfl, own_keep (row_new [] #[] rfl rfl (by simp)) (fun k hk => laid3_heap _ _ _ _ _ _ (by simp [Value.ownBlock] at hk; omega)), fun k hk => by simp [Value.ownBlock] at hk; omega⟩

set_option maxHeartbeats 1000000 in
theorem snode_end (g f p : Nat) (s : ByteArray) (hs : s.size ≤ 1048576) (w : World) (h : SR w g s p false) (hp : s.size ≤ p) (hpe : p ≤ s.size) :
    Calls Tryz.prog 51 #[.pointer (some ⟨g, 0, none⟩)] w (SPost s (f + 1) p g w) := by
  have HR := Lib.hid h
  have hgw := h.lt
  have HR0 := Lib.hid (h.alloc (.cells #[.int .u8 0, .int .u8 0, .slice none 0 0] 57))
  have HN := Lib.hid (c3_new w (.int .u8 0) (.int .u8 0) (.slice none 0 0) 57)
  have HG0 := Lib.hid (World.grownBy_alloc w (.cells #[.int .u8 0, .int .u8 0, .slice none 0 0] 57) (some g))
  have HZ0 := Lib.hid (show (w.alloc (.cells #[.int .u8 0, .int .u8 0, .slice none 0 0] 57)).heap.size = w.heap.size + 1 by simp)
  clear h
  go_enter Tryz.func51, Tryz.ntmps51
  go_wp2_with fail
  refine (snext_any g p s false _ HR0.out hs).mono ?_
  generalize w.alloc (.cells #[.int .u8 0, .int .u8 0, .slice none 0 0] 57) = w0 at HR0 HN HG0 HZ0 ⊢
  rintro e w1 ⟨hg1, c, rfl, hc0, hc1, hcase⟩
  have HN1 := Lib.hid (HN.out.grown hg1 (by simp; omega))
  have HG1 := Lib.hid (HG0.out.trans hg1)
  have hz1 : w.heap.size + 1 ≤ w1.heap.size := by have := HZ0.out; have := hg1.size; omega
  clear hg1 HR0 HN HG0
  rcases hcase with ⟨hlt, _⟩ | ⟨hge, hcb, rfl, hr1⟩
  case inl => omega
  have HM := Lib.hid (tm_out (f := f) hp)
  have HI := Lib.hid (fun w => in_any 0 48 57 false (by rfl) w)
  have HJ := Lib.hid (fun w => in_any 0 118 122 false (by rfl) w)
  have HK := Lib.hid (fun w => findP 0 (by omega) (by omega) false (by rfl) w)
  have HR1 := Lib.hid hr1
  have rc2 := hr1.c2
  have rf2 := hr1.f 2
  have HR2 := Lib.hid (HR1.out.set2 true)
  have HS2 := Lib.hid (show C3 (w1.setCell ⟨g, 2, none⟩ (.bool true)) w.heap.size (.int .u8 0) (.int .u8 0) (.slice none 0 0) 57 from (Below.heap_setCell _ _ _ _ (by show w.heap.size ≠ g; omega)).trans HN1.out)
  clear hr1 hcb
  have n0 := HS2.out.c0
  have n1 := HS2.out.c1
  have n2 := HS2.out.c2
  have f0 := HS2.out.f 0
  have f1 := HS2.out.f 1
  have f2 := HS2.out.f 2
  go_wp2_with fail
  refine (HI.out w1).mono ?_
  rintro e w' ⟨rfl, rfl⟩
  go_wp2_with fail
  refine (HJ.out w').mono ?_
  rintro e w' ⟨rfl, rfl⟩
  go_wp2_with fail
  refine (HK.out w').mono ?_
  rintro e w' ⟨kk, rfl, hkk, rfl⟩
  go_wp2_with fail
  have HL := Lib.hid (HS2.out.laid (x' := .int .u8 0) (y' := .int .u8 0) (z' := (.slice none 0 0)))
  clear n0 n1 n2 f0 f1 f2
  have n0 := HL.out.c0
  have n1 := HL.out.c1
  have n2 := HL.out.c2
  unfold laid3 at n0 n1 n2
  refine bodyPost_ret (v := .agg #[.int .u8 0, .int .u8 0, (.slice none 0 0)]) (by simp [results, Tryz.results51, go_sem, n0, n1, n2]) rfl ?_
  exact spost_bad (gr_laid3 (HG1.out.trans (gr_set _ _ _ _)) (Nat.le_refl _) _ _ _) rfl HM.out (show p ≤ s.size from hpe) (HR2.out.laid (by omega) _ _ _)

set_option maxHeartbeats 1000000 in
theorem snode_none (g f p : Nat) (s : ByteArray) (hs : s.size ≤ 1048576) (w : World) (h : SR w g s p false) (hp : p < s.size) (hD' : isD (ba s p) = false) (hV' : isV (ba s p) = false) (hP' : isP (ba s p) = false) (h40' : ba s p ≠ 40) (h91' : ba s p ≠ 91) (h123' : ba s p ≠ 123) :
    Calls Tryz.prog 51 #[.pointer (some ⟨g, 0, none⟩)] w (SPost s (f + 1) p g w) := by
  have HR := Lib.hid h
  have hgw := h.lt
  have HR0 := Lib.hid (h.alloc (.cells #[.int .u8 0, .int .u8 0, .slice none 0 0] 57))
  have HN := Lib.hid (c3_new w (.int .u8 0) (.int .u8 0) (.slice none 0 0) 57)
  have HG0 := Lib.hid (World.grownBy_alloc w (.cells #[.int .u8 0, .int .u8 0, .slice none 0 0] 57) (some g))
  have HZ0 := Lib.hid (show (w.alloc (.cells #[.int .u8 0, .int .u8 0, .slice none 0 0] 57)).heap.size = w.heap.size + 1 by simp)
  clear h
  go_enter Tryz.func51, Tryz.ntmps51
  go_wp2_with fail
  refine (snext_any g p s false _ HR0.out hs).mono ?_
  generalize w.alloc (.cells #[.int .u8 0, .int .u8 0, .slice none 0 0] 57) = w0 at HR0 HN HG0 HZ0 ⊢
  rintro e w1 ⟨hg1, c, rfl, hc0, hc1, hcase⟩
  have HN1 := Lib.hid (HN.out.grown hg1 (by simp; omega))
  have HG1 := Lib.hid (HG0.out.trans hg1)
  have hz1 : w.heap.size + 1 ≤ w1.heap.size := by have := HZ0.out; have := hg1.size; omega
  clear hg1 HR0 HN HG0
  rcases hcase with ⟨hlt, hcb, hr1⟩ | ⟨hge, _⟩
  case inr => omega
  have HM := Lib.hid (tm_none (f := f) hD' hV' hP' h40' h91' h123')
  rw [← hcb] at hD' hV' hP' h40' h91' h123'
  have hD := hD'
  have hV := hV'
  have hP := hP'
  have hnv : ¬ (c = 97 ∨ c = 98 ∨ 118 ≤ c ∧ c ≤ 122) := by simpa [isV] using hV
  have hnd : ¬ (48 ≤ c ∧ c ≤ 57) := by simpa [isD] using hD
  have e97 : (c == 97) = false := by rw [beq_eq_false_iff_ne]; omega
  have e98 : (c == 98) = false := by rw [beq_eq_false_iff_ne]; omega
  have HI := Lib.hid (fun w => in_any c 48 57 false (by rw [decide_eq_false_iff_not]; omega) w)
  have HJ := Lib.hid (fun w => in_any c 118 122 false (by rw [decide_eq_false_iff_not]; omega) w)
  have HK := Lib.hid (fun w => findP c hc0 hc1 false hP w)
  have e40 : (c == 40) = false := by rw [beq_eq_false_iff_ne]; exact h40'
  have e91 : (c == 91) = false := by rw [beq_eq_false_iff_ne]; exact h91'
  have e123 : (c == 123) = false := by rw [beq_eq_false_iff_ne]; exact h123'
  clear hD hV hP hD' hV' hP' h40' h91' h123' hnv hnd
  have HR1 := Lib.hid hr1
  have rc2 := hr1.c2
  have rf2 := hr1.f 2
  have HR2 := Lib.hid (HR1.out.set2 true)
  have HS2 := Lib.hid (show C3 (w1.setCell ⟨g, 2, none⟩ (.bool true)) w.heap.size (.int .u8 0) (.int .u8 0) (.slice none 0 0) 57 from (Below.heap_setCell _ _ _ _ (by show w.heap.size ≠ g; omega)).trans HN1.out)
  clear hr1 hcb
  have n0 := HS2.out.c0
  have n1 := HS2.out.c1
  have n2 := HS2.out.c2
  have f0 := HS2.out.f 0
  have f1 := HS2.out.f 1
  have f2 := HS2.out.f 2
  go_wp2_with fail
  refine (HI.out w1).mono ?_
  rintro e w' ⟨rfl, rfl⟩
  go_wp2_with fail
  refine (HJ.out w').mono ?_
  rintro e w' ⟨rfl, rfl⟩
  go_wp2_with fail
  refine (HK.out w').mono ?_
  rintro e w' ⟨kk, rfl, hkk, rfl⟩
  go_wp2_with fail
  have HL := Lib.hid (HS2.out.laid (x' := .int .u8 0) (y' := .int .u8 0) (z' := (.slice none 0 0)))
  clear n0 n1 n2 f0 f1 f2
  have n0 := HL.out.c0
  have n1 := HL.out.c1
  have n2 := HL.out.c2
  unfold laid3 at n0 n1 n2
  refine bodyPost_ret (v := .agg #[.int .u8 0, .int .u8 0, (.slice none 0 0)]) (by simp [results, Tryz.results51, go_sem, n0, n1, n2]) rfl ?_
  exact spost_bad (gr_laid3 (HG1.out.trans (gr_set _ _ _ _)) (Nat.le_refl _) _ _ _) rfl HM.out hp (HR2.out.laid (by omega) _ _ _)

set_option maxHeartbeats 1000000 in
theorem snode_pre (g f p : Nat) (s : ByteArray) (hs : s.size ≤ 1048576) (ih : ∀ (p : Nat) (w : World), p ≤ s.size → s.size < p + f → SR w g s p false → Calls Tryz.prog 51 #[.pointer (some ⟨g, 0, none⟩)] w (SPost s f p g w)) (hf : s.size < p + 1 + f)
    (w : World) (h : SR w g s p false) (hp : p < s.size) (hP' : isP (ba s p) = true) :
    Calls Tryz.prog 51 #[.pointer (some ⟨g, 0, none⟩)] w (SPost s (f + 1) p g w) := by
  have HIH := Lib.hid ih
  clear ih
  have HR := Lib.hid h
  have hgw := h.lt
  have HR0 := Lib.hid (h.alloc (.cells #[.int .u8 0, .int .u8 0, .slice none 0 0] 57))
  have HN := Lib.hid (c3_new w (.int .u8 0) (.int .u8 0) (.slice none 0 0) 57)
  have HG0 := Lib.hid (World.grownBy_alloc w (.cells #[.int .u8 0, .int .u8 0, .slice none 0 0] 57) (some g))
  have HZ0 := Lib.hid (show (w.alloc (.cells #[.int .u8 0, .int .u8 0, .slice none 0 0] 57)).heap.size = w.heap.size + 1 by simp)
  clear h
  go_enter Tryz.func51, Tryz.ntmps51
  go_wp2_with fail
  refine (snext_any g p s false _ HR0.out hs).mono ?_
  generalize w.alloc (.cells #[.int .u8 0, .int .u8 0, .slice none 0 0] 57) = w0 at HR0 HN HG0 HZ0 ⊢
  rintro e w1 ⟨hg1, c, rfl, hc0, hc1, hcase⟩
  have HN1 := Lib.hid (HN.out.grown hg1 (by simp; omega))
  have HG1 := Lib.hid (HG0.out.trans hg1)
  have hz1 : w.heap.size + 1 ≤ w1.heap.size := by have := HZ0.out; have := hg1.size; omega
  clear hg1 HR0 HN HG0
  rcases hcase with ⟨hlt, hcb, hr1⟩ | ⟨hge, _⟩
  case inr => omega
  have HPP := Lib.hid hP'
  have HCB := Lib.hid hcb
  rw [← hcb] at hP'
  have hP := hP'
  have hgP := isP_ge hP
  have hV : isV c = false := by cases hh : isV c; rfl; (have := isV_ge hh; omega)
  have hD : isD c = false := by cases hh : isD c; rfl; (have := isD_ge hh; omega)
  have hnv : ¬ (c = 97 ∨ c = 98 ∨ 118 ≤ c ∧ c ≤ 122) := by simpa [isV] using hV
  have hnd : ¬ (48 ≤ c ∧ c ≤ 57) := by simpa [isD] using hD
  have e97 : (c == 97) = false := by rw [beq_eq_false_iff_ne]; omega
  have e98 : (c == 98) = false := by rw [beq_eq_false_iff_ne]; omega
  have HI := Lib.hid (fun w => in_any c 48 57 false (by rw [decide_eq_false_iff_not]; omega) w)
  have HJ := Lib.hid (fun w => in_any c 118 122 false (by rw [decide_eq_false_iff_not]; omega) w)
  have HK := Lib.hid (fun w => findP c hc0 hc1 true hP w)
  have HR1 := Lib.hid hr1
  clear hr1 hcb hP hP' hV hD hnv hnd hgP
  go_wp2_with fail
  refine (HI.out w1).mono ?_
  rintro e w' ⟨rfl, rfl⟩
  go_wp2_with fail
  refine (HJ.out w').mono ?_
  rintro e w' ⟨rfl, rfl⟩
  go_wp2_with fail
  refine (HK.out w').mono ?_
  rintro e w' ⟨kk, rfl, hkk, rfl⟩
  go_wp2_with fail
  clear hkk
  refine (spart_good g f (p + 1) s _ HR1.out (fun w h => HIH.out (p + 1) w (by omega) (by omega) h)).mono ?_
  rintro e w2 ⟨hg2, a, b, A, k2, c2, rfl, hcase2⟩
  have HN2 := Lib.hid ((HN1.out.grown hg2 (by simp; omega)).alloc (.cells #[.int .u8 a, .int .u8 b, .slice A k2 c2] 57))
  have HG2 := Lib.hid (HG1.out.trans hg2)
  have HC2 := Lib.hid hcase2
  have hz2 : w'.heap.size ≤ w2.heap.size := hg2.size
  clear hg2 hcase2
  have n0 := HN2.out.c0
  have n1 := HN2.out.c1
  have n2 := HN2.out.c2
  have f0 := HN2.out.f 0
  have f1 := HN2.out.f 1
  have f2 := HN2.out.f 2
  go_wp2_with fail
  have HL := Lib.hid (HN2.out.laid (x' := .int .u8 c) (y' := .int .u8 0) (z' := (.slice (some ⟨w2.heap.size, 0, none⟩) 1 1)))
  clear n0 n1 n2 f0 f1 f2
  have n0 := HL.out.c0
  have n1 := HL.out.c1
  have n2 := HL.out.c2
  unfold laid3 at n0 n1 n2
  refine bodyPost_ret (v := .agg #[.int .u8 c, .int .u8 0, (.slice (some ⟨w2.heap.size, 0, none⟩) 1 1)]) (by simp [results, Tryz.results51, go_sem, n0, n1, n2]) rfl ?_
  have HGL := gr_laid3 (HG2.out.trans (World.grownBy_alloc w2 (.cells #[.int .u8 a, .int .u8 b, .slice A k2 c2] 57) (some g))) (Nat.le_refl _) (.int .u8 c) (.int .u8 0) (.slice (some ⟨w2.heap.size, 0, none⟩) 1 1)
  rcases HC2.out with ⟨x, q, hx, hrx, hnx⟩ | ⟨hx, q, hq, hrx⟩
  · refine spost_ok HGL rfl (tm_pre_s HPP.out hx) ((hrx.alloc _).laid (by omega) _ _ _) ?_
    refine ⟨HCB.out, rfl, (a, b, .slice A k2 c2), own_keep (row_new [(a, b, .slice A k2 c2)] _ rfl rfl (by simp)) (fun k hk => laid3_heap _ _ _ _ _ _ (by simp [Value.ownBlock] at hk; omega)), fun k hk => by simp [Value.ownBlock] at hk; omega, ?_⟩
    refine (SN.laid (S := fun b => w'.heap.size ≤ b) (hnx.keep (fun k hk hl => Below.heap_alloc _ _ _ hl) (fun _ hk _ => hk) _ _) (by show ¬ (w'.heap.size ≤ w.heap.size); omega) _ _ _).wide (fun b hb => by omega)
  · exact spost_bad HGL rfl (tm_pre_n HPP.out hx) hq ((hrx.alloc _).laid (by omega) _ _ _)

end Go.Proofs.YtboddoaekcchpaaGreat
