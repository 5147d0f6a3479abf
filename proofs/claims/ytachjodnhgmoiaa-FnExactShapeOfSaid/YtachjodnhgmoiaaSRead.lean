/- What the model's node does at every depth, and what l1Read and both ArrayValid do. -/
import Derived.Test.YtachjodnhgmoiaaSNodeS
import Derived.Test.YtachjodnhgmoiaaNest
namespace Go.Proofs.Ytachjodnhgmoiaa
open Go.RowKit

set_option maxHeartbeats 400000 in
theorem snode_n1 (g p d : Nat) (n : Int) (s : ByteArray) (w : World) (h : SRdr w g s p false) (hn1 : 1 ≤ n) (hc : ba s p ≠ 91) :
    Calls Try.prog 38 #[.pointer (some ⟨g, 0, none⟩), .int .i64 n] w (SArrPost s (d + 1) p g w) := by
  have HR := Lib.hid h
  have hgw := h.lt
  have HC := Lib.hid hc
  have e0 : (n == 0) = false := by rw [beq_eq_false_iff_ne]; omega
  clear h hc
  go_enter Try.func38, Try.ntmps38
  go_wp2_with fail
  clear e0
  refine (is_no g p s 91 false _ (((HR.out.alloc _).alloc _).alloc _) HC.out).mono ?_
  have HB := Lib.hid (begun w)
  have HR3 := Lib.hid (((HR.out.alloc (.cells #[.int .i64 0, .slice none 0 0] 52)).alloc (.cells #[] 52)).alloc (.cells #[.int .i64 0, .slice (some ⟨w.heap.size + 1, 0, none⟩) 0 0] 52))
  generalize ((w.alloc (.cells #[.int .i64 0, .slice none 0 0] 52)).alloc (.cells #[] 52)).alloc (.cells #[.int .i64 0, .slice (some ⟨w.heap.size + 1, 0, none⟩) 0 0] 52) = w3 at HB HR3
  rintro e w4 ⟨rfl, n4, rfl⟩
  have HL := Lib.hid (slf_start HB.out HR3.out)
  have c2 := HL.out.rdr.c2
  have cf := HL.out.rdr.f 2
  have r0 := HL.out.res.c0
  have r1 := HL.out.res.c1
  have u0 := HL.out.out.c0
  have u1 := HL.out.out.c1
  have f0 := HL.out.res.f 0
  have f1 := HL.out.res.f 1
  have hne : ¬ g = w.heap.size := by omega
  have hne2 : ¬ g = w.heap.size + 1 + 1 := by omega
  go_wp2_with fail
  refine bodyPost_ret (v := .agg #[.int .i64 0, .slice (some ⟨w.heap.size + 1, 0, none⟩) 0 0]) (by simp [results, Try.results38, go_sem, r0, r1]) rfl ?_
  exact HL.out.end_bad (parts_n1 HC.out) ((gr_drewN w3 _ _).trans (gr_set _ g 2 (.bool true))) ((HL.out.rdr.drewN _).set2 true) hgw

theorem parts_more {s : ByteArray} {d p : Nat} (h : ba s p = 91) (h2 : ba s (p + 1) = 93) : parts s (node s d) p = cons' [] (more s (node s d) (s.size + 1) (p + 1)) := by
  rw [parts_e h h2, more, if_pos h2]
  rfl

set_option maxHeartbeats 400000 in
theorem snode_e (g p d : Nat) (n : Int) (s : ByteArray) (w : World) (h : SRdr w g s p false) (hs : s.size ≤ 400) (hn1 : 1 ≤ n) (hc : ba s p = 91) (hc2 : ba s (p + 1) = 93) :
    Calls Try.prog 38 #[.pointer (some ⟨g, 0, none⟩), .int .i64 n] w (SArrPost s (d + 1) p g w) := by
  have HR := Lib.hid h
  have hgw := h.lt
  have HC := Lib.hid hc
  have HC2 := Lib.hid hc2
  have hp1 : p < s.size := ba_lt (by omega)
  have e0 : (n == 0) = false := by rw [beq_eq_false_iff_ne]; omega
  clear h hc hc2
  go_enter Try.func38, Try.ntmps38
  go_wp2_with fail
  clear e0
  refine (is_yes g p s 91 false _ (((HR.out.alloc _).alloc _).alloc _) (by omega) HC.out hs).mono ?_
  have HB := Lib.hid (begun w)
  have HR3 := Lib.hid (((HR.out.alloc (.cells #[.int .i64 0, .slice none 0 0] 52)).alloc (.cells #[] 52)).alloc (.cells #[.int .i64 0, .slice (some ⟨w.heap.size + 1, 0, none⟩) 0 0] 52))
  generalize ((w.alloc (.cells #[.int .i64 0, .slice none 0 0] 52)).alloc (.cells #[] 52)).alloc (.cells #[.int .i64 0, .slice (some ⟨w.heap.size + 1, 0, none⟩) 0 0] 52) = w3 at HB HR3
  rintro e w4 ⟨rfl, hr4, hg4⟩
  have HL4 := Lib.hid ((slf_start HB.out HR3.out).reader hg4 hr4 hgw)
  clear hr4 hg4
  go_wp2_with fail
  refine (is_yes g (p + 1) s 93 false w4 HL4.out.rdr (by omega) HC2.out hs).mono ?_
  rintro e w5 ⟨rfl, hr5, hg5⟩
  have hl5 := HL4.out.reader hg5 hr5 hgw
  have r0 := hl5.res.c0
  have r1 := hl5.res.c1
  have u0 := hl5.out.c0
  have u1 := hl5.out.c1
  have f0 := hl5.res.f 0
  have f1 := hl5.res.f 1
  have HG := Lib.hid (show SLg s d p g w w4 (.slice (some ⟨w.heap.size + 1, 0, none⟩) 0 0) [] [] (s.size + 1) (p + 1) from ⟨HL4.out, by omega, by omega, parts_more HC.out HC2.out, Nat.zero_le _, trivial⟩)
  have HR5 := Lib.hid hr5
  have HG5 := Lib.hid hg5
  clear hr5 hg5 hl5
  go_wp2_with fail
  refine bodyPost_ret (v := .agg #[.int .i64 0, .slice (some ⟨w.heap.size + 1, 0, none⟩) 0 0]) (by simp [results, Try.results38, go_sem, r0, r1]) rfl ?_
  exact HG.out.end_good HC2.out HG5.out HR5.out hgw

theorem snode_any (g : Nat) (s : ByteArray) (hs : s.size ≤ 400) : ∀ (d : Nat) (n : Int) (p : Nat) (w : World), n = d → d ≤ 1000 → SRdr w g s p false → p ≤ s.size →
    Calls Try.prog 38 #[.pointer (some ⟨g, 0, none⟩), .int .i64 n] w (SArrPost s d p g w)
  | 0, n, p, w, hn, _, h, hp => by obtain rfl : n = 0 := hn; exact snode0 g p s w h hs hp
  | d + 1, n, p, w, hn, hd, h, hp => by
    by_cases hc : ba s p = 91
    · by_cases hc2 : ba s (p + 1) = 93
      · exact snode_e g p d n s w h hs (by omega) hc hc2
      · exact snode_main g p d n s w h hs (by omega) (by omega) hc hc2 (fun p w h hp => snode_any g s hs d (n - 1) p w (by omega) (by omega) h hp)
    · exact snode_n1 g p d n s w h (by omega) hc

end Go.Proofs.Ytachjodnhgmoiaa
