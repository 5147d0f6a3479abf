/- What queueOf of the program does. -/
import Derived.Test.YtpakihjkjdanlaaComm
namespace Go.Proofs.Ytpakihjkjdanlaa
open Go.RowKit Go.Conc

theorem run_mkQ (n : Nat) (hn : n ≤ 1048576) (w : World) : (Instr.makeChan 109 (.int .i64 (n : Int))).run Try.prog w = .ok (.chan (some w.heap.size)) (w.alloc (.chan n #[] false 0 0 false)) := by
  obtain ⟨i0, hi0, hz0, hz1, hz2⟩ := info_parts infoJ
  exact run_makeChan (P := Try.prog) (w := w) Try.underlying109 hi0 .i64 n (by omega) (by rw [hz2]; omega)

set_option maxRecDepth 100000 in
set_option maxHeartbeats 4000000 in
theorem queue_any (A : Option Addr) (c : Nat) (zs : List Int) (w : World) (h : Ints w A zs) (hn : zs.length ≤ 1048576) :
    Calls Try.prog 76 #[.slice A zs.length c] w fun e w' => e = .returned (.chan (some w.heap.size)) ∧ w.grownBy w' none ∧
      w'.heap[w.heap.size]? = some (.chan zs.length (zs.map (Value.int .i64)).toArray true zs.length 0 false) := by
  have HA := Lib.hid h
  obtain ⟨n, hnn⟩ : ∃ n, zs.length = n := ⟨_, rfl⟩
  have HN := Lib.hid hnn
  rw [hnn] at hn ⊢
  have hmk := run_mkQ n hn
  clear h hnn
  refine calls_of_codeN Try.func76 rfl ?_
  simp only [Try.ntmps76, List.size_toArray, List.length_cons, List.length_nil, Nat.reduceAdd, Nat.reduceSub, Array.replicate_succ, Array.replicate_zero, List.push_toArray, List.append_toArray, List.nil_append, List.cons_append]
  refine codeN_seq ?_
  refine CodeN.of ?_
  go_wp2
  refine codeN_seq ?_
  refine CodeN.of ?_
  go_wp2
  refine codeN_seq ?_
  refine codeN_seq ?_
  refine CodeN.of ?_
  go_wp2
  clear hmk
  refine codeN_block ?_
  refine codeN_loop (fun m a wr => ∃ (j : Nat) (u5 u12 u13 u14 u15 u16 u17 : Value), a = { tmps := #[.slice A n c, undef, .chan none, .chan (some w.heap.size), undef, u5, .slice A n c, .int .i64 (n : Int), .chan (some w.heap.size), .slice A n c, .int .i64 (n : Int), .int .i64 (j : Int), u12, u13, u14, u15, u16, u17, undef, undef], defers := [] } ∧ j ≤ n ∧ m = n - j ∧
    Hid (wr.heap[w.heap.size]? = some (.chan n (((zs.take j).map (Value.int .i64)).toArray) false j 0 false)) ∧ Hid (w.grownBy wr none)) n ?start ?round
  case start =>
    exact ⟨0, _, _, _, _, _, _, _, rfl, Nat.zero_le _, rfl, Lib.hid (by rw [heap_alloc_new w _]; simp), Lib.hid (World.grownBy_alloc _ _ _)⟩
  case round =>
    rintro m a wr ⟨j, u5, u12, u13, u14, u15, u16, u17, rfl, hj, rfl, hch, hgr⟩
    refine codeN_seq ?_
    refine CodeN.of ?_
    by_cases hlt : j < n
    · obtain ⟨z, hz⟩ : ∃ z, zs[j]? = some z := ⟨_, List.getElem?_eq_getElem (by have := HN.out; omega)⟩
      obtain ⟨b, off, rfl, _, hc⟩ := HA.out.grown hgr.out (by simp) (by have := HN.out; omega)
      have hcell := hc j z hz
      have HT := Lib.hid (at_take hz)
      have hlen : (((zs.take j).map (Value.int .i64)).toArray).size = j := by
        have := HN.out
        simp
        omega
      have hlow := hgr.out.size
      have hbl : w.heap.size < wr.heap.size := (Array.getElem?_eq_some_iff.1 hch.out).1
      clear hc hz
      obtain ⟨W5, hW5⟩ : ∃ W5, wr.setChan w.heap.size n ((((zs.take j).map (Value.int .i64)).toArray).push (.int .i64 z)) false (j + 1) 0 false = W5 := ⟨_, rfl⟩
      have HW5 := Lib.hid hW5
      have HC5 : Hid (W5.heap[w.heap.size]? = some (.chan n (((zs.take (j + 1)).map (Value.int .i64)).toArray) false (j + 1) 0 false)) := Lib.hid (by
        rw [← hW5, heap_setChan _ _ _ _ _ _ _ _ hbl, HT.out]
        simp)
      have HG5 : Hid (w.grownBy W5 none) := Lib.hid (gr_own hgr.out (hW5 ▸ setChan_grown wr w.heap.size n _ false (j + 1) 0 false) (fun k e => by cases e; exact Nat.le_refl _))
      have HCH := Lib.hid hch.out
      have HLEN := Lib.hid hlen
      clear hW5 hlen hch hgr
      go_wp2
      refine codeN_seq ?_
      refine codeN_true rfl ?_
      refine CodeN.of (wp_skip ?_)
      refine codeN_seq ?_
      refine codeN_block ?_
      refine codeN_seq ?_
      refine CodeN.of ?_
      go_wp2
      refine codeN_hide (fun Q' hQ => ?_)
      refine codeN_region ?_
      simp only [List.size_toArray, List.length_cons, List.length_nil, Nat.reduceAdd, Nat.zero_add, List.range, List.range.loop]
      refine opsN_value rfl rfl rfl ?_
      go_simp
      refine opsN_value rfl rfl rfl ?_
      go_simp
      refine opsN_send (c := w.heap.size) (v := .int .i64 z) (z := .tuple #[]) rfl rfl (by simp [execOp, scase, Act.eval]) HCH.out (by rw [HLEN.out]; exact hlt) ?_
      rw [HW5.out]
      go_simp
      refine opsN_nil (hQ _ _ ?_)
      clear hQ
      change CodeN _ _ _ _ _
      refine codeN_hide (fun Q' hQ => ?_)
      refine CodeN.of ?_
      go_wp2
      change ∃ m' : Nat, _
      exact ⟨n - (j + 1), by omega, j + 1, _, _, _, _, _, _, _, rfl, by omega, rfl, HC5, HG5⟩
    · have hjn : j = n := by omega
      have HJ := Lib.hid hjn
      have hch2 := hch.out
      rw [hjn, List.take_of_length_le (by rw [HN.out]; exact Nat.le_refl _)] at hch2
      have hbl : w.heap.size < wr.heap.size := (Array.getElem?_eq_some_iff.1 hch2).1
      have hcl := fun ats ty => run_close_open (P := Try.prog) (w := wr) ats ty hch2
      obtain ⟨W6, hW6⟩ : ∃ W6 : World, { wr with heap := wr.heap.setIfInBounds w.heap.size (.chan n ((zs.map (Value.int .i64)).toArray) true n 0 false) } = W6 := ⟨_, rfl⟩
      have e6 : wr.setChan w.heap.size n ((zs.map (Value.int .i64)).toArray) true n 0 false = W6 := hW6
      rw [hW6] at hcl
      have HC6 : Hid (W6.heap[w.heap.size]? = some (.chan n ((zs.map (Value.int .i64)).toArray) true n 0 false)) := Lib.hid (by
        rw [← e6, heap_setChan _ _ _ _ _ _ _ _ hbl])
      have HG6 : Hid (w.grownBy W6 none) := Lib.hid (gr_own hgr.out (e6 ▸ setChan_grown wr w.heap.size n _ true n 0 false) (fun k e => by cases e; exact Nat.le_refl _))
      clear hjn hch hch2 hW6 e6 hbl
      go_wp2
      refine codeN_seq ?_
      refine codeN_false rfl ?_
      refine CodeN.of (wp_exit ?_)
      simp only [Exit.then, Exit.inBlock, if_true]
      refine CodeN.of ?_
      go_wp2
      exact ⟨.chan (some w.heap.size), by simp [results, Try.results76, go_sem], rfl, HG6.out, HC6.out⟩

end Go.Proofs.Ytpakihjkjdanlaa
