/- numbersIn of the program where the parts are arrays: a range over numbersIn of each part, within it a call of the outer loop's yield. -/
import Derived.Test.YtjcbhjldanakeabIter
namespace Go.Proofs.Ytjcbhjldanakeab
open Go.RowKit Go.Shelf
attribute [local go_sem] Oper.semAt_some

theorem maker (ty : TypeId) (v : Value) (w : World) : Calls Try.prog 55 #[.iface ty v] w fun e w' =>
    e = .returned (.func (.func 99) #[] #[.pointer (some ⟨w.heap.size, 0, none⟩)]) ∧ w' = w.alloc (.cells #[.iface ty v] 67) := by
  have hmf := @makeFunc_run
  go_enter Try.func55, Try.ntmps55
  go_wp2_with fail
  go_ret
  exact ⟨rfl, rfl⟩

theorem RoundIn.inRound' {F : Fence} {n : Nat} {P : Program} {l : Nat} {f : FuncId} {tmps : Array Value} {assign body : Code} {w : World} {R : Ending → World → Prop} (l0 : Nat)
    (h : RoundIn F n P l f tmps assign body w R) : RoundIn (F.inRound l0) n P l f tmps assign body w R := h
theorem ownFrom_keeps {β : Type} (B0 : Nat) (W0 : World) {B : Nat} (hB : W0.heap.size ≤ B) : OwnFrom B (fun (_ : β) W => KeepsFrom B0 W0 W) := fun s A C row hs hg hr =>
  ⟨Nat.le_trans hs.size hg.size, fun k o hb hk ho => (hg.block k (Nat.lt_of_lt_of_le (Array.getElem?_eq_some_iff.1 hk).1 hs.size) (fun e => by
    have h1 := (hr k e.symm).1
    have h2 := (Array.getElem?_eq_some_iff.1 hk).1
    omega)).trans (hs.same k o hb hk ho)⟩

theorem KeepsFrom.up {B B' : Nat} {W W' : World} (h : KeepsFrom B W W') (hB : B ≤ B') : KeepsFrom B' W W' := ⟨h.size, fun k o hb hk ho => h.same k o (Nat.le_trans hB hb) hk ho⟩
theorem flat_step {α : Type} {f : α → List Int} {t : List α} {j : Nat} {x : α} (h : t[j]? = some x) : (t.take (j + 1)).flatMap f = (t.take j).flatMap f ++ f x := by
  rw [take_step h, List.flatMap_append]; simp
theorem flat_pre {α : Type} (f : α → List Int) (t : List α) (j : Nat) : (t.take j).flatMap f <+: t.flatMap f := by
  refine ⟨(t.drop j).flatMap f, ?_⟩
  rw [← List.flatMap_append, List.take_append_drop]

set_option maxRecDepth 100000 in
set_option maxHeartbeats 8000000 in
theorem iterS (X : TypeId → Prop) (hX : Spares X) (S : Nat → Prop) (b d : Nat) (t : List (T (d + 1))) (v : Value) (w : World) (hr : Nd w S (d + 2) t v) (hlen : t.length ≤ 1000000)
    (hb : w.heap[b]? = some (.cells #[v] 67 (0, 0)))
    (ih : ∀ (t' : T (d + 1)) (b : Nat) (v : Value) (w : World), t' ∈ t → Nd w S (d + 1) t' v → w.heap[b]? = some (.cells #[v] 67 (0, 0)) → SeqOwn X Try.prog 99 #[.pointer (some ⟨b, 0, none⟩)] (nums (d + 1) t') w) :
    SeqOwn X Try.prog 99 #[.pointer (some ⟨b, 0, none⟩)] (nums (d + 2) t) w := by
  intro n l J Jx W hW hJ hJx hY h0
  have hb1 := hW.cell hb (hX.el 1)
  obtain ⟨q, sv, xs, rfl, hq, hh, ho, hS, ha⟩ := Nd.keepX hX hW (d + 2) t v hr
  obtain ⟨A, k, c, rfl⟩ := own_form ho
  have hc : W.cell? ⟨b, 0, none⟩ = some (.iface (ptrT 1) (.pointer (some ⟨q, 0, none⟩))) := by simp [World.cell?, hb1]; rfl
  have hlt : b < W.heap.size := (Array.getElem?_eq_some_iff.1 hb1).1
  have hqc : W.cell? ⟨q, 0, none⟩ = some (.slice A k c) := by simp [World.cell?, hh]
  have hqlt : q < W.heap.size := (Array.getElem?_eq_some_iff.1 hh).1
  clear hb hb1 hr hh
  simp only [ptrT] at hc
  have hta := ta20
  have htb := ta21
  have htc := ta22
  show CallsIn Fence.wide n Try.prog 99 #[.func (.yield l) #[] #[], .pointer (some ⟨b, 0, none⟩)] W _
  refine callsIn_of_wp_marks Try.func99 rfl trivial ?_ rfl
  simp only [Try.ntmps99, List.size_toArray, List.length_cons, List.length_nil, Nat.reduceAdd, Nat.reduceSub, Array.replicate_succ, Array.replicate_zero, List.push_toArray, List.append_toArray, List.nil_append, List.cons_append]
  obtain ⟨W1, hW1⟩ : ∃ W1, W.alloc (.cells #[.func (.yield l) #[] #[]] 132) = W1 := ⟨_, rfl⟩
  have HY1 : Hid (W1.heap[W.heap.size]? = some (.cells #[.func (.yield l) #[] #[]] 132 (0, 0))) := Lib.hid (by rw [← hW1]; exact World.alloc_heap_new W _)
  have HJ1 : Hid (J [] W1) := Lib.hid (by rw [← hW1]; exact hJ.alloc _ h0)
  have HO1 : Hid (W1.ownsRow 0 (elT (d + 1)) 1 (.slice A k c) xs.length xs) := Lib.hid (by rw [← hW1]; exact own_keepX ho (KeepsX.alloc W _ (X := fun _ => False)) id)
  have HA := Lib.hid ha
  have HP := Lib.hid (prow ho)
  have HY := Lib.hid hY
  have HLT := Lib.hid (All2.length _ _ ha)
  have hk6 : k ≤ 1000000 := by rw [(prow ho).1, ← All2.length _ _ ha]; exact hlen
  have HW1 := Lib.hid hW1
  have HIH := Lib.hid ih
  clear hY ha ho hS hlen h0 hW1 ih
  gi_wp2
  rw [HW1.out]
  refine wpIn_loop (fun a wr => ∃ (j : Nat) (ds : List Nat) (x9 x44 x45 x46 x47 x48 x54 : Value), a = { tmps := #[.func (.yield l) #[] #[], .pointer (some ⟨b, 0, none⟩), .pointer (some ⟨W.heap.size, 0, none⟩), undef, undef, undef, undef, .pointer (some ⟨q, 0, none⟩), undef, x9, undef, .iface 138 (.pointer (some ⟨q, 0, none⟩)), .tuple #[.int .i64 0, .bool false], .bool false, .int .i64 0, undef, undef, undef, .tuple #[.pointer none, .bool false], .bool false, .pointer none, undef, undef, undef, undef, undef, undef, undef, undef, undef, undef, undef, undef, undef, undef, .tuple #[.pointer (some ⟨q, 0, none⟩), .bool true], .bool true, .pointer (some ⟨q, 0, none⟩), .pointer (some ⟨q, 0, none⟩), .pointer (some ⟨q, 0, none⟩), .pointer (some ⟨q, 0, none⟩), .slice A k c, .int .i64 k, .int .i64 j, x44, x45, x46, x47, x48, undef, undef, undef, undef, undef, x54], defers := ds.map mark } ∧ j ≤ k ∧
      Hid (J ((t.take j).flatMap (nums (d + 1))) wr) ∧ Hid (KeepsX X W1 wr) ∧ Hid ds.Nodup ∧ Hid (∀ D ∈ ds, W.heap.size ≤ D ∧ wr.heap[D]? = some (.deferred (some []))))
    (fun a _ => k - (intOf (a.tmps[43]?.getD undef)).toNat) ?start ?round
  case start => exact ⟨0, [], _, _, _, _, _, _, _, rfl, Nat.zero_le _, HJ1, Lib.hid (KeepsX.refl _ _), Lib.hid List.nodup_nil, Lib.hid (by simp)⟩
  case round =>
    rintro a wr ⟨j, ds, x9, x44, x45, x46, x47, x48, x54, rfl, hj, hjj, hkx, hnd, hds⟩
    by_cases hlt2 : j < k
    · obtain ⟨hkl, hrow⟩ := prow (own_keepX HO1.out hkx.out (hX.el (d + 1)))
      obtain ⟨g, rfl, hgl, hcells⟩ := hrow (by omega)
      obtain ⟨tj, x, hm, hx, hpn⟩ := All2.at_ (j := j) HA.out (by omega)
      have hpn2 := hpn
      obtain ⟨bj, svj, xsj, rfl, _⟩ := hpn2
      have hcell := hcells j _ hx
      have HM := Lib.hid hm
      have HPN := Lib.hid hpn
      clear hkl hrow hcells hx hm hpn
      gi_wp2_with (refine ⟨trivial, fun h => (by cases h), ?_⟩; refine (callsIn_wide.2 (maker _ _ _)).mono ?_; rintro e w' ⟨rfl, rfl⟩)
      obtain ⟨w1, hw1⟩ : ∃ w1, wr.alloc (.cells #[.iface (ptrT d) (.pointer (some ⟨bj, 0, none⟩))] 67) = w1 := ⟨_, rfl⟩
      have k1 : KeepsX X wr w1 := by rw [← hw1]; exact KeepsX.alloc _ _
      have c1 : w1.heap[wr.heap.size]? = some (.cells #[.iface (ptrT d) (.pointer (some ⟨bj, 0, none⟩))] 67 (0, 0)) := by rw [← hw1]; exact World.alloc_heap_new wr _
      have j1 : J ((t.take j).flatMap (nums (d + 1))) w1 := by rw [← hw1]; exact hJ.alloc _ hjj.out
      have s1 : W.heap.size ≤ w1.heap.size := by
        have h1 := KeepsX.size hkx.out
        have h2 := k1.size
        have h3 : W.heap.size ≤ W1.heap.size := by rw [← HW1.out]; simp
        omega
      have n1 : Nd w1 S (d + 1) tj (.iface (ptrT d) (.pointer (some ⟨bj, 0, none⟩))) := by
        refine Nd.keepX hX ?_ (d + 1) tj _ HPN.out
        have h1 : KeepsX X W W1 := by rw [← HW1.out]; exact KeepsX.alloc _ _
        exact (h1.trans hkx.out).trans k1
      obtain ⟨pf, hpf⟩ : ∃ pf, (t.take j).flatMap (nums (d + 1)) = pf := ⟨_, rfl⟩
      have hst : (t.take (j + 1)).flatMap (nums (d + 1)) = pf ++ nums (d + 1) tj := by rw [flat_step HM.out, hpf]
      have hpp : pf ++ nums (d + 1) tj <+: nums (d + 2) t := by rw [← hst]; exact flat_pre _ _ _
      have h1n := HIH.out tj _ _ w1 (List.mem_of_getElem? HM.out) n1 c1
      rw [hpf] at j1
      rw [hw1]
      refine range_own (X := X) (zs := nums (d + 1) tj) (gf := 99) (lb := #[.pointer (some ⟨wr.heap.size, 0, none⟩)]) rfl (enters_of Try.func99 (by kernel_rfl) rfl) h1n
        (fun pre V => J (pf ++ pre) V ∧ KeepsX X w1 V) (fun pre V => Jx (pf ++ pre) V ∧ KeepsFrom W.heap.size w1 V) ?hI ?hIx ?h0
        (fun x => { tmps := #[.func (.yield l) #[] #[], .pointer (some ⟨b, 0, none⟩), .pointer (some ⟨W.heap.size, 0, none⟩), undef, undef, undef, undef, .pointer (some ⟨q, 0, none⟩), undef, .iface (ptrT d) (.pointer (some ⟨bj, 0, none⟩)), .int .i64 x, .iface 138 (.pointer (some ⟨q, 0, none⟩)), .tuple #[.int .i64 0, .bool false], .bool false, .int .i64 0, undef, undef, undef, .tuple #[.pointer none, .bool false], .bool false, .pointer none, undef, undef, undef, undef, undef, undef, undef, undef, undef, undef, undef, undef, undef, undef, .tuple #[.pointer (some ⟨q, 0, none⟩), .bool true], .bool true, .pointer (some ⟨q, 0, none⟩), .pointer (some ⟨q, 0, none⟩), .pointer (some ⟨q, 0, none⟩), .pointer (some ⟨q, 0, none⟩), .slice (some ⟨g, 0, none⟩) k c, .int .i64 k, .int .i64 j, .bool true, .pointer (some ⟨g, j, none⟩), .iface (ptrT d) (.pointer (some ⟨bj, 0, none⟩)), .iface (ptrT d) (.pointer (some ⟨bj, 0, none⟩)), .func (.func 99) #[] #[.pointer (some ⟨wr.heap.size, 0, none⟩)], .int .i64 x, undef, undef, undef, undef, x54], defers := [] }) ?assign ?body ?done ?stop
      case hI => exact fun s A C row hs hg hr => ⟨hJ _ A C row hs.1 hg (fun r e => ⟨Nat.le_trans s1 (hr r e).1, (hr r e).2⟩), ownFrom_keepsX X w1 (Nat.le_refl _) s A C row hs.2 hg hr⟩
      case hIx => exact fun s A C row hs hg hr => ⟨hJx _ A C row hs.1 hg (fun r e => ⟨Nat.le_trans s1 (hr r e).1, (hr r e).2⟩), ownFrom_keeps W.heap.size w1 (Nat.le_refl _) s A C row hs.2 hg hr⟩
      case h0 => exact ⟨by simpa using j1, KeepsX.refl _ _⟩
      case assign =>
        intro l1 m1 x V K hK
        gi_wp2
        exact hK
      case body =>
        rintro l1 m1 pre x V ⟨hjV, hkV⟩ hlen1
        have hyc := ycell hX ((hkx.out.trans k1).trans hkV) HY1.out
        obtain ⟨fn, tmps, assign, body, hy, hR⟩ := HY.out (m1 - 1) (pf ++ pre) x V hjV (by
          have h2 := hpp.length_le
          simp only [List.length_append] at h2 ⊢
          omega)
        replace hR := RoundIn.inRound' l1 hR
        gi_wp2_with (refine ⟨fun h => (by cases h), ?_⟩; refine hR.mono ?_; clear hR; rintro e W' (⟨rfl, hJ', hk⟩ | ⟨rfl, hJx', hk⟩))
        · refine ⟨hk, ?_, hkV.trans hk⟩
          rw [← List.append_assoc]
          exact hJ'
        · refine ⟨KeepsFrom.up hk s1, ?_, (hkV.from _).trans hk⟩
          rw [← List.append_assoc]
          exact hJx'
      case done =>
        rintro D V hD ⟨hjV, hkV⟩ hDV
        have hwr : IntKind.i64.wrap ((j : Int) + 1) = ((j + 1 : Nat) : Int) := by
          rw [IntWalk.i64_in _ (by omega)]; simp
        have hkv2 := k1.trans hkV
        gi_wp2
        try simp only [hwr]
        refine ⟨⟨j + 1, D :: ds, _, _, _, _, _, _, _, rfl, by omega, Lib.hid ?_, Lib.hid (hkx.out.trans hkv2), Lib.hid ?_, Lib.hid ?_⟩, ?_⟩
        · rw [hst]; exact hjV
        · refine List.nodup_cons.2 ⟨fun hm => ?_, hnd.out⟩
          have h1 := (Array.getElem?_eq_some_iff.1 (hds.out D hm).2).1
          have h2 := k1.size
          rw [← hw1] at hD
          simp at hD
          omega
        · intro D' hm
          rcases List.mem_cons.1 hm with rfl | hm
          · exact ⟨Nat.le_trans s1 hD, hDV⟩
          · exact ⟨(hds.out D' hm).1, hkv2.same D' _ (hds.out D' hm).2 (not_cells_spares rfl X)⟩
        · simp [intOf]; omega
      case stop =>
        rintro D pre V hD hpre hjV hDV
        gi_wp2
        have hkv2 : KeepsFrom W.heap.size wr V := (k1.from _).trans hjV.2
        refine leaves_marks (v := .tuple #[]) (fun V => Jx (pf ++ pre) V) (fun w => results_none rfl _ _ w) (fun V hV => ⟨⟨_, rfl⟩, .inr ⟨pf ++ pre, (List.prefix_append_right_inj pf |>.2 hpre).trans hpp, hV⟩⟩) (D :: ds) V ?_ ?_ ?_ hjV.1
        · intro D' V' hm hK hh
          refine hJx.putObj _ hK ?_ hh rfl
          rcases List.mem_cons.1 hm with rfl | hm
          · exact Nat.le_trans s1 hD
          · exact (hds.out D' hm).1
        · refine List.nodup_cons.2 ⟨fun hm => ?_, hnd.out⟩
          have h1 := (Array.getElem?_eq_some_iff.1 (hds.out D hm).2).1
          rw [← hw1] at hD
          simp at hD
          omega
        · intro D' hm
          rcases List.mem_cons.1 hm with rfl | hm
          · exact hDV
          · exact hkv2.same D' _ (hds.out D' hm).1 (hds.out D' hm).2 rfl
    · have hjn : j = k := by omega
      have HJ := Lib.hid hjn
      clear hjn
      gi_wp2
      have hjj2 := hjj.out
      rw [List.take_of_length_le (by have h1 := HJ.out; have h2 := HLT.out; have h3 := HP.out.1; omega)] at hjj2
      refine leaves_marks (v := .tuple #[]) (fun V => J (nums (d + 2) t) V) (fun w => results_none rfl _ _ w) (fun V hV => ⟨⟨_, rfl⟩, .inl hV⟩) ds wr ?_ hnd.out (fun D hm => (hds.out D hm).2) hjj2
      intro D' V' hm hK hh
      exact hJ.putObj _ hK (hds.out D' hm).1 hh rfl

end Go.Proofs.Ytjcbhjldanakeab
