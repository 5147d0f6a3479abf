/- What segmentsOf of the program gives: the segments of a list, each without room behind it. -/
import Derived.Test.YtachjodnhgmoiaaGreatDoorSpanK
import Derived.Test.YtachjodnhgmoiaaGreatDoorOwnI
import Derived.Test.YtachjodnhgmoiaaGreatDoorStillIn
namespace Go.Proofs.YtachjodnhgmoiaaGreatDoor
open Go.RowKit Go.Shelf
attribute [local go_sem] Oper.semAt_some

/-- A segment, as it is cut out. -/
def sgV (A : Option Addr) (p : Int × Int) : Value := .slice (if p.2.toNat = p.1.toNat then A else A.map (·.add (p.1.toNat * 1))) (p.2.toNat - p.1.toNat) (p.2.toNat - p.1.toNat)
def sgK (A : Option Addr) (p : Int × Int) : Array Value := #[sgV A p]

set_option maxRecDepth 100000 in
theorem cut_run (A : Option Addr) (k c : Nat) (s z : Int) (u : World) (h0 : 0 ≤ s) (h1 : 0 ≤ z) (h2 : s + z ≤ c) :
    (Instr.slice 25 (.slice A k c) (some (.int .i64 s)) (some (.int .i64 (s + z))) (some (.int .i64 (s + z)))).run Tryz.prog u = .ok (sgV A (s, s + z)) u := by
  rw [run_slice_lhm u 25 A k c Tryz.underlying25 .i64 .i64 .i64 s (s + z) (s + z) h0 (by omega) (by omega) h2]
  have hsz : (sizeOf (Tryz.prog.elem 25)).run Tryz.prog u = .ok 1 u := by kernel_rfl
  rw [hsz]
  rfl

theorem spanK_pre {L : List Int} {pre : List (Int × Int)} {x : Int × Int} (h : pre ++ [x] <+: spanK 0 L) : ∃ z, L[pre.length]? = some z ∧ x = (sumI (L.take pre.length), sumI (L.take pre.length) + z) ∧ pre = (spanK 0 L).take pre.length := by
  have hl := h.length_le
  rw [spanK_len, List.length_append] at hl
  simp only [List.length_cons, List.length_nil] at hl
  obtain ⟨z, hz⟩ : ∃ z, L[pre.length]? = some z := ⟨_, List.getElem?_eq_getElem (by omega)⟩
  have h1 := spanK_at L 0 _ z hz
  have h2 : (spanK 0 L)[pre.length]? = some x := by
    obtain ⟨t, ht⟩ := h
    rw [← ht]
    simp
  rw [h2] at h1
  simp only [Option.some.injEq, Int.zero_add] at h1
  refine ⟨z, hz, h1, ?_⟩
  obtain ⟨t, ht⟩ := h
  rw [← ht]
  simp

theorem makeFunc_runK (fn : Fn) (first cap : Array Value) (w : World) : (Instr.makeFunc fn first cap).run Tryz.prog w = .ok (.func fn first cap) w := rfl

set_option maxHeartbeats 400000 in
theorem spansmaker (A : Option Addr) (n c : Nat) (w : World) : Calls Tryz.prog 51 #[.slice A n c] w fun e w' =>
    e = .returned (.func (.func 74) #[] #[.pointer (some ⟨w.heap.size, 0, none⟩)]) ∧ w' = w.alloc (.cells #[.slice A n c] 25) := by
  have hmf := @makeFunc_runK
  go_enter Tryz.func51, Tryz.ntmps51
  go_wp2_with fail
  go_ret
  exact ⟨rfl, rfl⟩

theorem IntsK.later {X : Nat → TypeId → Prop} {w w' : World} {A : Option Addr} {zs : List Int} (h : IntsK X w A zs) (hk : KeepsK X w w') : IntsK X w' A zs := h.keep hk

theorem SeqOwnK.later {α : Type} {vs : α → Array Value} {X : Nat → TypeId → Prop} {P : Program} {g : Nat} {lb : Array Value} {zs : List α} {w w' : World} (h : SeqOwnK vs X P g lb zs w) (hk : KeepsK X w w') : SeqOwnK vs X P g lb zs w' :=
  fun n l J Jx W hW => h n l J Jx W (hk.trans hW)

set_option maxRecDepth 100000 in
set_option maxHeartbeats 400000 in
theorem segs_iter (X : Nat → TypeId → Prop) (hXf : ∀ k, ¬ X k 94) (bl bd cl cd : Nat) (AL AD : Option Addr) (L D : List Int) (w : World) (hXn : ∀ k, w.heap.size ≤ k → ¬ X k 25)
    (hr : IntsK X w AL L) (hlen : L.length ≤ 1048576) (hok : okN 400 L = true) (hD : sumI L ≤ cd)
    (hbl : w.heap[bl]? = some (.cells #[.slice AL L.length cl] 25 (0, 0))) (hXl : ¬ X bl 25)
    (hbd : w.heap[bd]? = some (.cells #[.slice AD D.length cd] 25 (0, 0))) (hXd : ¬ X bd 25) :
    SeqOwnK (sgK AD) X Tryz.prog 50 #[.pointer (some ⟨bl, 0, none⟩), .pointer (some ⟨bd, 0, none⟩)] (spanK 0 L) w := by
  intro n l J Jx W hW hJ hJx hY h0
  have hl1 := hW.cell hbl hXl
  have hd1 := hW.cell hbd hXd
  have hr1 := hr.keep hW
  have hXn1 : ∀ k, W.heap.size ≤ k → ¬ X k 25 := fun k hk => hXn k (Nat.le_trans hW.size hk)
  have cl1 : W.cell? ⟨bl, 0, none⟩ = some (.slice AL L.length cl) := by simp [World.cell?, hl1]
  have ll1 := (Array.getElem?_eq_some_iff.1 hl1).1
  obtain ⟨W1, hW1⟩ : ∃ W1, W.alloc (.cells #[.func (.yield l) #[] #[]] 94) = W1 := ⟨_, rfl⟩
  have k1 : KeepsK X W W1 := by rw [← hW1]; exact KeepsK.alloc _ _
  have y1 : W1.heap[W.heap.size]? = some (.cells #[.func (.yield l) #[] #[]] 94 (0, 0)) := by rw [← hW1]; exact World.alloc_heap_new W _
  have j1 : J [] W1 := by rw [← hW1]; exact hJ.alloc _ h0
  have s1 : W1.heap.size = W.heap.size + 1 := by rw [← hW1]; simp
  obtain ⟨W2, hW2⟩ : ∃ W2, W1.alloc (.cells #[.slice AL L.length cl] 25) = W2 := ⟨_, rfl⟩
  have k2 : KeepsK X W1 W2 := by rw [← hW2]; exact KeepsK.alloc _ _
  have b2 : W2.heap[W1.heap.size]? = some (.cells #[.slice AL L.length cl] 25 (0, 0)) := by rw [← hW2]; exact World.alloc_heap_new W1 _
  have j2 : J [] W2 := by rw [← hW2]; exact hJ.alloc _ j1
  have s2 : W2.heap.size = W1.heap.size + 1 := by rw [← hW2]; simp
  have hseq := Lib.hid (spansK_iter X W1.heap.size cl AL L W2 ((hr1.keep k1).keep k2) (hXn1 _ (by omega)) hlen hok b2)
  have HY2 := Lib.hid (k2.cell y1 (hXf _))
  have HD2 := Lib.hid ((k1.trans k2).cell hd1 hXd)
  have HS := Lib.hid (show W.heap.size ≤ W2.heap.size by omega)
  have HJ2 := Lib.hid j2
  have HY := Lib.hid hY
  have HOK := Lib.hid hok
  have HB := Lib.hid hD
  have HX := Lib.hid hXf
  have HXd := Lib.hid hXd
  have HW1 := Lib.hid hW1
  have HW2 := Lib.hid hW2
  have HS1 := Lib.hid s1
  obtain ⟨kl, hkl⟩ : ∃ kl, L.length = kl := ⟨_, rfl⟩
  obtain ⟨kd, hkd⟩ : ∃ kd, D.length = kd := ⟨_, rfl⟩
  rw [hkl] at cl1 HW2
  rw [hkd] at HD2
  clear hl1 hd1 hr1 hr hXn hXn1 k1 y1 j1 s1 k2 b2 j2 s2 hY hok hD hXf hXd hXl hW1 hW2 h0 hlen hbl hbd hkl hkd
  show CallsIn Fence.wide n Tryz.prog 50 #[.func (.yield l) #[] #[], .pointer (some ⟨bl, 0, none⟩), .pointer (some ⟨bd, 0, none⟩)] W _
  refine callsIn_of_wp_marks Tryz.func50 rfl trivial ?_ rfl
  simp only [Tryz.ntmps50, List.size_toArray, List.length_cons, List.length_nil, Nat.reduceAdd, Nat.reduceSub, Array.replicate_succ, Array.replicate_zero, List.push_toArray, List.append_toArray, List.nil_append, List.cons_append]
  gi_wp2
  rw [HW1.out]
  gi_wp2_with (refine ⟨trivial, fun h => (by cases h), ?_⟩; refine (callsIn_wide.2 (spansmaker _ _ _ _)).mono ?_; rintro e w' ⟨rfl, rfl⟩)
  rw [HW2.out]
  refine range_ownK twoK (X := X) (zs := spanK 0 L) (gf := 74) (lb := #[.pointer (some ⟨W1.heap.size, 0, none⟩)]) rfl (enters_of Tryz.func74 (by kernel_rfl) rfl) hseq.out
    (fun pre V => J pre V ∧ KeepsK X W2 V) (fun pre V => Jx pre V ∧ KeepsFrom W.heap.size W2 V) ?hI ?hIx ?h0 (fun _ => rfl)
    (fun x => { tmps := #[.func (.yield l) #[] #[], .pointer (some ⟨bl, 0, none⟩), .pointer (some ⟨bd, 0, none⟩), .pointer (some ⟨W.heap.size, 0, none⟩), .int .i64 x.1, .int .i64 x.2, .slice AL kl cl,
          .func (.func 74) #[] #[.pointer (some ⟨W1.heap.size, 0, none⟩)], .int .i64 x.1, .int .i64 x.2, undef, undef, undef, undef, undef, undef, undef, undef], defers := [] }) ?assign ?body ?done ?stop
  case hI => exact fun s A C row hs hg hr => ⟨hJ _ A C row hs.1 hg (fun r e => ⟨Nat.le_trans HS.out (hr r e).1, (hr r e).2⟩), ownFrom_keepsK X W2 (Nat.le_refl _) s A C row hs.2 hg hr⟩
  case hIx => exact fun s A C row hs hg hr => ⟨hJx _ A C row hs.1 hg (fun r e => ⟨Nat.le_trans HS.out (hr r e).1, (hr r e).2⟩), ownFrom_keepsF W.heap.size W2 (Nat.le_refl _) s A C row hs.2 hg hr⟩
  case h0 => exact ⟨HJ2.out, KeepsK.refl _ _⟩
  case assign =>
    intro l1 m1 x V K hK
    simp only [twoK]
    gi_wp2
    exact hK
  case body =>
    rintro l1 m1 pre x V hl1 hr1 ⟨hjV, hkV⟩ hpre
    obtain ⟨z, hz, hx, hpp⟩ := spanK_pre hpre
    obtain ⟨hz0, hz4, hs0, hsz⟩ := sumI_le HOK.out hz
    have hcd := HB.out
    have y1 : V.cell? ⟨W.heap.size, 0, none⟩ = some (.func (.yield l) #[] #[]) := by
      have := hkV.cell HY2.out (HX.out _)
      simp [World.cell?, this]
    have y2 : V.cell? ⟨bd, 0, none⟩ = some (.slice AD kd cd) := by
      have := hkV.cell HD2.out HXd.out
      simp [World.cell?, this]
    obtain ⟨s, hs⟩ : ∃ s, sumI (L.take pre.length) = s := ⟨_, rfl⟩
    rw [hs] at hx hs0 hsz
    subst hx
    have hrun : ∀ u, (Instr.slice 25 (.slice AD kd cd) (some (.int .i64 s)) (some (.int .i64 (s + z))) (some (.int .i64 (s + z)))).run Tryz.prog u = .ok (sgV AD (s, s + z)) u := fun u => cut_run AD kd cd s z u hs0 hz0 (by omega)
    have hjV2 : J pre V.drew := hJ pre V V.drew none hjV (gr_drewN V 1 none) (by simp)
    obtain ⟨fn, tmps, assign, body, hy, hR⟩ := HY.out (m1 - 1) pre (s, s + z) V.drew hjV2 hpre
    simp only [sgK] at hy
    replace hR := RoundIn.inRoundK l1 hR
    have hmx : Tryz.prog.follows .mixedOrders = true := by kernel_rfl
    clear hz hs hpp
    gi_wp2
    refine wpIn_region_still_tail (lets_round l1) 6 hmx (by kernel_rfl) (by kernel_rfl) ?_
    simp only [List.take_succ_cons, List.take_zero, List.drop_succ_cons, List.drop_zero]
    repeat still_step
    refine wpStill_nil ?_
    gi_wp2_with (refine ⟨fun h => (by cases h), ?_⟩; refine hR.mono ?_; clear hR; rintro e W' (⟨rfl, hJ', hk⟩ | ⟨rfl, hJx', hk⟩))
    · exact ⟨(KeepsK.grown (gr_drewN V 1 none)).trans hk, hJ', (hkV.trans (KeepsK.grown (gr_drewN V 1 none))).trans hk⟩
    · have hk2 : KeepsFrom W.heap.size V W' := ⟨hk.size, fun k o hb hh ho => hk.same k o hb hh ho⟩
      exact ⟨KeepsFrom.upK hk2 HS.out, hJx', (hkV.from _).trans hk2⟩
  case done =>
    rintro D V hD ⟨hjV, _⟩ hK
    gi_wp2
    refine leaves_marks (v := .tuple #[]) (fun V => J (spanK 0 L) V) (fun w => results_none rfl _ _ w) (fun V hV => ⟨⟨_, rfl⟩, .inl hV⟩) [D] V ?_ (by simp) (by simpa using hK) hjV
    intro D' V' hm hK' hh
    obtain rfl : D' = D := by simpa using hm
    exact hJ.putObj _ hK' (Nat.le_trans HS.out hD) hh rfl
  case stop =>
    rintro D pre V hD hpre ⟨hjV, _⟩ hK
    gi_wp2
    refine leaves_marks (v := .tuple #[]) (fun V => Jx pre V) (fun w => results_none rfl _ _ w) (fun V hV => ⟨⟨_, rfl⟩, .inr ⟨pre, hpre, hV⟩⟩) [D] V ?_ (by simp) (by simpa using hK) hjV
    intro D' V' hm hK' hh
    obtain rfl : D' = D := by simpa using hm
    exact hJx.putObj _ hK' (Nat.le_trans HS.out hD) hh rfl

end Go.Proofs.YtachjodnhgmoiaaGreatDoor
