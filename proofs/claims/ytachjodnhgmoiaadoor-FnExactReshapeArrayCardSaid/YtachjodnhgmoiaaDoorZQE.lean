/- 4 texts in one: Iter IterN Collect Resh. -/
import Derived.Test.YtachjodnhgmoiaaDoorSeqS
import Derived.Test.YtachjodnhgmoiaaDoorZQD
import Derived.Maps.AppendAt
import Derived.Test.YtachjodnhgmoiaaDoorZQB
import Derived.Test.YtachjodnhgmoiaaDoorLytArg
namespace Go.Proofs.YtachjodnhgmoiaaDoor
/- Iter -/
section
open Go.RowKit Go.Shelf
attribute [local go_sem] Oper.semAt_some

theorem own_keepX {X : TypeId → Prop} {w w' : World} {base : Nat} {e : TypeId} {size n : Nat} {v : Value} {xs : List Value} (h : w.ownsRow base e size v n xs) (hk : KeepsX X w w') (he : ¬ X e) : w'.ownsRow base e size v n xs := by
  refine ⟨h.1, ?_⟩
  rcases h.2 with hn | ⟨g, cap, cur, rfl, hb, hgg, rest⟩
  · exact .inl hn
  · exact .inr ⟨g, cap, cur, rfl, hb, hk.same g _ hgg (fun _ _ _ e' => by cases e'; exact he), rest⟩

/-- Such cells are no array's. -/
structure Spares (X : TypeId → Prop) : Prop where
  str : ∀ d, ¬ X (strT d)
  el : ∀ d, ¬ X (elT d)
  yield : ¬ X 160

theorem Nd.keepX {X : TypeId → Prop} {w w' : World} {S : Nat → Prop} (hX : Spares X) (hk : KeepsX X w w') : ∀ (d : Nat) (t : T d) (v : Value), Nd w S d t v → Nd w' S d t v
  | 0, _, _, h => h
  | d + 1, ts, v, ⟨b, sv, xs, hv, hb, hh, ho, hS, ha⟩ =>
    ⟨b, sv, xs, hv, hb, hk.same b _ hh (fun _ _ _ e => by cases e; exact hX.str d), own_keepX ho hk (hX.el d), hS, All2.mono (Nd.keepX hX hk d) ts xs ha⟩

theorem ycell {X : TypeId → Prop} {w w' : World} (hX : Spares X) (hk : KeepsX X w w') {b : Nat} {v : Value} (h : w.heap[b]? = some (.cells #[v] 160 (0, 0))) : w'.cell? ⟨b, 0, none⟩ = some v := by
  have := hk.cell h hX.yield
  simp [World.cell?, this]

theorem ta00 (v : Value) (xT : TypeId) (w : World) : (Instr.typeAssert (.iface 161 v) xT 161 true).run Tryd.prog w = .ok (.tuple #[v, .bool true]) w := by
  simp [Instr.typeAssert, run_underlying Tryd.underlying161, go_sem, Result.andThen]
theorem ta10 (v : Value) (xT : TypeId) (w : World) : (Instr.typeAssert (.iface 162 v) xT 161 true).run Tryd.prog w = .ok (.tuple #[.int .i64 0, .bool false]) w := by
  simp [Instr.typeAssert, run_underlying Tryd.underlying161, go_sem, Result.andThen]
theorem ta11 (v : Value) (xT : TypeId) (w : World) : (Instr.typeAssert (.iface 162 v) xT 162 true).run Tryd.prog w = .ok (.tuple #[v, .bool true]) w := by
  simp [Instr.typeAssert, run_underlying Tryd.underlying162, go_sem, Result.andThen]
theorem ta20 (v : Value) (xT : TypeId) (w : World) : (Instr.typeAssert (.iface 166 v) xT 161 true).run Tryd.prog w = .ok (.tuple #[.int .i64 0, .bool false]) w := by
  simp [Instr.typeAssert, run_underlying Tryd.underlying161, go_sem, Result.andThen]
theorem ta21 (v : Value) (xT : TypeId) (w : World) : (Instr.typeAssert (.iface 166 v) xT 162 true).run Tryd.prog w = .ok (.tuple #[.pointer none, .bool false]) w := by
  simp [Instr.typeAssert, run_underlying Tryd.underlying162, go_sem, Result.andThen]
theorem ta22 (v : Value) (xT : TypeId) (w : World) : (Instr.typeAssert (.iface 166 v) xT 166 true).run Tryd.prog w = .ok (.tuple #[v, .bool true]) w := by
  simp [Instr.typeAssert, run_underlying Tryd.underlying166, go_sem, Result.andThen]

set_option maxRecDepth 100000 in
set_option maxHeartbeats 2000000 in
theorem iter0 (X : TypeId → Prop) (hX : Spares X) (b : Nat) (z : Nat) (w : World) (hb : w.heap[b]? = some (.cells #[.iface 161 (.int .i64 (z : Int))] 107 (0, 0))) :
    SeqOwn X Tryd.prog 113 #[.pointer (some ⟨b, 0, none⟩)] [(z : Int)] w := by
  intro n l J Jx W hW hJ hJx hY h0
  have hb1 := hW.cell hb (hX.el 1)
  have hc : W.cell? ⟨b, 0, none⟩ = some (.iface 161 (.int .i64 (z : Int))) := by simp [World.cell?, hb1]
  have hlt : b < W.heap.size := (Array.getElem?_eq_some_iff.1 hb1).1
  clear hb hb1
  obtain ⟨zi, hzi⟩ : ∃ zi : Int, (z : Int) = zi := ⟨_, rfl⟩
  rw [hzi] at hc ⊢
  obtain ⟨fn, tmps, assign, body, hy, hR⟩ := hY (n - 1) [] zi (W.alloc (.cells #[.func (.yield l) #[] #[]] 160)) (hJ.alloc _ h0) (by rw [hzi]; simp)
  clear hzi hY
  show CallsIn Fence.wide n Tryd.prog 113 #[.func (.yield l) #[] #[], .pointer (some ⟨b, 0, none⟩)] W _
  refine callsIn_of_wp Tryd.func113 rfl trivial ?_ rfl
  simp only [Tryd.ntmps113, List.size_toArray, List.length_cons, List.length_nil, Nat.reduceAdd, Nat.reduceSub, Array.replicate_succ, Array.replicate_zero, List.push_toArray, List.append_toArray, List.nil_append, List.cons_append]
  have hta := ta00
  gi_wp2_with (refine ⟨fun h => (by cases h), ?_⟩; refine hR.mono ?_; clear hR; rintro e W' (⟨rfl, hJ', hk⟩ | ⟨rfl, hJx', hk⟩))
  · go_end0
    exact ⟨⟨_, rfl⟩, .inl hJ'⟩
  · go_end0
    exact ⟨⟨_, rfl⟩, .inr ⟨[zi], List.prefix_rfl, hJx'⟩⟩

/-- A row of one cell an element, read. -/
theorem prow {w : World} {base e : Nat} {A : Option Addr} {k c : Nat} {xs : List Value} (h : w.ownsRow base e 1 (.slice A k c) xs.length xs) :
    k = xs.length ∧ (0 < k → ∃ g, A = some ⟨g, 0, none⟩ ∧ g < w.heap.size ∧ ∀ (j : Nat) (x : Value), xs[j]? = some x → w.cell? ⟨g, j, none⟩ = some x) := by
  rcases h.2 with ⟨hv, hn⟩ | ⟨g, cap, cur, hv, _, hg, hnc, _, hcs, htake⟩
  · cases hv
    exact ⟨by omega, fun h => by omega⟩
  · cases hv
    refine ⟨rfl, fun _ => ⟨g, rfl, (Array.getElem?_eq_some_iff.1 hg).1, fun j x hj => ?_⟩⟩
    have hjl : j < xs.length := by
      rcases Nat.lt_or_ge j xs.length with h | h
      · exact h
      · rw [List.getElem?_eq_none h] at hj; cases hj
    rw [cell_of_row w g j _ _ (0, 0) hg]
    have : (cur.toList.take (xs.length * 1))[j]? = some x := by rw [htake, hj]
    rw [List.getElem?_take, if_pos (by omega)] at this
    simpa using this

theorem nums_one (t : List Nat) : nums 1 t = t.map (fun m : Nat => (m : Int)) := by
  show (show List (T 0) from t).flatMap (nums 0) = _
  induction t with
  | nil => rfl
  | cons m t ih =>
    show nums 0 m ++ List.flatMap (nums 0) (show List (T 0) from t) = _
    rw [ih]
    rfl
theorem take_step {α : Type} {l : List α} {j : Nat} {x : α} (h : l[j]? = some x) : l.take (j + 1) = l.take j ++ [x] := by
  rw [List.take_add_one, h]; rfl

set_option maxRecDepth 100000 in
set_option maxHeartbeats 4000000 in
theorem iter1 (X : TypeId → Prop) (hX : Spares X) (S : Nat → Prop) (b : Nat) (t : T 1) (v : Value) (w : World) (hr : Nd w S 1 t v) (hlen : (show List Nat from t).length ≤ 1000000)
    (hb : w.heap[b]? = some (.cells #[v] 107 (0, 0))) :
    SeqOwn X Tryd.prog 113 #[.pointer (some ⟨b, 0, none⟩)] (nums 1 t) w := by
  intro n l J Jx W hW hJ hJx hY h0
  have hb1 := hW.cell hb (hX.el 1)
  obtain ⟨q, sv, xs, rfl, hq, hh, ho, hS, ha⟩ := Nd.keepX hX hW 1 t v hr
  obtain ⟨A, k, c, rfl⟩ := own_form ho
  have hc : W.cell? ⟨b, 0, none⟩ = some (.iface (ptrT 0) (.pointer (some ⟨q, 0, none⟩))) := by simp [World.cell?, hb1]
  have hlt : b < W.heap.size := (Array.getElem?_eq_some_iff.1 hb1).1
  have hqc : W.cell? ⟨q, 0, none⟩ = some (.slice A k c) := by simp [World.cell?, hh]
  have hqlt : q < W.heap.size := (Array.getElem?_eq_some_iff.1 hh).1
  clear hb hb1 hr hh
  simp only [ptrT] at hc
  have hta := ta10
  have htb := ta11
  show CallsIn Fence.wide n Tryd.prog 113 #[.func (.yield l) #[] #[], .pointer (some ⟨b, 0, none⟩)] W _
  refine callsIn_of_wp Tryd.func113 rfl trivial ?_ rfl
  simp only [Tryd.ntmps113, List.size_toArray, List.length_cons, List.length_nil, Nat.reduceAdd, Nat.reduceSub, Array.replicate_succ, Array.replicate_zero, List.push_toArray, List.append_toArray, List.nil_append, List.cons_append]
  obtain ⟨W1, hW1⟩ : ∃ W1, W.alloc (.cells #[.func (.yield l) #[] #[]] 160) = W1 := ⟨_, rfl⟩
  have HY1 : Hid (W1.heap[W.heap.size]? = some (.cells #[.func (.yield l) #[] #[]] 160 (0, 0))) := Lib.hid (by rw [← hW1]; exact World.alloc_heap_new W _)
  have HJ1 : Hid (J [] W1) := Lib.hid (by rw [← hW1]; exact hJ.alloc _ h0)
  have HO1 : Hid (W1.ownsRow 0 (elT 0) 1 (.slice A k c) xs.length xs) := Lib.hid (by rw [← hW1]; exact own_keepX ho (KeepsX.alloc W _ (X := fun _ => False)) id)
  have HA := Lib.hid ha
  have HP := Lib.hid (prow ho)
  have HY := Lib.hid hY
  have HLT := Lib.hid (All2.length _ _ ha)
  have hk6 : k ≤ 1000000 := by rw [(prow ho).1, ← All2.length _ _ ha]; exact hlen
  obtain ⟨ns, hns⟩ : ∃ ns, nums 1 t = ns := ⟨_, rfl⟩
  have HN : Hid (∀ (j m : Nat), (show List Nat from t)[j]? = some m → ns[j]? = some (m : Int)) := Lib.hid (fun j m h => by
    rw [← hns, show nums 1 t = (show List Nat from t).map (fun m : Nat => (m : Int)) from nums_one t, List.getElem?_map, h]; rfl)
  have HNL : Hid (ns.length = k) := Lib.hid (by
    rw [← hns, show nums 1 t = (show List Nat from t).map (fun m : Nat => (m : Int)) from nums_one t, List.length_map, (prow ho).1]; exact All2.length _ _ ha)
  rw [hns] at HY ⊢
  have HW1 := Lib.hid hW1
  clear hY ha ho hS hns hlen h0 hW1
  gi_wp2
  rw [HW1.out]
  gi_loopw [26] (fun i wr => ∃ j : Nat, j ≤ k ∧ i = .int .i64 j ∧ Hid (J (ns.take j) wr) ∧ Hid (KeepsX X W1 wr)) (fun i _ => k - (intOf i).toNat)
  case atStart => exact ⟨0, Nat.zero_le _, rfl, HJ1, Lib.hid (KeepsX.refl _ _)⟩
  case round =>
    obtain ⟨j, hj, rfl, hjj, hkx⟩ := hrel
    by_cases hlt2 : j < k
    · obtain ⟨hkl, hrow⟩ := prow (own_keepX HO1.out hkx.out (hX.el 0))
      obtain ⟨g, rfl, hgl, hcells⟩ := hrow (by omega)
      obtain ⟨m, x, hm, hx, hnd⟩ := All2.at_ (j := j) HA.out (by omega)
      obtain rfl : x = .int .i64 ((show Nat from m : Nat) : Int) := hnd
      have hcell := hcells j _ hx
      have hyc := ycell hX hkx.out HY1.out
      have hz := HN.out j m hm
      obtain ⟨z, hzz⟩ : ∃ z : Int, ((show Nat from m : Nat) : Int) = z := ⟨_, rfl⟩
      rw [hzz] at hcell hz
      obtain ⟨fn, tmps, assign, body, hy, hR⟩ := HY.out (n - 1) (ns.take j) z wr hjj.out (by have := HNL.out; rw [List.length_take]; omega)
      rw [← take_step hz] at hR
      clear hkl hrow hcells hx hzz hm hz
      gi_wp2_with (refine ⟨fun h => (by cases h), ?_⟩; refine hR.mono ?_; clear hR; rintro e W' (⟨rfl, hJ', hk⟩ | ⟨rfl, hJx', hk⟩))
      · have HJ' := Lib.hid hJ'
        have HK' := Lib.hid (hkx.out.trans hk)
        clear hJ' hk
        go_roundw
        case rel => exact ⟨j + 1, by omega, by go_num, HJ', HK'⟩
        case measure => simp [intOf]; omega
      · refine bodyPost_ret (results_none rfl _ _ _) rfl ?_
        exact ⟨⟨_, rfl⟩, .inr ⟨ns.take (j + 1), List.take_prefix _ _, hJx'⟩⟩
    · have hjn : j = k := by omega
      have HJ := Lib.hid hjn
      clear hjn
      gi_wp2
      go_end0
      refine ⟨⟨_, rfl⟩, .inl ?_⟩
      have := hjj.out
      rw [List.take_of_length_le (by have h1 := HJ.out; have h2 := HNL.out; omega)] at this
      exact this
end

/- IterN -/
section
open Go.RowKit Go.Shelf
attribute [local go_sem] Oper.semAt_some

theorem maker (ty : TypeId) (v : Value) (w : World) : Calls Tryd.prog 78 #[.iface ty v] w fun e w' =>
    e = .returned (.func (.func 113) #[] #[.pointer (some ⟨w.heap.size, 0, none⟩)]) ∧ w' = w.alloc (.cells #[.iface ty v] 107) := by
  have hmf := @makeFunc_run
  go_enter Tryd.func78, Tryd.ntmps78
  go_wp2_with fail
  go_ret
  exact ⟨rfl, rfl⟩

theorem RoundIn.inRound' {F : Fence} {n : Nat} {P : Program} {l : Nat} {f : FuncId} {tmps : Array Value} {assign body : Code} {w : World} {R : Ending → World → Prop} (l0 : Nat)
    (h : RoundIn F n P l f tmps assign body w R) : RoundIn (F.inRound l0) n P l f tmps assign body w R := h
theorem ownFrom_keeps {β : Type} (B0 : Nat) (W0 : World) {B : Nat} (hB : W0.heap.size ≤ B) : OwnFrom B (fun (_ : β) W => KeepsFrom B0 W0 W) := fun s A C row hs hg hr =>
  ⟨Nat.le_trans hs.size hg.size, fun k o hb hk ho => (hg.block k (Nat.lt_of_lt_of_le (Array.getElem?_eq_some_iff.1 hk).1 hs.size) (fun e => by
    have h1 := (hr k e.symm).1
    have h2 := (Array.getElem?_eq_some_iff.1 hk).1
    omega)).trans (hs.same k o hb hk ho)⟩

theorem KeepsFrom.up {B B' : Nat} {W W' : World} (h : KeepsFrom B W W') (hB : B ≤ B') : KeepsFrom B' W W' := ⟨h.size, fun k o hb hk ho => h.same k o (Nat.le_trans hB hb) hk ho⟩
theorem flat_step {α : Type} {f : α → List Int} {t : List α} {j : Nat} {x : α} (h : t[j]? = some x) : (t.take (j + 1)).flatMap f = (t.take j).flatMap f ++ f x := by
  rw [take_step h, List.flatMap_append]; simp
theorem flat_pre {α : Type} (f : α → List Int) (t : List α) (j : Nat) : (t.take j).flatMap f <+: t.flatMap f := by
  refine ⟨(t.drop j).flatMap f, ?_⟩
  rw [← List.flatMap_append, List.take_append_drop]

set_option maxRecDepth 100000 in
set_option maxHeartbeats 8000000 in
theorem iterS (X : TypeId → Prop) (hX : Spares X) (S : Nat → Prop) (b d : Nat) (t : List (T (d + 1))) (v : Value) (w : World) (hr : Nd w S (d + 2) t v) (hlen : t.length ≤ 1000000)
    (hb : w.heap[b]? = some (.cells #[v] 107 (0, 0)))
    (ih : ∀ (t' : T (d + 1)) (b : Nat) (v : Value) (w : World), t' ∈ t → Nd w S (d + 1) t' v → w.heap[b]? = some (.cells #[v] 107 (0, 0)) → SeqOwn X Tryd.prog 113 #[.pointer (some ⟨b, 0, none⟩)] (nums (d + 1) t') w) :
    SeqOwn X Tryd.prog 113 #[.pointer (some ⟨b, 0, none⟩)] (nums (d + 2) t) w := by
  intro n l J Jx W hW hJ hJx hY h0
  have hb1 := hW.cell hb (hX.el 1)
  obtain ⟨q, sv, xs, rfl, hq, hh, ho, hS, ha⟩ := Nd.keepX hX hW (d + 2) t v hr
  obtain ⟨A, k, c, rfl⟩ := own_form ho
  have hc : W.cell? ⟨b, 0, none⟩ = some (.iface (ptrT 1) (.pointer (some ⟨q, 0, none⟩))) := by simp [World.cell?, hb1]; rfl
  have hlt : b < W.heap.size := (Array.getElem?_eq_some_iff.1 hb1).1
  have hqc : W.cell? ⟨q, 0, none⟩ = some (.slice A k c) := by simp [World.cell?, hh]
  have hqlt : q < W.heap.size := (Array.getElem?_eq_some_iff.1 hh).1
  clear hb hb1 hr hh
  simp only [ptrT] at hc
  have hta := ta20
  have htb := ta21
  have htc := ta22
  show CallsIn Fence.wide n Tryd.prog 113 #[.func (.yield l) #[] #[], .pointer (some ⟨b, 0, none⟩)] W _
  refine callsIn_of_wp_marks Tryd.func113 rfl trivial ?_ rfl
  simp only [Tryd.ntmps113, List.size_toArray, List.length_cons, List.length_nil, Nat.reduceAdd, Nat.reduceSub, Array.replicate_succ, Array.replicate_zero, List.push_toArray, List.append_toArray, List.nil_append, List.cons_append]
  obtain ⟨W1, hW1⟩ : ∃ W1, W.alloc (.cells #[.func (.yield l) #[] #[]] 160) = W1 := ⟨_, rfl⟩
  have HY1 : Hid (W1.heap[W.heap.size]? = some (.cells #[.func (.yield l) #[] #[]] 160 (0, 0))) := Lib.hid (by rw [← hW1]; exact World.alloc_heap_new W _)
  have HJ1 : Hid (J [] W1) := Lib.hid (by rw [← hW1]; exact hJ.alloc _ h0)
  have HO1 : Hid (W1.ownsRow 0 (elT (d + 1)) 1 (.slice A k c) xs.length xs) := Lib.hid (by rw [← hW1]; exact own_keepX ho (KeepsX.alloc W _ (X := fun _ => False)) id)
  have HA := Lib.hid ha
  have HP := Lib.hid (prow ho)
  have HY := Lib.hid hY
  have HLT := Lib.hid (All2.length _ _ ha)
  have hk6 : k ≤ 1000000 := by rw [(prow ho).1, ← All2.length _ _ ha]; exact hlen
  have HW1 := Lib.hid hW1
  have HIH := Lib.hid ih
  clear hY ha ho hS hlen h0 hW1 ih
  gi_wp2
  rw [HW1.out]
  refine wpIn_loop (fun a wr => ∃ (j : Nat) (ds : List Nat) (x9 x44 x45 x46 x47 x48 x54 : Value), a = { tmps := #[.func (.yield l) #[] #[], .pointer (some ⟨b, 0, none⟩), .pointer (some ⟨W.heap.size, 0, none⟩), undef, undef, undef, undef, .pointer (some ⟨q, 0, none⟩), undef, x9, undef, .iface 166 (.pointer (some ⟨q, 0, none⟩)), .tuple #[.int .i64 0, .bool false], .bool false, .int .i64 0, undef, undef, undef, .tuple #[.pointer none, .bool false], .bool false, .pointer none, undef, undef, undef, undef, undef, undef, undef, undef, undef, undef, undef, undef, undef, undef, .tuple #[.pointer (some ⟨q, 0, none⟩), .bool true], .bool true, .pointer (some ⟨q, 0, none⟩), .pointer (some ⟨q, 0, none⟩), .pointer (some ⟨q, 0, none⟩), .pointer (some ⟨q, 0, none⟩), .slice A k c, .int .i64 k, .int .i64 j, x44, x45, x46, x47, x48, undef, undef, undef, undef, undef, x54], defers := ds.map mark } ∧ j ≤ k ∧
      Hid (J ((t.take j).flatMap (nums (d + 1))) wr) ∧ Hid (KeepsX X W1 wr) ∧ Hid ds.Nodup ∧ Hid (∀ D ∈ ds, W.heap.size ≤ D ∧ wr.heap[D]? = some (.deferred (some []))))
    (fun a _ => k - (intOf (a.tmps[43]?.getD undef)).toNat) ?start ?round
  case start => exact ⟨0, [], _, _, _, _, _, _, _, rfl, Nat.zero_le _, HJ1, Lib.hid (KeepsX.refl _ _), Lib.hid List.nodup_nil, Lib.hid (by simp)⟩
  case round =>
    rintro a wr ⟨j, ds, x9, x44, x45, x46, x47, x48, x54, rfl, hj, hjj, hkx, hnd, hds⟩
    by_cases hlt2 : j < k
    · obtain ⟨hkl, hrow⟩ := prow (own_keepX HO1.out hkx.out (hX.el (d + 1)))
      obtain ⟨g, rfl, hgl, hcells⟩ := hrow (by omega)
      obtain ⟨tj, x, hm, hx, hpn⟩ := All2.at_ (j := j) HA.out (by omega)
      have hpn2 := hpn
      obtain ⟨bj, svj, xsj, rfl, _⟩ := hpn2
      have hcell := hcells j _ hx
      have HM := Lib.hid hm
      have HPN := Lib.hid hpn
      clear hkl hrow hcells hx hm hpn
      gi_wp2_with (refine ⟨trivial, fun h => (by cases h), ?_⟩; refine (callsIn_wide.2 (maker _ _ _)).mono ?_; rintro e w' ⟨rfl, rfl⟩)
      obtain ⟨w1, hw1⟩ : ∃ w1, wr.alloc (.cells #[.iface (ptrT d) (.pointer (some ⟨bj, 0, none⟩))] 107) = w1 := ⟨_, rfl⟩
      have k1 : KeepsX X wr w1 := by rw [← hw1]; exact KeepsX.alloc _ _
      have c1 : w1.heap[wr.heap.size]? = some (.cells #[.iface (ptrT d) (.pointer (some ⟨bj, 0, none⟩))] 107 (0, 0)) := by rw [← hw1]; exact World.alloc_heap_new wr _
      have j1 : J ((t.take j).flatMap (nums (d + 1))) w1 := by rw [← hw1]; exact hJ.alloc _ hjj.out
      have s1 : W.heap.size ≤ w1.heap.size := by
        have h1 := KeepsX.size hkx.out
        have h2 := k1.size
        have h3 : W.heap.size ≤ W1.heap.size := by rw [← HW1.out]; simp
        omega
      have n1 : Nd w1 S (d + 1) tj (.iface (ptrT d) (.pointer (some ⟨bj, 0, none⟩))) := by
        refine Nd.keepX hX ?_ (d + 1) tj _ HPN.out
        have h1 : KeepsX X W W1 := by rw [← HW1.out]; exact KeepsX.alloc _ _
        exact (h1.trans hkx.out).trans k1
      obtain ⟨pf, hpf⟩ : ∃ pf, (t.take j).flatMap (nums (d + 1)) = pf := ⟨_, rfl⟩
      have hst : (t.take (j + 1)).flatMap (nums (d + 1)) = pf ++ nums (d + 1) tj := by rw [flat_step HM.out, hpf]
      have hpp : pf ++ nums (d + 1) tj <+: nums (d + 2) t := by rw [← hst]; exact flat_pre _ _ _
      have h1n := HIH.out tj _ _ w1 (List.mem_of_getElem? HM.out) n1 c1
      rw [hpf] at j1
      rw [hw1]
      refine range_own (X := X) (zs := nums (d + 1) tj) (gf := 113) (lb := #[.pointer (some ⟨wr.heap.size, 0, none⟩)]) rfl (enters_of Tryd.func113 (by kernel_rfl) rfl) h1n
        (fun pre V => J (pf ++ pre) V ∧ KeepsX X w1 V) (fun pre V => Jx (pf ++ pre) V ∧ KeepsFrom W.heap.size w1 V) ?hI ?hIx ?h0
        (fun x => { tmps := #[.func (.yield l) #[] #[], .pointer (some ⟨b, 0, none⟩), .pointer (some ⟨W.heap.size, 0, none⟩), undef, undef, undef, undef, .pointer (some ⟨q, 0, none⟩), undef, .iface (ptrT d) (.pointer (some ⟨bj, 0, none⟩)), .int .i64 x, .iface 166 (.pointer (some ⟨q, 0, none⟩)), .tuple #[.int .i64 0, .bool false], .bool false, .int .i64 0, undef, undef, undef, .tuple #[.pointer none, .bool false], .bool false, .pointer none, undef, undef, undef, undef, undef, undef, undef, undef, undef, undef, undef, undef, undef, undef, .tuple #[.pointer (some ⟨q, 0, none⟩), .bool true], .bool true, .pointer (some ⟨q, 0, none⟩), .pointer (some ⟨q, 0, none⟩), .pointer (some ⟨q, 0, none⟩), .pointer (some ⟨q, 0, none⟩), .slice (some ⟨g, 0, none⟩) k c, .int .i64 k, .int .i64 j, .bool true, .pointer (some ⟨g, j, none⟩), .iface (ptrT d) (.pointer (some ⟨bj, 0, none⟩)), .iface (ptrT d) (.pointer (some ⟨bj, 0, none⟩)), .func (.func 113) #[] #[.pointer (some ⟨wr.heap.size, 0, none⟩)], .int .i64 x, undef, undef, undef, undef, x54], defers := [] }) ?assign ?body ?done ?stop
      case hI => exact fun s A C row hs hg hr => ⟨hJ _ A C row hs.1 hg (fun r e => ⟨Nat.le_trans s1 (hr r e).1, (hr r e).2⟩), ownFrom_keepsX X w1 (Nat.le_refl _) s A C row hs.2 hg hr⟩
      case hIx => exact fun s A C row hs hg hr => ⟨hJx _ A C row hs.1 hg (fun r e => ⟨Nat.le_trans s1 (hr r e).1, (hr r e).2⟩), ownFrom_keeps W.heap.size w1 (Nat.le_refl _) s A C row hs.2 hg hr⟩
      case h0 => exact ⟨by simpa using j1, KeepsX.refl _ _⟩
      case assign =>
        intro l1 m1 x V K hK
        gi_wp2
        exact hK
      case body =>
        rintro l1 m1 pre x V ⟨hjV, hkV⟩ hlen1
        have hyc := ycell hX ((hkx.out.trans k1).trans hkV) HY1.out
        obtain ⟨fn, tmps, assign, body, hy, hR⟩ := HY.out (m1 - 1) (pf ++ pre) x V hjV (by
          have h2 := hpp.length_le
          simp only [List.length_append] at h2 ⊢
          omega)
        replace hR := RoundIn.inRound' l1 hR
        gi_wp2_with (refine ⟨fun h => (by cases h), ?_⟩; refine hR.mono ?_; clear hR; rintro e W' (⟨rfl, hJ', hk⟩ | ⟨rfl, hJx', hk⟩))
        · refine ⟨hk, ?_, hkV.trans hk⟩
          rw [← List.append_assoc]
          exact hJ'
        · refine ⟨KeepsFrom.up hk s1, ?_, (hkV.from _).trans hk⟩
          rw [← List.append_assoc]
          exact hJx'
      case done =>
        rintro D V hD ⟨hjV, hkV⟩ hDV
        have hwr : IntKind.i64.wrap ((j : Int) + 1) = ((j + 1 : Nat) : Int) := by
          rw [IntWalk.i64_in _ (by omega)]; simp
        have hkv2 := k1.trans hkV
        gi_wp2
        try simp only [hwr]
        refine ⟨⟨j + 1, D :: ds, _, _, _, _, _, _, _, rfl, by omega, Lib.hid ?_, Lib.hid (hkx.out.trans hkv2), Lib.hid ?_, Lib.hid ?_⟩, ?_⟩
        · rw [hst]; exact hjV
        · refine List.nodup_cons.2 ⟨fun hm => ?_, hnd.out⟩
          have h1 := (Array.getElem?_eq_some_iff.1 (hds.out D hm).2).1
          have h2 := k1.size
          rw [← hw1] at hD
          simp at hD
          omega
        · intro D' hm
          rcases List.mem_cons.1 hm with rfl | hm
          · exact ⟨Nat.le_trans s1 hD, hDV⟩
          · exact ⟨(hds.out D' hm).1, hkv2.same D' _ (hds.out D' hm).2 (not_cells_spares rfl X)⟩
        · simp [intOf]; omega
      case stop =>
        rintro D pre V hD hpre hjV hDV
        gi_wp2
        have hkv2 : KeepsFrom W.heap.size wr V := (k1.from _).trans hjV.2
        refine leaves_marks (v := .tuple #[]) (fun V => Jx (pf ++ pre) V) (fun w => results_none rfl _ _ w) (fun V hV => ⟨⟨_, rfl⟩, .inr ⟨pf ++ pre, (List.prefix_append_right_inj pf |>.2 hpre).trans hpp, hV⟩⟩) (D :: ds) V ?_ ?_ ?_ hjV.1
        · intro D' V' hm hK hh
          refine hJx.putObj _ hK ?_ hh rfl
          rcases List.mem_cons.1 hm with rfl | hm
          · exact Nat.le_trans s1 hD
          · exact (hds.out D' hm).1
        · refine List.nodup_cons.2 ⟨fun hm => ?_, hnd.out⟩
          have h1 := (Array.getElem?_eq_some_iff.1 (hds.out D hm).2).1
          rw [← hw1] at hD
          simp at hD
          omega
        · intro D' hm
          rcases List.mem_cons.1 hm with rfl | hm
          · exact hDV
          · exact hkv2.same D' _ (hds.out D' hm).1 (hds.out D' hm).2 rfl
    · have hjn : j = k := by omega
      have HJ := Lib.hid hjn
      clear hjn
      gi_wp2
      have hjj2 := hjj.out
      rw [List.take_of_length_le (by have h1 := HJ.out; have h2 := HLT.out; have h3 := HP.out.1; omega)] at hjj2
      refine leaves_marks (v := .tuple #[]) (fun V => J (nums (d + 2) t) V) (fun w => results_none rfl _ _ w) (fun V hV => ⟨⟨_, rfl⟩, .inl hV⟩) ds wr ?_ hnd.out (fun D hm => (hds.out D hm).2) hjj2
      intro D' V' hm hK hh
      exact hJ.putObj _ hK (hds.out D' hm).1 hh rfl
end

/- Collect -/
section
open Go.RowKit Go.Shelf
attribute [local go_sem] Oper.semAt_some

/-- Rows of ints, and boxes of slices of ints. -/
def intsX (t : TypeId) : Prop := t = 3 ∨ t = 22
theorem intsX_spares : Spares intsX := ⟨fun d => by cases d <;> simp [intsX, strT], fun d => by cases d <;> simp [intsX, elT], by simp [intsX]⟩
theorem SeqOwn.later {X : TypeId → Prop} {P : Program} {g : Nat} {lb : Array Value} {zs : List Int} {w w' : World} (h : SeqOwn X P g lb zs w) (hk : KeepsX X w w') : SeqOwn X P g lb zs w' :=
  fun n l J Jx W hW => h n l J Jx W (hk.trans hW)

theorem iter_all (X : TypeId → Prop) (hX : Spares X) (S : Nat → Prop) : ∀ (d : Nat) (t : T d) (b : Nat) (v : Value) (w : World), RepI w S d t v → (text d t).length ≤ 1000000 →
    w.heap[b]? = some (.cells #[v] 107 (0, 0)) → SeqOwn X Tryd.prog 113 #[.pointer (some ⟨b, 0, none⟩)] (nums d t) w
  | 0, t, b, v, w, hr, _, hb => by
    obtain rfl : v = .iface 161 (.int .i64 ((show Nat from t : Nat) : Int)) := hr
    exact iter0 X hX b (show Nat from t) w hb
  | 1, t, b, v, w, hr, hl, hb => by
    refine iter1 X hX S b t v w hr ?_ hb
    have e : text 1 t = 91 :: (lst 0 t ++ [93]) := text_succ 0 t
    have h3 := lst_ge 0 t
    rw [e] at hl
    simp only [List.length_cons, List.length_append] at hl
    exact Nat.le_trans h3 (by omega)
  | d + 2, t, b, v, w, hr, hl, hb => by
    have e : text (d + 2) t = 91 :: (lst (d + 1) t ++ [93]) := text_succ (d + 1) t
    have h3 := lst_ge (d + 1) t
    rw [e] at hl
    simp only [List.length_cons, List.length_append] at hl
    exact iterS X hX S b d t v w hr (Nat.le_trans h3 (by omega)) hb (fun t' b v w hm hn hb => iter_all X hX S (d + 1) t' b v w hn (Nat.le_trans (text_mem hm) (by omega)) hb)

theorem own_len {w : World} {base e m n : Nat} {A : Option Addr} {c : Nat} {xs : List Value} (h : w.ownsRow base e 1 (.slice A m c) n xs) : m = n := by
  rcases h.2 with ⟨hv, hn⟩ | ⟨g, cap, cur, hv, _⟩
  · cases hv; omega
  · cases hv; rfl

theorem keeps_row {X : TypeId → Prop} {V V' : World} {base e size n : Nat} {v : Value} {xs : List Value} (h : V.ownsRow base e size v n xs) (he : X e) (hg : V.grownBy V' v.ownBlock) : KeepsX X V V' := by
  rcases h.2 with ⟨rfl, _⟩ | ⟨g, cap, cur, rfl, _, hgb, _⟩
  · exact KeepsX.grown hg
  · exact KeepsX.grownX hg hgb he
theorem row_from {V : World} {base e size n : Nat} {v : Value} {xs : List Value} (h : V.ownsRow base e size v n xs) : ∀ k, v.ownBlock = some k → base ≤ k := fun k hk => (h.lt k hk).1

/-- A slice of ints that is new. -/
def SeqPost (zs : List Int) (w : World) (e : Ending) (w' : World) : Prop :=
  ∃ A c, e = .returned (.slice A zs.length c) ∧ w.grownBy w' none ∧ w'.ownsRow w.heap.size 3 1 (.slice A zs.length c) zs.length (zs.map (Value.int .i64))

set_option maxRecDepth 100000 in
set_option maxHeartbeats 4000000 in
theorem append_any (gf : Nat) (fn : Func) (c : Code) (hfn : Tryd.prog.funcs[gf]? = some fn) (hname : (fn.name == "runtime.NumGoroutine") = false) (hbody : fn.body = some c) (lb : Array Value) (zs : List Int) (w : World) (hseq : SeqOwn intsX Tryd.prog gf lb zs w) (hlen : zs.length ≤ 1000000) :
    Calls Tryd.prog 112 #[.slice none 0 0, .func (.func gf) #[] lb] w (SeqPost zs w) := by
  obtain ⟨i0, hi, hz0, hz1, hz2⟩ := info_parts infoI
  refine (callsIn_wide (n := 3)).1 ?_
  refine callsIn_of_wp_marks Tryd.func112 rfl trivial ?_ rfl
  simp only [Tryd.ntmps112, List.size_toArray, List.length_cons, List.length_nil, Nat.reduceAdd, Nat.reduceSub, Array.replicate_succ, Array.replicate_zero, List.push_toArray, List.append_toArray, List.nil_append, List.cons_append]
  gi_wp2
  have bO := Boxed.new w 22 (.slice none 0 0)
  refine range_own (X := intsX) (zs := zs) (gf := gf) (lb := lb) rfl (enters_of hfn hname hbody) (hseq.later (KeepsX.alloc _ _))
    (fun pre V => (∃ v, Boxed V w.heap.size 22 v ∧ V.ownsRow w.heap.size 3 1 v pre.length (pre.map (Value.int .i64)) ∧ True) ∧ w.grownBy V none) (fun _ _ => False) ?hI ?hIx ?h0
    (fun x => { tmps := #[.slice none 0 0, .func (.func gf) #[] lb, .pointer (some ⟨w.heap.size, 0, none⟩), undef, .slice none 0 0, .int .i64 x, .func (.func gf) #[] lb, .int .i64 x, undef, undef, undef, undef, undef], defers := [] }) ?assign ?body ?done ?stop
  case hI => exact OwnFrom.and (Own.from (holdsRow_own w.heap.size w.heap.size 22 3 1 (fun pre : List Int => pre.length) (fun pre => pre.map (Value.int .i64)) (fun _ _ => True)) _) (fun s A C row hs hg hr => gr_row hs hg (fun k e => by have := (hr k e).1; simp at this; omega))
  case hIx => exact fun _ _ _ _ hs _ _ => hs
  case h0 => exact ⟨⟨_, bO, World.ownsRow_nil _ _ _ _, trivial⟩, World.grownBy_alloc _ _ _⟩
  case assign =>
    intro l m x W K hK
    gi_wp2
    exact hK
  case body =>
    rintro l m pre x V ⟨⟨v, hv, hrow, _⟩, hB⟩ hlt
    have hc := hv.cell
    gi_wp2_with (gi_at_builtin; refine wpListIn_append_own _ rfl _ _ 22 rfl w.heap.size 3 i0 (.int .i64 0) 1 8 Tryd.underlying22 hi hz0 hz1 hz2 rfl (by decide) _ _ _ rfl (hrow.alloc _) ⟨V.heap.size, 0, none⟩ 1 1 [.int .i64 x] rfl rfl (cell_one_new _ _ _) (by simp [Value.oneCell']) (by simp only [maxLen]; omega) (by omega) (by have := hB.size; simp; omega) ?_; intro v' w1 hown' hgrow _; obtain ⟨g', cap', rfl⟩ := ownsRow_succ hown'; obtain ⟨hv1, hv2, hr2, hk2, hb2⟩ := hv.appended (by decide) hrow hB.size (Nat.le_refl _) hown' hgrow; have hc1 := hv1.cell; have hf1 := hv1.frozen)
    have ka : KeepsX intsX (V.alloc (.cells #[.int .i64 x] 3)) w1 := keeps_row (hrow.alloc _) (.inl rfl) hgrow
    have kb : KeepsX intsX w1 (w1.setCell ⟨w.heap.size, 0, none⟩ (.slice (some ⟨g', 0, none⟩) (pre.length + 1) cap')) := KeepsX.grownX (grownBy_setCell' w1 w.heap.size _) hv1 (.inr rfl)
    refine ⟨((KeepsX.alloc V _).trans ka).trans kb, ⟨_, hv2, by simpa using hr2, trivial⟩, ?_⟩
    exact gr_row (gr_row (hB.trans (World.grownBy_alloc V _ none)) hgrow (row_from hrow)) (grownBy_setCell' w1 w.heap.size _) (fun k e => by cases e; exact Nat.le_refl _)
  case done =>
    rintro D V hD ⟨⟨v, hv, hrow, _⟩, hB⟩ hK
    have hc := hv.cell
    obtain ⟨A, m, c, rfl⟩ := own_form hrow
    obtain rfl := own_len hrow
    gi_wp2
    refine ⟨by simp, .inl ⟨_, _, rfl, run_takeDeferred hK, ?_⟩⟩
    refine ⟨_, results_tmp rfl _ _ _, A, c, rfl, gr_row hB (grownBy_putObj' V D _) (fun k e => by cases e; simp at hD; omega), ownsRow_putObj hrow _ hK rfl⟩
  case stop =>
    rintro D pre V _ _ h _
    exact h.elim

theorem collect_any (gf : Nat) (fn : Func) (c : Code) (hfn : Tryd.prog.funcs[gf]? = some fn) (hname : (fn.name == "runtime.NumGoroutine") = false) (hbody : fn.body = some c) (lb : Array Value) (zs : List Int) (w : World) (hseq : SeqOwn intsX Tryd.prog gf lb zs w) (hlen : zs.length ≤ 1000000) :
    Calls Tryd.prog 77 #[.func (.func gf) #[] lb] w (SeqPost zs w) := by
  have HC := Lib.hid (append_any gf fn c hfn hname hbody lb zs w hseq hlen)
  clear hseq hfn hname hbody
  go_enter Tryd.func77, Tryd.ntmps77
  go_wp2_with fail
  refine HC.out.mono ?_
  rintro e w' ⟨A, c', rfl, hg, ho⟩
  have HG := Lib.hid hg
  have HO := Lib.hid ho
  clear hg ho
  go_wp2_with fail
  go_ret
  exact ⟨A, c', rfl, HG.out, HO.out⟩

/-- How NumbersOf of the program ends, with and without an array. -/
def NIPost (s : ByteArray) (n : Int) (w : World) (e : Ending) (w' : World) : Prop :=
  (isArr s n = false ∧ e = .returned (.tuple #[.slice none 0 0, .bool false]) ∧ w.grownBy w' none) ∨
  (isArr s n = true ∧ ∃ t A c, readN s n.toNat = some t ∧ e = .returned (.tuple #[.slice A (nums n.toNat t).length c, .bool true]) ∧ w.grownBy w' none ∧
    w'.ownsRow w.heap.size 3 1 (.slice A (nums n.toNat t).length c) (nums n.toNat t).length ((nums n.toNat t).map (Value.int .i64)))

set_option maxHeartbeats 1000000 in
theorem numbersof_impl (s : ByteArray) (n : Int) (w : World) : Calls Tryd.prog 40 #[.string s, .int .i64 n] w (NIPost s n w) := by
  by_cases h : 0 ≤ n ∧ n ≤ 3 ∧ s.size ≤ 400
  · have HC := Lib.hid (nest_in n n.toNat s w (by omega) h.1 h.2.1 h.2.2)
    cases hr : readN s n.toNat with
    | none =>
      have hv : isArr s n = false := by unfold isArr; rw [hr]; simp
      have HR := Lib.hid hr
      have HV := Lib.hid hv
      clear h hv hr
      go_enter Tryd.func40, Tryd.ntmps40
      go_wp2_with fail
      refine HC.out.mono ?_
      intro e w1 hp
      unfold NestPost at hp
      rw [HR.out] at hp
      obtain ⟨rfl, hg⟩ := hp
      have HG := Lib.hid hg
      clear hg
      go_wp2_with fail
      go_ret2
      exact .inl ⟨HV.out, rfl, HG.out⟩
    | some t =>
      have hv : isArr s n = true := by unfold isArr; rw [hr]; simp; omega
      have hlen : (text n.toNat t).length ≤ 1000000 := by
        rw [← readN_bytes hr, Array.length_toList]
        have : s.data.size = s.size := rfl
        omega
      have HR := Lib.hid hr
      have HV := Lib.hid hv
      have HL := Lib.hid hlen
      clear h hv hr hlen
      go_enter Tryd.func40, Tryd.ntmps40
      go_wp2_with fail
      refine HC.out.mono ?_
      intro e w1 hp
      unfold NestPost at hp
      rw [HR.out] at hp
      obtain ⟨v, rfl, hg, ha⟩ := hp
      have ha2 := ha
      obtain ⟨ty, pv, rfl⟩ := ha2.iface
      have HG := Lib.hid (hg.trans (World.grownBy_alloc w1 (.cells #[.iface ty pv] 107) none))
      have HSEQ : Hid (SeqOwn intsX Tryd.prog 113 #[.pointer (some ⟨w1.heap.size, 0, none⟩)] (nums n.toNat t) (w1.alloc (.cells #[.iface ty pv] 107))) := Lib.hid (by
        refine iter_all intsX intsX_spares (fun _ => True) n.toNat t w1.heap.size (.iface ty pv) _ ?_ HL.out (World.alloc_heap_new w1 _)
        exact RepI.keep (fun b _ hb => Below.heap_alloc w1 _ b hb) (fun _ _ _ => trivial) n.toNat t _ ha)
      clear hg ha
      go_wp2_with fail
      refine (maker ty pv w1).mono ?_
      rintro e w2 ⟨rfl, rfl⟩
      go_wp2_with fail
      refine (collect_any 113 _ _ Tryd.func113 (by kernel_rfl) rfl _ _ _ HSEQ.out (Nat.le_trans (nums_text _ _) HL.out)).mono ?_
      rintro e w3 ⟨A, c, rfl, hg3, ho3⟩
      have HG3 := Lib.hid (HG.out.trans hg3)
      have HO3 := Lib.hid (own_base (base' := w.heap.size) ho3 HG.out.size)
      clear hg3 ho3
      go_wp2_with fail
      go_ret2
      exact .inr ⟨HV.out, t, A, c, HR.out, rfl, HG3.out, HO3.out⟩
  · have HC := Lib.hid (nest_out n s w (by omega))
    have hv : isArr s n = false := by unfold isArr; simp [h]
    have HV := Lib.hid hv
    clear h hv
    go_enter Tryd.func40, Tryd.ntmps40
    go_wp2_with fail
    refine HC.out.mono ?_
    rintro e w1 ⟨rfl, hg⟩
    have HG := Lib.hid hg
    clear hg
    go_wp2_with fail
    go_ret2
    exact .inl ⟨HV.out, rfl, HG.out⟩
end

/- Resh -/
section
open Go.RowKit Go.Shelf

/-- The numbers of an array, none if it is none. -/
def numA (s : ByteArray) (n : Int) : List Int := match readN s n.toNat with
  | some t => nums n.toNat t
  | none => []
/-- The text of the reshaped array, nothing where there is none. -/
def reshX (s : ByteArray) (n : Int) (sh : List Int) : Option (List UInt8) := if isArr s n = true then fillX sh (numA s n) else none
theorem sl_own {w : World} {base m n : Nat} {A : Option Addr} {c : Nat} {xs : List Value} {e : TypeId} (h : w.ownsRow base e 1 (.slice A m c) n xs) : Sl A m c := by
  rcases h.2 with ⟨hv, hn⟩ | ⟨g, cap, cur, hv, _, _, hnc, _⟩
  · cases hv
    exact ⟨Nat.le_refl _, .inl ⟨rfl, rfl⟩⟩
  · cases hv
    exact ⟨hnc, .inr ⟨g, 0, rfl⟩⟩
theorem numA_len {s : ByteArray} {n : Int} (h : isArr s n = true) : (numA s n).length ≤ 400 := by
  unfold isArr at h
  simp only [Bool.and_eq_true, decide_eq_true_eq] at h
  unfold numA
  cases hr : readN s n.toNat with
  | none => simp
  | some t =>
    refine Nat.le_trans (nums_text _ _) ?_
    rw [← readN_bytes hr, Array.length_toList]
    have : s.data.size = s.size := rfl
    omega
/-- How NumbersOf ends on both sides. -/
def NbP (s : ByteArray) (n : Int) (w : World) (e : Ending) (w' : World) : Prop :=
  ∃ A m c, e = .returned (.tuple #[.slice A m c, .bool (isArr s n)]) ∧ w.grownBy w' none ∧ (isArr s n = true → m = (numA s n).length ∧ Ints w' A (numA s n) ∧ Sl A m c)
theorem nb_impl (s : ByteArray) (n : Int) (w : World) : Calls Tryd.prog 40 #[.string s, .int .i64 n] w (NbP s n w) := by
  refine (numbersof_impl s n w).mono ?_
  rintro e w' (⟨hb, rfl, hg⟩ | ⟨hb, t, A, c, ht, rfl, hg, ho⟩)
  · exact ⟨none, 0, 0, by rw [hb], hg, fun h => by rw [hb] at h; cases h⟩
  · have e : numA s n = nums n.toNat t := by unfold numA; rw [ht]
    rw [← e] at ho ⊢
    exact ⟨A, _, c, by rw [hb], hg, fun _ => ⟨rfl, Ints.of_own (e := 3) ho, sl_own ho⟩⟩
theorem nb_spec (s : ByteArray) (n : Int) (w : World) : Calls Tryd.prog 39 #[.string s, .int .i64 n] w (NbP s n w) := by
  refine (snumbersof_any s n w).mono ?_
  rintro e w' (⟨hb, A, c, rfl, hg⟩ | ⟨hb, t, v, ht, rfl, g, c, rfl, hg, ho⟩)
  · exact ⟨A, 0, c, by rw [hb], hg, fun h => by rw [hb] at h; cases h⟩
  · have e : numA s n = nums n.toNat t := by unfold numA; rw [ht]
    rw [← e] at ho ⊢
    exact ⟨some ⟨g, 0, none⟩, _, c, by rw [hb], hg, fun _ => ⟨rfl, Ints.of_own (e := 3) ho, sl_own ho⟩⟩

set_option maxHeartbeats 1000000 in
theorem resh_impl (s : ByteArray) (n : Int) (A : Option Addr) (c : Nat) (sh : List Int) (w : World) (hA : Ints w A sh) (hsA : Sl A sh.length c) (hlA : sh.length ≤ 1048576) (htab : Lib.TabIs Tryd.prog w "internal/strconv.uint64pow10" .u64 Lib.pow10Tab) :
    Calls Tryd.prog 13 #[.string s, .int .i64 n, .slice A sh.length c] w (FUPost (reshX s n sh) w) := by
  have HN := Lib.hid (nb_impl s n w)
  have HF := Lib.hid (fun (hb : isArr s n = true) B d u (hg : w.grownBy u none) (hB : Ints u B (numA s n)) (hsB : Sl B (numA s n).length d) => fill_impl A c sh B d (numA s n) u (hA.grown hg (by simp)) hB hsA hsB hlA (Nat.le_trans (numA_len hb) (by omega)) ((Lib.tabBelow_of_tabIs htab) u (below_of hg)))
  unfold NbP at HN
  obtain ⟨b, hb⟩ : ∃ b, isArr s n = b := ⟨_, rfl⟩
  have HX := Lib.hid (show reshX s n sh = if b = true then fillX sh (numA s n) else none by unfold reshX; rw [hb])
  generalize reshX s n sh = X at HX ⊢
  rw [hb] at HN HF
  generalize numA s n = ns at HN HF HX
  generalize fillX sh ns = Y at HF HX
  generalize sh.length = k at HF ⊢
  clear hA hsA hlA htab hb
  cases b
  · go_enter Tryd.func13, Tryd.ntmps13
    go_wp2_with fail
    refine HN.out.mono ?_
    rintro e w1 ⟨B, m, d, rfl, hg, _⟩
    have HG := Lib.hid hg
    clear hg
    go_wp2_with fail
    go_ret2
    rw [HX.out]
    exact ⟨⟨⟨#[]⟩, rfl, rfl⟩, HG.out⟩
  · go_enter Tryd.func13, Tryd.ntmps13
    go_wp2_with fail
    refine HN.out.mono ?_
    rintro e w1 ⟨B, m, d, rfl, hg, hy⟩
    obtain ⟨rfl, hi, hs⟩ := hy (by simp)
    have HG := Lib.hid hg
    have HC := Lib.hid (HF.out trivial B d w1 hg hi hs)
    generalize ns.length = m at HC ⊢
    clear hg hy hi hs
    go_wp2_with fail
    refine HC.out.mono ?_
    rintro e w2 ⟨⟨u, rfl, hu⟩, hg2⟩
    have HG2 := Lib.hid (HG.out.trans hg2)
    have HU := Lib.hid hu
    obtain ⟨q, hq⟩ : ∃ q, Y.isSome = q := ⟨_, rfl⟩
    have HQ := Lib.hid hq
    rw [hq]
    clear hg2 hu hq
    go_wp2_with fail
    go_ret2
    rw [HX.out, if_pos trivial]
    exact ⟨⟨u, by rw [HQ.out]; rfl, HU.out⟩, HG2.out⟩

set_option maxHeartbeats 1000000 in
theorem resh_spec (s : ByteArray) (n : Int) (A : Option Addr) (c : Nat) (sh : List Int) (w : World) (hA : Ints w A sh) (hsA : Sl A sh.length c) (hlA : sh.length ≤ 1048576) :
    Calls Tryd.prog 12 #[.string s, .int .i64 n, .slice A sh.length c] w (FUPost (reshX s n sh) w) := by
  have HN := Lib.hid (nb_spec s n w)
  have HF := Lib.hid (fun (hb : isArr s n = true) B d u (hg : w.grownBy u none) (hB : Ints u B (numA s n)) (hsB : Sl B (numA s n).length d) => fill_spec A c sh B d (numA s n) u (hA.grown hg (by simp)) hB hsA hsB hlA (Nat.le_trans (numA_len hb) (by omega)))
  unfold NbP at HN
  obtain ⟨b, hb⟩ : ∃ b, isArr s n = b := ⟨_, rfl⟩
  have HX := Lib.hid (show reshX s n sh = if b = true then fillX sh (numA s n) else none by unfold reshX; rw [hb])
  generalize reshX s n sh = X at HX ⊢
  rw [hb] at HN HF
  generalize numA s n = ns at HN HF HX
  generalize fillX sh ns = Y at HF HX
  generalize sh.length = k at HF ⊢
  clear hA hsA hlA hb
  cases b
  · go_enter Tryd.func12, Tryd.ntmps12
    go_wp2_with fail
    refine HN.out.mono ?_
    rintro e w1 ⟨B, m, d, rfl, hg, _⟩
    have HG := Lib.hid hg
    clear hg
    go_wp2_with fail
    go_ret2
    rw [HX.out]
    exact ⟨⟨⟨#[]⟩, rfl, rfl⟩, HG.out⟩
  · go_enter Tryd.func12, Tryd.ntmps12
    go_wp2_with fail
    refine HN.out.mono ?_
    rintro e w1 ⟨B, m, d, rfl, hg, hy⟩
    obtain ⟨rfl, hi, hs⟩ := hy (by simp)
    have HG := Lib.hid hg
    have HC := Lib.hid (HF.out trivial B d w1 hg hi hs)
    generalize ns.length = m at HC ⊢
    clear hg hy hi hs
    go_wp2_with fail
    refine HC.out.mono ?_
    rintro e w2 ⟨⟨u, rfl, hu⟩, hg2⟩
    have HG2 := Lib.hid (HG.out.trans hg2)
    have HU := Lib.hid hu
    obtain ⟨q, hq⟩ : ∃ q, Y.isSome = q := ⟨_, rfl⟩
    have HQ := Lib.hid hq
    rw [hq]
    clear hg2 hu hq
    go_wp2_with fail
    go_ret2
    rw [HX.out, if_pos trivial]
    exact ⟨⟨u, by rw [HQ.out]; rfl, HU.out⟩, HG2.out⟩
end

end Go.Proofs.YtachjodnhgmoiaaDoor
