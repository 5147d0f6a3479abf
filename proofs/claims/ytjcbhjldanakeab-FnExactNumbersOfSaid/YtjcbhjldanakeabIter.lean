/- What numbersIn of the program does: all numbers of the array, in order, one by one, to whatever loop. -/
import Derived.Test.YtjcbhjldanakeabSeq
import Derived.Test.YtjcbhjldanakeabSNums
namespace Go.Proofs.Ytjcbhjldanakeab
open Go.RowKit Go.Shelf
attribute [local go_sem] Oper.semAt_some

theorem own_keepX {X : TypeId → Prop} {w w' : World} {base : Nat} {e : TypeId} {size n : Nat} {v : Value} {xs : List Value} (h : w.ownsRow base e size v n xs) (hk : KeepsX X w w') (he : ¬ X e) : w'.ownsRow base e size v n xs := by
  refine ⟨h.1, ?_⟩
  rcases h.2 with hn | ⟨g, cap, cur, rfl, hb, hgg, rest⟩
  · exact .inl hn
  · exact .inr ⟨g, cap, cur, rfl, hb, hk.same g _ hgg (fun _ _ _ e' => by cases e'; exact he), rest⟩

/-- Such cells are no array's. -/
structure Spares (X : TypeId → Prop) : Prop where
  str : ∀ d, ¬ X (strT d)
  el : ∀ d, ¬ X (elT d)
  yield : ¬ X 132

theorem Nd.keepX {X : TypeId → Prop} {w w' : World} {S : Nat → Prop} (hX : Spares X) (hk : KeepsX X w w') : ∀ (d : Nat) (t : T d) (v : Value), Nd w S d t v → Nd w' S d t v
  | 0, _, _, h => h
  | d + 1, ts, v, ⟨b, sv, xs, hv, hb, hh, ho, hS, ha⟩ =>
    ⟨b, sv, xs, hv, hb, hk.same b _ hh (fun _ _ _ e => by cases e; exact hX.str d), own_keepX ho hk (hX.el d), hS, All2.mono (Nd.keepX hX hk d) ts xs ha⟩

theorem ycell {X : TypeId → Prop} {w w' : World} (hX : Spares X) (hk : KeepsX X w w') {b : Nat} {v : Value} (h : w.heap[b]? = some (.cells #[v] 132 (0, 0))) : w'.cell? ⟨b, 0, none⟩ = some v := by
  have := hk.cell h hX.yield
  simp [World.cell?, this]

theorem ta00 (v : Value) (xT : TypeId) (w : World) : (Instr.typeAssert (.iface 133 v) xT 133 true).run Try.prog w = .ok (.tuple #[v, .bool true]) w := by
  simp [Instr.typeAssert, run_underlying Try.underlying133, go_sem, Result.andThen]
theorem ta10 (v : Value) (xT : TypeId) (w : World) : (Instr.typeAssert (.iface 134 v) xT 133 true).run Try.prog w = .ok (.tuple #[.int .i64 0, .bool false]) w := by
  simp [Instr.typeAssert, run_underlying Try.underlying133, go_sem, Result.andThen]
theorem ta11 (v : Value) (xT : TypeId) (w : World) : (Instr.typeAssert (.iface 134 v) xT 134 true).run Try.prog w = .ok (.tuple #[v, .bool true]) w := by
  simp [Instr.typeAssert, run_underlying Try.underlying134, go_sem, Result.andThen]
theorem ta20 (v : Value) (xT : TypeId) (w : World) : (Instr.typeAssert (.iface 138 v) xT 133 true).run Try.prog w = .ok (.tuple #[.int .i64 0, .bool false]) w := by
  simp [Instr.typeAssert, run_underlying Try.underlying133, go_sem, Result.andThen]
theorem ta21 (v : Value) (xT : TypeId) (w : World) : (Instr.typeAssert (.iface 138 v) xT 134 true).run Try.prog w = .ok (.tuple #[.pointer none, .bool false]) w := by
  simp [Instr.typeAssert, run_underlying Try.underlying134, go_sem, Result.andThen]
theorem ta22 (v : Value) (xT : TypeId) (w : World) : (Instr.typeAssert (.iface 138 v) xT 138 true).run Try.prog w = .ok (.tuple #[v, .bool true]) w := by
  simp [Instr.typeAssert, run_underlying Try.underlying138, go_sem, Result.andThen]

set_option maxRecDepth 100000 in
set_option maxHeartbeats 2000000 in
theorem iter0 (X : TypeId → Prop) (hX : Spares X) (b : Nat) (z : Nat) (w : World) (hb : w.heap[b]? = some (.cells #[.iface 133 (.int .i64 (z : Int))] 67 (0, 0))) :
    SeqOwn X Try.prog 99 #[.pointer (some ⟨b, 0, none⟩)] [(z : Int)] w := by
  intro n l J Jx W hW hJ hJx hY h0
  have hb1 := hW.cell hb (hX.el 1)
  have hc : W.cell? ⟨b, 0, none⟩ = some (.iface 133 (.int .i64 (z : Int))) := by simp [World.cell?, hb1]
  have hlt : b < W.heap.size := (Array.getElem?_eq_some_iff.1 hb1).1
  clear hb hb1
  obtain ⟨zi, hzi⟩ : ∃ zi : Int, (z : Int) = zi := ⟨_, rfl⟩
  rw [hzi] at hc ⊢
  obtain ⟨fn, tmps, assign, body, hy, hR⟩ := hY (n - 1) [] zi (W.alloc (.cells #[.func (.yield l) #[] #[]] 132)) (hJ.alloc _ h0) (by rw [hzi]; simp)
  clear hzi hY
  show CallsIn Fence.wide n Try.prog 99 #[.func (.yield l) #[] #[], .pointer (some ⟨b, 0, none⟩)] W _
  refine callsIn_of_wp Try.func99 rfl trivial ?_ rfl
  simp only [Try.ntmps99, List.size_toArray, List.length_cons, List.length_nil, Nat.reduceAdd, Nat.reduceSub, Array.replicate_succ, Array.replicate_zero, List.push_toArray, List.append_toArray, List.nil_append, List.cons_append]
  have hta := ta00
  gi_wp2_with (refine ⟨fun h => (by cases h), ?_⟩; refine hR.mono ?_; clear hR; rintro e W' (⟨rfl, hJ', hk⟩ | ⟨rfl, hJx', hk⟩))
  · go_end0
    exact ⟨⟨_, rfl⟩, .inl hJ'⟩
  · go_end0
    exact ⟨⟨_, rfl⟩, .inr ⟨[zi], List.prefix_rfl, hJx'⟩⟩

/-- A row of one cell an element, read. -/
theorem prow {w : World} {base e : Nat} {A : Option Addr} {k c : Nat} {xs : List Value} (h : w.ownsRow base e 1 (.slice A k c) xs.length xs) :
    k = xs.length ∧ (0 < k → ∃ g, A = some ⟨g, 0, none⟩ ∧ g < w.heap.size ∧ ∀ (j : Nat) (x : Value), xs[j]? = some x → w.cell? ⟨g, j, none⟩ = some x) := by
  rcases h.2 with ⟨hv, hn⟩ | ⟨g, cap, cur, hv, _, hg, hnc, _, hcs, htake⟩
  · cases hv
    exact ⟨by omega, fun h => by omega⟩
  · cases hv
    refine ⟨rfl, fun _ => ⟨g, rfl, (Array.getElem?_eq_some_iff.1 hg).1, fun j x hj => ?_⟩⟩
    have hjl : j < xs.length := by
      rcases Nat.lt_or_ge j xs.length with h | h
      · exact h
      · rw [List.getElem?_eq_none h] at hj; cases hj
    rw [cell_of_row w g j _ _ (0, 0) hg]
    have : (cur.toList.take (xs.length * 1))[j]? = some x := by rw [htake, hj]
    rw [List.getElem?_take, if_pos (by omega)] at this
    simpa using this

theorem nums_one (t : List Nat) : nums 1 t = t.map (fun m : Nat => (m : Int)) := by
  show (show List (T 0) from t).flatMap (nums 0) = _
  induction t with
  | nil => rfl
  | cons m t ih =>
    show nums 0 m ++ List.flatMap (nums 0) (show List (T 0) from t) = _
    rw [ih]
    rfl
theorem take_step {α : Type} {l : List α} {j : Nat} {x : α} (h : l[j]? = some x) : l.take (j + 1) = l.take j ++ [x] := by
  rw [List.take_add_one, h]; rfl

set_option maxRecDepth 100000 in
set_option maxHeartbeats 4000000 in
theorem iter1 (X : TypeId → Prop) (hX : Spares X) (S : Nat → Prop) (b : Nat) (t : T 1) (v : Value) (w : World) (hr : Nd w S 1 t v) (hlen : (show List Nat from t).length ≤ 1000000)
    (hb : w.heap[b]? = some (.cells #[v] 67 (0, 0))) :
    SeqOwn X Try.prog 99 #[.pointer (some ⟨b, 0, none⟩)] (nums 1 t) w := by
  intro n l J Jx W hW hJ hJx hY h0
  have hb1 := hW.cell hb (hX.el 1)
  obtain ⟨q, sv, xs, rfl, hq, hh, ho, hS, ha⟩ := Nd.keepX hX hW 1 t v hr
  obtain ⟨A, k, c, rfl⟩ := own_form ho
  have hc : W.cell? ⟨b, 0, none⟩ = some (.iface (ptrT 0) (.pointer (some ⟨q, 0, none⟩))) := by simp [World.cell?, hb1]
  have hlt : b < W.heap.size := (Array.getElem?_eq_some_iff.1 hb1).1
  have hqc : W.cell? ⟨q, 0, none⟩ = some (.slice A k c) := by simp [World.cell?, hh]
  have hqlt : q < W.heap.size := (Array.getElem?_eq_some_iff.1 hh).1
  clear hb hb1 hr hh
  simp only [ptrT] at hc
  have hta := ta10
  have htb := ta11
  show CallsIn Fence.wide n Try.prog 99 #[.func (.yield l) #[] #[], .pointer (some ⟨b, 0, none⟩)] W _
  refine callsIn_of_wp Try.func99 rfl trivial ?_ rfl
  simp only [Try.ntmps99, List.size_toArray, List.length_cons, List.length_nil, Nat.reduceAdd, Nat.reduceSub, Array.replicate_succ, Array.replicate_zero, List.push_toArray, List.append_toArray, List.nil_append, List.cons_append]
  obtain ⟨W1, hW1⟩ : ∃ W1, W.alloc (.cells #[.func (.yield l) #[] #[]] 132) = W1 := ⟨_, rfl⟩
  have HY1 : Hid (W1.heap[W.heap.size]? = some (.cells #[.func (.yield l) #[] #[]] 132 (0, 0))) := Lib.hid (by rw [← hW1]; exact World.alloc_heap_new W _)
  have HJ1 : Hid (J [] W1) := Lib.hid (by rw [← hW1]; exact hJ.alloc _ h0)
  have HO1 : Hid (W1.ownsRow 0 (elT 0) 1 (.slice A k c) xs.length xs) := Lib.hid (by rw [← hW1]; exact own_keepX ho (KeepsX.alloc W _ (X := fun _ => False)) id)
  have HA := Lib.hid ha
  have HP := Lib.hid (prow ho)
  have HY := Lib.hid hY
  have HLT := Lib.hid (All2.length _ _ ha)
  have hk6 : k ≤ 1000000 := by rw [(prow ho).1, ← All2.length _ _ ha]; exact hlen
  obtain ⟨ns, hns⟩ : ∃ ns, nums 1 t = ns := ⟨_, rfl⟩
  have HN : Hid (∀ (j m : Nat), (show List Nat from t)[j]? = some m → ns[j]? = some (m : Int)) := Lib.hid (fun j m h => by
    rw [← hns, show nums 1 t = (show List Nat from t).map (fun m : Nat => (m : Int)) from nums_one t, List.getElem?_map, h]; rfl)
  have HNL : Hid (ns.length = k) := Lib.hid (by
    rw [← hns, show nums 1 t = (show List Nat from t).map (fun m : Nat => (m : Int)) from nums_one t, List.length_map, (prow ho).1]; exact All2.length _ _ ha)
  rw [hns] at HY ⊢
  have HW1 := Lib.hid hW1
  clear hY ha ho hS hns hlen h0 hW1
  gi_wp2
  rw [HW1.out]
  gi_loopw [26] (fun i wr => ∃ j : Nat, j ≤ k ∧ i = .int .i64 j ∧ Hid (J (ns.take j) wr) ∧ Hid (KeepsX X W1 wr)) (fun i _ => k - (intOf i).toNat)
  case atStart => exact ⟨0, Nat.zero_le _, rfl, HJ1, Lib.hid (KeepsX.refl _ _)⟩
  case round =>
    obtain ⟨j, hj, rfl, hjj, hkx⟩ := hrel
    by_cases hlt2 : j < k
    · obtain ⟨hkl, hrow⟩ := prow (own_keepX HO1.out hkx.out (hX.el 0))
      obtain ⟨g, rfl, hgl, hcells⟩ := hrow (by omega)
      obtain ⟨m, x, hm, hx, hnd⟩ := All2.at_ (j := j) HA.out (by omega)
      obtain rfl : x = .int .i64 ((show Nat from m : Nat) : Int) := hnd
      have hcell := hcells j _ hx
      have hyc := ycell hX hkx.out HY1.out
      have hz := HN.out j m hm
      obtain ⟨z, hzz⟩ : ∃ z : Int, ((show Nat from m : Nat) : Int) = z := ⟨_, rfl⟩
      rw [hzz] at hcell hz
      obtain ⟨fn, tmps, assign, body, hy, hR⟩ := HY.out (n - 1) (ns.take j) z wr hjj.out (by have := HNL.out; rw [List.length_take]; omega)
      rw [← take_step hz] at hR
      clear hkl hrow hcells hx hzz hm hz
      gi_wp2_with (refine ⟨fun h => (by cases h), ?_⟩; refine hR.mono ?_; clear hR; rintro e W' (⟨rfl, hJ', hk⟩ | ⟨rfl, hJx', hk⟩))
      · have HJ' := Lib.hid hJ'
        have HK' := Lib.hid (hkx.out.trans hk)
        clear hJ' hk
        go_roundw
        case rel => exact ⟨j + 1, by omega, by go_num, HJ', HK'⟩
        case measure => simp [intOf]; omega
      · refine bodyPost_ret (results_none rfl _ _ _) rfl ?_
        exact ⟨⟨_, rfl⟩, .inr ⟨ns.take (j + 1), List.take_prefix _ _, hJx'⟩⟩
    · have hjn : j = k := by omega
      have HJ := Lib.hid hjn
      clear hjn
      gi_wp2
      go_end0
      refine ⟨⟨_, rfl⟩, .inl ?_⟩
      have := hjj.out
      rw [List.take_of_length_le (by have h1 := HJ.out; have h2 := HNL.out; omega)] at this
      exact this

end Go.Proofs.Ytjcbhjldanakeab
