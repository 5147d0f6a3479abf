/- What the reader of code does where a loop begins. -/
import Derived.Test.YtdfanconjiiceaaDoorMach2
namespace Go.Proofs.YtdfanconjiiceaaDoor
section
open Go.RowKit

/-- How a step of the reader ends. -/
def TakeP (n0 b : Nat) (r : Option MS) (w : World) (e : Ending) (w' : World) : Prop := Chg (WX n0 w) w w' ∧ match r with
  | some m' => e = .returned (.bool true) ∧ ∃ v0 v1 vs ps, RS w' n0 b m' v0 v1 vs ps
  | none => e = .returned (.bool false)
theorem takeP_no {n0 b : Nat} {r : Option MS} {w w' : World} {e : Ending} (hr : r = none) (he : e = .returned (.bool false)) (hc : Chg (WX n0 w) w w') : TakeP n0 b r w e w' := by
  subst hr; exact ⟨hc, he⟩
theorem takeP_yes {n0 b : Nat} {r : Option MS} {m' : MS} {w w' : World} {e : Ending} {v0 v1 : Value} {vs : List Value} {ps : List Pnd} (hr : r = some m') (he : e = .returned (.bool true)) (hc : Chg (WX n0 w) w w') (h : RS w' n0 b m' v0 v1 vs ps) : TakeP n0 b r w e w' := by
  subst hr; exact ⟨hc, he, v0, v1, vs, ps, h⟩

theorem rs_wx {w : World} {n0 b : Nat} {m : MS} {v0 v1 : Value} {vs : List Value} {ps : List Pnd} (h : RS w n0 b m v0 v1 vs ps) : ∀ k, (k = b ∨ v0.ownBlock = some k) → WX n0 w k := by
  rintro k (rfl | e)
  · exact ⟨h.base, _, _, _, h.box, .inr (.inr (.inl rfl))⟩
  · obtain ⟨cs, hcs⟩ := own_heap h.cur.1 e
    exact ⟨(h.cur.1.lt k e).1, _, _, _, hcs, .inl rfl⟩
theorem rs_set {w : World} {n0 b : Nat} {m : MS} {v0 v1 : Value} {vs : List Value} {ps : List Pnd} (h : RS w n0 b m v0 v1 vs ps) (i : Nat) (u : Value) : Chg (WX n0 w) w (w.setCell ⟨b, i, none⟩ u) :=
  Chg.row (gr_set w b i u) (fun k hk => by cases hk; exact rs_wx h _ (.inl rfl))
theorem pnd_lt {w : World} {n0 b : Nat} {m : MS} {v0 v1 : Value} {vs : List Value} {ps : List Pnd} (h : RS w n0 b m v0 v1 vs ps) : ∀ k, w.heap.size ≤ k → k ∉ ps.map Pnd.blk := by
  intro k hk hm
  obtain ⟨p, hp, rfl⟩ := List.mem_map.1 hm
  obtain ⟨o, ho⟩ := h.outs.mem p hp
  have := blk_lt ho.heap
  omega
/-- The reader without terms in the innermost loop. -/
theorem rs_none {w : World} {n0 b : Nat} {os : List Out} {v0 v1 : Value} {vs : List Value} {ps : List Pnd} (h : RS w n0 b ([], os) v0 v1 vs ps) : ∃ A c, v0 = .slice A 0 c := by
  obtain ⟨A, k, c, rfl⟩ := own_form h.cur.1
  have h1 := own_len h.cur.1
  have h2 := All2.length _ _ h.cur.2
  simp at h2
  exact ⟨A, c, by rw [h1, ← h2]⟩
/-- .. with a term at least. -/
theorem rs_some {w : World} {n0 b : Nat} {x : Tm} {ts : List Tm} {os : List Out} {v0 v1 : Value} {vs : List Value} {ps : List Pnd} (h : RS w n0 b (x :: ts, os) v0 v1 vs ps) : ∃ A n c, v0 = .slice A (n + 1) c ∧ n = ts.length := by
  obtain ⟨A, k, c, rfl⟩ := own_form h.cur.1
  have h1 := own_len h.cur.1
  have h2 := All2.length _ _ h.cur.2
  simp at h2
  exact ⟨A, ts.length, c, by rw [h1, ← h2], rfl⟩

set_option maxRecDepth 100000 in
set_option maxHeartbeats 1000000 in
theorem change_none (n0 b : Nat) (c : Int) (os : List Out) (v0 v1 : Value) (vs : List Value) (ps : List Pnd) (w : World) (h : RS w n0 b ([], os) v0 v1 vs ps) :
    Calls Tryd.prog 45 #[.pointer (some ⟨b, 0, none⟩), .int .u8 c] w (TakeP n0 b none w) := by
  obtain ⟨A, cp, rfl⟩ := rs_none h
  have HP := Lib.hid (pop_t_none b A cp v1 w h.box)
  clear h
  go_enter Tryd.func45, Tryd.ntmps45
  go_wp2_with fail
  refine HP.out.mono ?_
  rintro e w' ⟨rfl, rfl⟩
  go_wp2_with fail
  go_ret
  exact takeP_no rfl rfl (Chg.refl _ _)

set_option maxRecDepth 100000 in
set_option maxHeartbeats 1000000 in
theorem change_some (n0 b : Nat) (c : Int) (x : Tm) (ts : List Tm) (os : List Out) (v0 v1 : Value) (vs : List Value) (ps : List Pnd) (w : World) (h : RS w n0 b (x :: ts, os) v0 v1 vs ps) (hl : ts.length ≤ 1000) (hn : n0 ≤ w.heap.size) :
    Calls Tryd.prog 45 #[.pointer (some ⟨b, 0, none⟩), .int .u8 c] w (TakeP n0 b (some (.pre c x :: ts, os)) w) := by
  obtain ⟨A, n, cp, rfl, hnt⟩ := rs_some h
  rw [← hnt] at hl
  obtain ⟨vs', xv, rfl, hvl, hx, h1⟩ := rs_pop h
  obtain ⟨ty, pv, rfl⟩ := hx.iface
  have ho := h.cur.1
  rw [List.length_append, hvl] at ho
  have HP := Lib.hid (pop_t_some n0 b A n cp v1 ty pv vs' w h.box ho (by omega))
  have HC1 := Lib.hid (rs_set h 0 (.slice A n cp))
  have hx1 : PT (w.setCell ⟨b, 0, none⟩ (.slice A n cp)) (fun k => k ∉ ps.map Pnd.blk) x (.iface ty pv) :=
    PT.keepT (fun b' xs T fr hb hT hh => ((Chg.row (wr := fun k => k = b) (gr_set w b 0 (.slice A n cp)) (fun k hk => by cases hk; rfl)).same b' (blk_lt hh) (rs_not (v0 := .slice A (n + 1) cp) (v1 := v1) h.box b' xs T fr hb hT hh)).trans hh) (fun _ hb _ => hb) x _ hx
  obtain ⟨w1, hw1⟩ : ∃ z, w.setCell ⟨b, 0, none⟩ (.slice A n cp) = z := ⟨_, rfl⟩
  rw [hw1] at h1 HP HC1 hx1
  obtain ⟨w2, hw2⟩ : ∃ z, w1.alloc (.cells #[.int .u8 c, .iface ty pv] 98) = z := ⟨_, rfl⟩
  have g2 : w1.grownBy w2 none := by rw [← hw2]; exact World.grownBy_alloc _ _ _
  have h2 := h1.grown g2
  have hx2 : PT w2 (fun k => k ∉ ps.map Pnd.blk) (.pre c x) (.iface 96 (.pointer (some ⟨w1.heap.size, 0, none⟩))) :=
    ⟨w1.heap.size, _, rfl, pnd_lt h1 _ (Nat.le_refl _), by rw [← hw2]; exact heap_alloc_new _ _, hx1.grown g2⟩
  have hsz : w.heap.size = w1.heap.size := by rw [← hw1]; simp
  have HQ := Lib.hid (push_t n0 b (.slice A n cp) v1 96 (.pointer (some ⟨w1.heap.size, 0, none⟩)) vs' w2 h2.box h2.cur.1 (by omega) (by have := g2.size; omega))
  have H2 := Lib.hid h2
  have HX := Lib.hid hx2
  have HC2 := Lib.hid (chgX_trans HC1.out (chgX_grown g2))
  clear h h1 h2 hx hx1 hx2 ho g2 hw1 hnt
  go_enter Tryd.func45, Tryd.ntmps45
  go_wp2_with fail
  refine HP.out.mono ?_
  rintro e w' ⟨rfl, rfl⟩
  go_wp2_with fail
  refine HQ.out.mono ?_
  rintro e w3 ⟨rfl, u, hc3, ho3, hch3, hu3⟩
  have HR := Lib.hid (rs_push H2.out HX.out hc3 ho3 hch3 hu3)
  have HC3 := Lib.hid (chgX_trans HC2.out (chgX_of hch3 (fun k _ hk => rs_wx H2.out k hk)))
  clear hc3 ho3 hch3 hu3
  go_wp2_with fail
  go_ret
  exact takeP_yes rfl rfl HC3.out HR.out
end

section
open Go.RowKit

/-- What is taken from the reader, as a call. -/
theorem rs_popC {w : World} {n0 b : Nat} {x : Tm} {ts : List Tm} {os : List Out} {v0 v1 : Value} {vs : List Value} {ps : List Pnd} (h : RS w n0 b (x :: ts, os) v0 v1 vs ps) (hl : ts.length ≤ 1000) :
    ∃ w1 ty pv u vs', w1.heap.size = w.heap.size ∧ RS w1 n0 b (ts, os) u v1 vs' ps ∧ PT w1 (fun k => k ∉ ps.map Pnd.blk) x (.iface ty pv) ∧ Chg (WX n0 w) w w1 ∧ (∀ S t v, PT w S t v → PT w1 S t v) ∧
      Calls Tryd.prog 58 #[.pointer (some ⟨b, 0, none⟩)] w fun e w' => e = .returned (.tuple #[.iface ty pv, .bool true]) ∧ w' = w1 := by
  obtain ⟨A, n, cp, rfl, hnt⟩ := rs_some h
  rw [← hnt] at hl
  obtain ⟨vs', xv, rfl, hvl, hx, h1⟩ := rs_pop h
  obtain ⟨ty, pv, rfl⟩ := hx.iface
  have ho := h.cur.1
  rw [List.length_append, hvl] at ho
  have hk : ∀ (S : Nat → Prop) t v, PT w S t v → PT (w.setCell ⟨b, 0, none⟩ (.slice A n cp)) S t v := fun S t v ht =>
    PT.keepT (fun b' xs T fr _ hT hh => ((Chg.row (wr := fun k => k = b) (gr_set w b 0 (.slice A n cp)) (fun k hk => by cases hk; rfl)).same b' (blk_lt hh) (rs_not (v0 := .slice A (n + 1) cp) (v1 := v1) (L := []) h.box b' xs T fr (by simp) hT hh)).trans hh) (fun _ hb _ => hb) t v ht
  exact ⟨w.setCell ⟨b, 0, none⟩ (.slice A n cp), ty, pv, _, vs', by simp, h1, hk _ _ _ hx, rs_set h 0 _, hk, pop_t_some n0 b A n cp v1 ty pv vs' w h.box ho (by omega)⟩
/-- .. with no term there. -/
theorem rs_popN {w : World} {n0 b : Nat} {os : List Out} {v0 v1 : Value} {vs : List Value} {ps : List Pnd} (h : RS w n0 b ([], os) v0 v1 vs ps) :
    Calls Tryd.prog 58 #[.pointer (some ⟨b, 0, none⟩)] w fun e w' => e = .returned (.tuple #[.nilIface, .bool false]) ∧ w' = w := by
  obtain ⟨A, cp, rfl⟩ := rs_none h
  exact pop_t_none b A cp v1 w h.box
/-- A term that is put, as a call. -/
theorem rs_pushC {w : World} {n0 b : Nat} {t : Tm} {ts : List Tm} {os : List Out} {v0 v1 : Value} {vs : List Value} {ps : List Pnd} {ty : TypeId} {pv : Value} (h : RS w n0 b (ts, os) v0 v1 vs ps) (hx : PT w (fun k => k ∉ ps.map Pnd.blk) t (.iface ty pv)) (hl : ts.length ≤ 1000) (hn : n0 ≤ w.heap.size) :
    Calls Tryd.prog 44 #[.pointer (some ⟨b, 0, none⟩), .iface ty pv] w fun e w' => e = .returned (.tuple #[]) ∧ Chg (WX n0 w) w w' ∧ ∃ u vs', RS w' n0 b (t :: ts, os) u v1 vs' ps := by
  have hvl := All2.length _ _ h.cur.2
  simp at hvl
  refine (push_t n0 b v0 v1 ty pv vs w h.box h.cur.1 (by omega) hn).mono ?_
  rintro e w3 ⟨rfl, u, hc3, ho3, hch3, hu3⟩
  exact ⟨rfl, chgX_of hch3 (fun k _ hk => rs_wx h k hk), u, _, rs_push h hx hc3 ho3 hch3 hu3⟩

set_option maxRecDepth 100000 in
set_option maxHeartbeats 1000000 in
theorem join_none (n0 b : Nat) (c : Int) (os : List Out) (v0 v1 : Value) (vs : List Value) (ps : List Pnd) (w : World) (h : RS w n0 b ([], os) v0 v1 vs ps) :
    Calls Tryd.prog 46 #[.pointer (some ⟨b, 0, none⟩), .int .u8 c] w (TakeP n0 b none w) := by
  have HP := Lib.hid (rs_popN h)
  clear h
  go_enter Tryd.func46, Tryd.ntmps46
  go_wp2_with fail
  refine HP.out.mono ?_
  rintro e w' ⟨rfl, rfl⟩
  go_wp2_with fail
  refine HP.out.mono ?_
  rintro e w ⟨rfl, rfl⟩
  go_wp2_with fail
  go_ret
  exact takeP_no rfl rfl (Chg.refl _ _)

set_option maxRecDepth 100000 in
set_option maxHeartbeats 1000000 in
theorem join_one (n0 b : Nat) (c : Int) (y : Tm) (os : List Out) (v0 v1 : Value) (vs : List Value) (ps : List Pnd) (w : World) (h : RS w n0 b ([y], os) v0 v1 vs ps) :
    Calls Tryd.prog 46 #[.pointer (some ⟨b, 0, none⟩), .int .u8 c] w (TakeP n0 b none w) := by
  obtain ⟨w1, ty, pv, u, vs', -, h1, -, hc1, -, hcall⟩ := rs_popC h (by simp)
  have HP := Lib.hid hcall
  have HQ := Lib.hid (rs_popN h1)
  have HC := Lib.hid hc1
  clear h h1 hc1 hcall
  go_enter Tryd.func46, Tryd.ntmps46
  go_wp2_with fail
  refine HP.out.mono ?_
  rintro e w' ⟨rfl, rfl⟩
  go_wp2_with fail
  refine HQ.out.mono ?_
  rintro e w2 ⟨rfl, rfl⟩
  go_wp2_with fail
  go_ret
  exact takeP_no rfl rfl HC.out

set_option maxRecDepth 100000 in
set_option maxHeartbeats 1000000 in
theorem join_some (n0 b : Nat) (c : Int) (y x : Tm) (ts : List Tm) (os : List Out) (v0 v1 : Value) (vs : List Value) (ps : List Pnd) (w : World) (h : RS w n0 b (y :: x :: ts, os) v0 v1 vs ps) (hl : ts.length ≤ 990) (hn : n0 ≤ w.heap.size) :
    Calls Tryd.prog 46 #[.pointer (some ⟨b, 0, none⟩), .int .u8 c] w (TakeP n0 b (some (.two c x y :: ts, os)) w) := by
  obtain ⟨w1, ty, pv, u, vs', hz1, h1, hy1, hc1, -, hcall⟩ := rs_popC h (by simp; omega)
  obtain ⟨w2, tx, px, u2, vs2, hz2, h2, hx2, hc2, hk2, hcall2⟩ := rs_popC h1 (by omega)
  have HP := Lib.hid hcall
  have HQ := Lib.hid hcall2
  obtain ⟨w3, hw3⟩ : ∃ z, w2.alloc (.cells #[.int .u8 c, .iface tx px, .iface ty pv] 122) = z := ⟨_, rfl⟩
  have g3 : w2.grownBy w3 none := by rw [← hw3]; exact World.grownBy_alloc _ _ _
  have h3 := h2.grown g3
  have hy2 : PT w2 (fun k => k ∉ ps.map Pnd.blk) y (.iface ty pv) := hk2 _ _ _ hy1
  have hx3 : PT w3 (fun k => k ∉ ps.map Pnd.blk) (.two c x y) (.iface 99 (.pointer (some ⟨w2.heap.size, 0, none⟩))) :=
    ⟨w2.heap.size, _, _, rfl, pnd_lt h2 _ (Nat.le_refl _), by rw [← hw3]; exact heap_alloc_new _ _, hx2.grown g3, hy2.grown g3⟩
  have HR := Lib.hid (rs_pushC h3 hx3 (by omega) (by have := g3.size; omega))
  have HC := Lib.hid (chgX_trans (chgX_trans hc1 hc2) (chgX_grown g3))
  clear h h1 h2 h3 hc1 hc2 hcall hcall2 g3 hy1 hy2 hx2 hx3 hk2 hz1 hz2
  go_enter Tryd.func46, Tryd.ntmps46
  go_wp2_with fail
  refine HP.out.mono ?_
  rintro e w' ⟨rfl, rfl⟩
  go_wp2_with fail
  refine HQ.out.mono ?_
  rintro e w' ⟨rfl, rfl⟩
  go_wp2_with fail
  refine HR.out.mono ?_
  rintro e w4 ⟨rfl, hc4, u4, vs4, hr4⟩
  have HC4 := Lib.hid (chgX_trans HC.out hc4)
  have HR4 := Lib.hid hr4
  clear hc4 hr4
  go_wp2_with fail
  go_ret
  exact takeP_yes rfl rfl HC4.out HR4.out
end

section
open Go.RowKit

/-- Behind the beginning of a loop. -/
theorem rs_begin {w w2 w3 : World} {n0 b : Nat} {x : Tm} {ts : List Tm} {os : List Out} {u v1 u1 xv : Value} {vs : List Value} {ps : List Pnd} {c v : Int} (h : RS w n0 b (ts, os) u v1 vs ps) (hn : n0 ≤ w.heap.size) (hx : PT w (fun k => k ∉ ps.map Pnd.blk) x xv)
    (g2 : w.grownBy w2 none) (hq : w2.heap[w.heap.size]? = some (.cells #[.int .u8 c, .int .u8 v, xv, .nilIface] 105 (0, 0)))
    (hc : CR w3 b u u1) (ho : w3.ownsRow n0 117 2 u1 (ps.length + 1) (flatP ps ++ [.pointer (some ⟨w.heap.size, 0, none⟩), u])) (hch : Chg (fun k => k = b ∨ v1.ownBlock = some k) w2 w3) :
    RS (w3.setCell ⟨b, 0, none⟩ (.slice none 0 0)) n0 b ([], ⟨c, v, x, ts⟩ :: os) (.slice none 0 0) u1 [] (⟨w.heap.size, xv, u, vs⟩ :: ps) ∧ Chg (WX n0 w) w (w3.setCell ⟨b, 0, none⟩ (.slice none 0 0)) := by
  have hcr : CR w b u v1 := h.box
  have hlt := hcr.lt
  have hc4 : Chg (fun k => k = b ∨ v1.ownBlock = some k) w2 (w3.setCell ⟨b, 0, none⟩ (.slice none 0 0)) := hch.trans (Chg.row (gr_set w3 b 0 _) (wr := fun k => k = b ∨ v1.ownBlock = some k) (fun k hk => .inl (by simpa using hk.symm))) (fun _ _ e => e) (fun _ _ e => e)
  have hcw : Chg (fun k => k = b ∨ v1.ownBlock = some k) w (w3.setCell ⟨b, 0, none⟩ (.slice none 0 0)) := (Chg.grown g2).trans hc4 (fun _ _ e => e) (fun _ _ e => e)
  have hnt : ∀ k xs T fr, k ∉ ps.map Pnd.blk → NT T → w.heap[k]? = some (.cells xs T fr) → ¬ (k = b ∨ v1.ownBlock = some k) := fun k xs T fr hk hT hh e =>
    e.elim (rs_not hcr k xs T fr hk hT hh) (own_not h.row hh (by rcases hT with e | e | e <;> rw [e] <;> decide))
  have hL : ∀ k, k ∉ ps.map Pnd.blk → k < w.heap.size → k ∉ (w.heap.size :: ps.map Pnd.blk) := fun k hk hl hm => by
    rcases List.mem_cons.1 hm with e | e
    · omega
    · exact hk e
  have hun : ∀ g, u.ownBlock = some g → ¬ (g = b ∨ v1.ownBlock = some g) := fun g hg e => by
    rcases e with e | e
    · exact own_not h.cur.1 h.box (by decide) (e ▸ hg)
    · obtain ⟨cs, hcs⟩ := own_heap h.row e
      exact own_not h.cur.1 hcs (by decide) hg
  refine ⟨⟨h.base, hc.set0 _, ⟨⟨rfl, .inl ⟨rfl, rfl⟩⟩, trivial⟩, ?_, ⟨⟨hn, ?_, ?_, ?_⟩, ?_⟩, ?_, ?_⟩, hcw.mono (fun k _ e => ?_)⟩
  · show (w3.setCell ⟨b, 0, none⟩ (.slice none 0 0)).ownsRow n0 _ 2 u1 (ps.length + 1) (flatP ps ++ [.pointer (some ⟨w.heap.size, 0, none⟩), u])
    exact own_keep ho (fun g hg => Below.heap_setCell _ _ _ _ (fun e => own_not ho hc (by decide) (by rw [hg]; simpa using e)))
  · refine (hc4.same _ (blk_lt hq) ?_).trans hq
    rintro (e | e)
    · omega
    · have := (h.row.lt _ e).2; omega
  · exact PT.keepT (fun b' xs T fr hb hT hh => (hcw.same b' (blk_lt hh) (hnt b' xs T fr hb hT hh)).trans hh) hL _ _ hx
  · exact h.cur.chg hcw hun hnt hL
  · refine OS.chg hcw hnt hL h.outs (fun p hp => ?_)
    obtain ⟨o, hoo⟩ := h.outs.mem p hp
    refine ⟨?_, fun g hg => ?_⟩
    · rintro (e | e)
      · exact (outs_not h p hp).1 (.inl e)
      · exact own_not h.row hoo.heap (by decide) e
    · rintro (e | e)
      · exact (outs_not h p hp).2 g hg (.inl e)
      · obtain ⟨cs, hcs⟩ := own_heap h.row e
        exact own_not hoo.row.1 hcs (by decide) hg
  · exact List.nodup_cons.2 ⟨pnd_lt h _ (Nat.le_refl _), h.nodup⟩
  · refine List.pairwise_cons.2 ⟨fun v hv g hg => by simp [Value.ownBlock] at hg, h.apart⟩
  · rcases e with rfl | e
    · exact rs_wx h _ (.inl rfl)
    · obtain ⟨cs, hcs⟩ := own_heap h.row e
      exact ⟨(h.row.lt k e).1, _, _, _, hcs, .inr (.inl rfl)⟩

set_option maxRecDepth 100000 in
set_option maxHeartbeats 1000000 in
theorem begin_none (n0 b : Nat) (c v : Int) (os : List Out) (v0 v1 : Value) (vs : List Value) (ps : List Pnd) (w : World) (h : RS w n0 b ([], os) v0 v1 vs ps) :
    Calls Tryd.prog 47 #[.pointer (some ⟨b, 0, none⟩), .int .u8 c, .int .u8 v] w (TakeP n0 b none w) := by
  have HP := Lib.hid (rs_popN h)
  clear h
  go_enter Tryd.func47, Tryd.ntmps47
  go_wp2_with fail
  refine HP.out.mono ?_
  rintro e w' ⟨rfl, rfl⟩
  go_wp2_with fail
  go_ret
  exact takeP_no rfl rfl (Chg.refl _ _)

set_option maxRecDepth 100000 in
set_option maxHeartbeats 2000000 in
theorem begin_some (n0 b : Nat) (c v : Int) (x : Tm) (ts : List Tm) (os : List Out) (v0 v1 : Value) (vs : List Value) (ps : List Pnd) (w : World) (h : RS w n0 b (x :: ts, os) v0 v1 vs ps) (hl : ts.length ≤ 1000) (hl2 : os.length ≤ 1000) (hn : n0 ≤ w.heap.size) :
    Calls Tryd.prog 47 #[.pointer (some ⟨b, 0, none⟩), .int .u8 c, .int .u8 v] w (TakeP n0 b (some ([], ⟨c, v, x, ts⟩ :: os)) w) := by
  obtain ⟨w1, ty, pv, u, vs', hz1, h1, hx1, hc1, -, hcall⟩ := rs_popC h (by omega)
  have hn1 : n0 ≤ w1.heap.size := by omega
  have hpl := h.outs.len
  simp only at hpl
  obtain ⟨A, k, d, rfl⟩ := own_form h1.cur.1
  obtain ⟨A1, k1, d1, rfl⟩ := own_form h1.row
  obtain rfl := own_len h1.row
  obtain ⟨w2, hw2⟩ : ∃ z, w1.drew.alloc (.cells #[.int .u8 c, .int .u8 v, .iface ty pv, .nilIface] 105) = z := ⟨_, rfl⟩
  have g2 : w1.grownBy w2 none := by rw [← hw2]; exact (gr_drewN w1 1 none).trans (World.grownBy_alloc w1.drew _ none)
  have hq2 : w2.heap[w1.heap.size]? = some (.cells #[.int .u8 c, .int .u8 v, .iface ty pv, .nilIface] 105 (0, 0)) := by rw [← hw2]; exact heap_alloc_new w1.drew _
  have h2 := h1.grown g2
  have hb1 : CR w1 b (.slice A k d) (.slice A1 ps.length d1) := h1.box
  have hb2 : CR w2 b (.slice A k d) (.slice A1 ps.length d1) := h2.box
  have c0 := hb1.c0
  have d0 := hb2.c0
  have HP := Lib.hid hcall
  have HQ := Lib.hid (push_o n0 b _ _ ⟨w1.heap.size, 0, none⟩ A k d ps.length (flatP ps) w2 hb2 h2.row (by omega) (by have := g2.size; omega))
  have HB := Lib.hid (fun u1 w3 hc ho hch => rs_begin (v1 := (.slice A1 ps.length d1)) (u1 := u1) (w3 := w3) (c := c) (v := v) h1 hn1 hx1 g2 hq2 hc ho hch)
  have HC := Lib.hid hc1
  obtain ⟨np, hnp⟩ : ∃ n, ps.length = n := ⟨_, rfl⟩
  rw [hnp] at HQ HB
  clear h h1 h2 hc1 hcall g2 hx1 hq2 hb1 hb2 hz1 hn1 hpl hnp
  go_enter Tryd.func47, Tryd.ntmps47
  go_wp2_with fail
  refine HP.out.mono ?_
  rintro e w' ⟨rfl, rfl⟩
  go_wp2_with fail
  go_region_law (go_simp
                 go_at_call 59
                 refine HQ.out.mono ?_
                 rintro e w3 ⟨rfl, u1, hc3, ho3, hch3⟩
                 have HR := Lib.hid (HB.out u1 w3 hc3 ho3 hch3)
                 have e0 := hc3.c0
                 have f0 := hc3.f 0
                 clear hc3 ho3 hch3)
  all_goals
    go_wp2_with fail
    go_ret
    exact takeP_yes rfl rfl (chgX_trans HC.out HR.out.2) HR.out.1
end

end Go.Proofs.YtdfanconjiiceaaDoor
