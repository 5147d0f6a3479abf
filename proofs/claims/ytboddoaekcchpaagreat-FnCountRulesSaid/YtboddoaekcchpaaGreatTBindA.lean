/- wouldBind of the program at whatever term. -/
import Derived.Test.YtboddoaekcchpaaGreatTBind0
import Derived.Test.YtboddoaekcchpaaGreatTBind
namespace Go.Proofs.YtboddoaekcchpaaGreat
section
open Go.RowKit

theorem all2_get {α β : Type} {R : α → β → Prop} : ∀ {l : List α} {m : List β}, All2 R l m → ∀ {j : Nat}, j < m.length → ∃ a b, l[j]? = some a ∧ m[j]? = some b ∧ R a b := fun h _ hj => All2.get h hj

theorem any_take_step {bs : List Bool} {j : Nat} {x : Bool} (h : bs[j]? = some x) : (bs.take (j + 1)).any id = ((bs.take j).any id || x) := by
  rw [← take_snoc' h, List.any_append]
  simp
theorem any_of_at {bs : List Bool} {j : Nat} (h : bs[j]? = some true) : bs.any id = true := by
  rw [List.any_eq_true]
  exact ⟨true, List.mem_of_getElem? h, rfl⟩

set_option maxRecDepth 100000 in
set_option maxHeartbeats 2000000 in
theorem idxf_any (r : Nat) (bs : List Bool) (xs : List Value) (B : Nat) (A : Option Addr) (k c : Nat) (w : World) (hl : bs.length = xs.length) (ho : w.ownsRow B 45 1 (.slice A k c) xs.length xs) (hk2 : k ≤ 1000)
    (hif : ∀ (j : Nat) (x : Value), xs[j]? = some x → ∃ t p, x = .iface t p)
    (ih : ∀ (j : Nat) (x : Value) (b : Bool) (u : World), xs[j]? = some x → bs[j]? = some b → w.grownBy u none → Calls Tryz.prog 26 #[.pointer (some ⟨r, 0, none⟩), x] u (WBP b u)) :
    Calls Tryz.prog 70 #[.slice A k c, .func (.func 26) #[.pointer (some ⟨r, 0, none⟩)] #[]] w fun e w' => (∃ n : Int, e = .returned (.int .i64 n) ∧ decide (0 ≤ n) = bs.any id ∧ -1 ≤ n ∧ n ≤ 1000) ∧ w.grownBy w' none := by
  obtain ⟨hk, hkc, hrow⟩ := orow ho
  have HKL := Lib.hid hk
  have HL := Lib.hid hl
  have HROW := Lib.hid hrow
  have HIF := Lib.hid hif
  have HI := Lib.hid ih
  clear ho hk hl hrow hif ih
  go_enter Tryz.func70, Tryz.ntmps70
  go_wp2_with fail
  go_loopw [8] (fun i wr => ∃ j : Nat, j ≤ k ∧ i = .int .i64 j ∧ Hid ((bs.take j).any id = false) ∧ Hid (w.grownBy wr none)) (fun i _ => k - (intOf i).toNat)
  case atStart => exact ⟨0, Nat.zero_le _, rfl, Lib.hid (by simp), Lib.hid (gr_refl _ _)⟩
  case round =>
    obtain ⟨j, hj, rfl, hm, hgr⟩ := hrel
    by_cases hlt : j < k
    · obtain ⟨g, rfl, _, _, hcell⟩ := HROW.out (by omega)
      obtain ⟨x, hx⟩ : ∃ x, xs[j]? = some x := ⟨_, List.getElem?_eq_getElem (by have := HKL.out; omega)⟩
      obtain ⟨b, hb⟩ : ∃ b, bs[j]? = some b := ⟨_, List.getElem?_eq_getElem (by have := HKL.out; have := HL.out; omega)⟩
      obtain ⟨tx, px, rfl⟩ := HIF.out j x hx
      have hc := hgr.out.cell (hcell j _ hx) (by simp)
      have HCALL := Lib.hid (HI.out j _ b wr hx hb hgr.out)
      have HST := Lib.hid (any_take_step hb)
      have HB := Lib.hid hb
      clear hcell hx hb
      go_wp2_with fail
      refine HCALL.out.mono ?_
      rintro e w2 ⟨rfl, hg2⟩
      have HG2 := Lib.hid (hgr.out.trans hg2)
      clear hg2 hc
      cases b
      · go_wp2_with fail
        go_roundw
        case rel => exact ⟨j + 1, by omega, by go_num, Lib.hid (by rw [HST.out, hm.out]; rfl), HG2⟩
        case measure => simp [intOf]; omega
      · go_wp2_with fail
        go_ret
        refine ⟨⟨j, rfl, ?_, by omega, by omega⟩, HG2.out⟩
        rw [any_of_at HB.out]
        simp
    · have hjk : j = k := by omega
      have HJ := Lib.hid hjk
      clear hjk
      go_wp2_with fail
      go_ret
      refine ⟨⟨-1, rfl, ?_, by omega, by omega⟩, hgr.out⟩
      have := hm.out
      rw [HJ.out, List.take_of_length_le (by rw [HL.out, HKL.out]; exact Nat.le_refl _)] at this
      rw [this]
      rfl

set_option maxRecDepth 100000 in
set_option maxHeartbeats 2000000 in
theorem contf_any (r : Nat) (bs : List Bool) (xs : List Value) (B : Nat) (A : Option Addr) (k c : Nat) (w : World) (hl : bs.length = xs.length) (ho : w.ownsRow B 45 1 (.slice A k c) xs.length xs) (hk2 : k ≤ 1000)
    (hif : ∀ (j : Nat) (x : Value), xs[j]? = some x → ∃ t p, x = .iface t p)
    (ih : ∀ (j : Nat) (x : Value) (b : Bool) (u : World), xs[j]? = some x → bs[j]? = some b → w.grownBy u none → Calls Tryz.prog 26 #[.pointer (some ⟨r, 0, none⟩), x] u (WBP b u)) :
    Calls Tryz.prog 49 #[.slice A k c, .func (.func 26) #[.pointer (some ⟨r, 0, none⟩)] #[]] w (WBP (bs.any id) w) := by
  have HI := Lib.hid (idxf_any r bs xs B A k c w hl ho hk2 hif ih)
  generalize bs.any id = b at HI ⊢
  clear ih hif ho hl
  go_enter Tryz.func49, Tryz.ntmps49
  go_wp2_with fail
  refine HI.out.mono ?_
  rintro e w1 ⟨⟨n, rfl, hn, _, _⟩, hg1⟩
  have HN := Lib.hid hn
  have HG1 := Lib.hid hg1
  clear hn hg1
  go_wp2_with fail
  go_ret
  exact ⟨by rw [← HN.out]; rfl, HG1.out⟩
end

section
open Go.RowKit Go.Maps

/-- The replacement in memory: the place, the term that comes in, its free variables. -/
structure RepAt (w : World) (r fb m : Nat) (v : Int) (byv : Value) (u : Tm) : Prop where
  blk : w.heap[r]? = some (.cells #[.int .u8 v, byv, .map (some fb)] 93 (0, 0))
  by' : PT w (fun _ => True) u byv
  set : VSet w fb m u.free
theorem RepAt.grown {w w' : World} {r fb m : Nat} {v : Int} {byv : Value} {u : Tm} (h : RepAt w r fb m v byv u) (hg : w.grownBy w' none) : RepAt w' r fb m v byv u :=
  ⟨(hg.block r (blk_lt h.blk) (by simp)).trans h.blk, h.by'.grown hg, h.set.grown hg (by simp)⟩

theorem binds_kids {t : Tm} (h : t.isLoop = false) (v : Int) (u : Tm) : t.binds v u = (t.kids.map (fun k => k.binds v u)).any id := by
  cases t with
  | dig c => rfl
  | var c => rfl
  | pre c s => simp [Tm.binds, Tm.kids]
  | two c s t => simp [Tm.binds, Tm.kids]
  | loop c i s t => cases h

set_option maxRecDepth 100000 in
set_option maxHeartbeats 4000000 in
theorem wb_kid (t : Tm) (S : Nat → Prop) (ty : TypeId) (pv : Value) (r : Nat) (v : Int) (u : Tm) (w : World) (h2 : t.isLoop = false) (h : PT w S t (.iface ty pv))
    (ih : ∀ k ∈ t.kids, ∀ (S : Nat → Prop) (x : Value) (w' : World), PT w' S k x → w.grownBy w' none → Calls Tryz.prog 26 #[.pointer (some ⟨r, 0, none⟩), x] w' (WBP (k.binds v u) w')) :
    Calls Tryz.prog 26 #[.pointer (some ⟨r, 0, none⟩), .iface ty pv] w (WBP (t.binds v u) w) := by
  rw [binds_kids h2 v u]
  have HI := Lib.hid ih
  have ht2 := ta_noloop h h2
  have hm := method_parts h
  have hrun := run_parts t pv
  have HK := Lib.hid (parts_any t S ty pv w h)
  obtain ⟨res, hres⟩ : ∃ b, (t.kids.map (fun k => k.binds v u)).any id = b := ⟨_, rfl⟩
  rw [hres]
  have HRES := Lib.hid hres
  clear h ih h2 hres
  go_enter Tryz.func26, Tryz.ntmps26
  go_wp2_with fail
  refine HK.out.mono ?_
  rintro e w1 ⟨hg1, sv, xs, rfl, ho, ha⟩
  obtain ⟨A, k, c, rfl⟩ := own_form ho
  obtain ⟨hk, -, -⟩ := orow ho
  have hlen := All2.length _ _ ha
  have hk2 : k ≤ 1000 := by have := kids_len t; omega
  have HC := Lib.hid (contf_any r (t.kids.map (fun k => k.binds v u)) xs _ A k c w1 (by rw [List.length_map]; exact hlen) ho hk2
    (fun j x hx => by
      obtain ⟨tj, xj, htj, hxj, hpj⟩ := ha.get (j := j) (List.getElem?_eq_some_iff.1 hx).1
      rw [hx] at hxj
      cases hxj
      exact hpj.iface)
    (fun j x b w' hx hb hg => by
      obtain ⟨tj, xj, htj, hxj, hpj⟩ := ha.get (j := j) (List.getElem?_eq_some_iff.1 hx).1
      rw [hx] at hxj
      cases hxj
      rw [List.getElem?_map, htj] at hb
      cases hb
      exact HI.out tj (List.mem_of_getElem? htj) _ x w' ((hpj.grown hg1).grown hg) (hg1.trans hg)))
  rw [HRES.out] at HC
  have HG1 := Lib.hid hg1
  clear hg1 ho ha hk hlen hm hrun ht2
  go_wp2_with fail
  refine HC.out.mono ?_
  rintro e w2 ⟨rfl, hg2⟩
  have HG2 := Lib.hid hg2
  clear hg2
  go_wp2_with fail
  go_ret
  exact ⟨rfl, HG1.out.trans HG2.out⟩

theorem wb_any (r fb m : Nat) (v : Int) (u : Tm) (byv : Value) (hv : 0 ≤ v ∧ v ≤ 255) : ∀ (n : Nat) (t : Tm) (S : Nat → Prop) (x : Value) (w : World), t.size ≤ n → n ≤ 1000000 → t.Ok → PT w S t x → RepAt w r fb m v byv u →
    Calls Tryz.prog 26 #[.pointer (some ⟨r, 0, none⟩), x] w (WBP (t.binds v u) w)
  | 0, t, _, _, _, hn, _, _, _, _ => by have := t.size_pos; omega
  | n + 1, t, S, x, w, hn, hn2, ho, h, hr => by
    by_cases h2 : t.isLoop = true
    · cases t <;> try cases h2
      rename_i c i s t
      obtain ⟨g, x, y, rfl, _, hh, hx, hy⟩ := h
      simp only [Tm.size] at hn
      exact wb_loop c i v t (s.binds v u) (t.binds v u) _ _ u.free S r fb m g x y byv w (lb ho.2.1).1 (lb ho.2.1).2 hv.1 hv.2 rfl rfl hy hh hr.blk hr.set
        (fun w' S' h' => free_any n t S' y w' (by omega) (by omega) ho.2.2.2 h')
        (fun w' hg => wb_any r fb m v u byv hv n s S x w' (by omega) (by omega) ho.2.2.1 (hx.grown hg) (hr.grown hg))
        (fun w' hg => wb_any r fb m v u byv hv n t S y w' (by omega) (by omega) ho.2.2.2 (hy.grown hg) (hr.grown hg))
    · obtain ⟨ty, pv, rfl⟩ := h.iface
      refine wb_kid t S ty pv r v u w (by simpa using h2) h (fun k hk S x w' hp hg => ?_)
      obtain ⟨j, hj, rfl⟩ := List.getElem_of_mem hk
      have hst := csum_step (List.getElem?_eq_getElem hj)
      have hlq := csum_take t.kids (j + 1)
      have hks := csum_kids t
      exact wb_any r fb m v u byv hv n _ S x w' (by omega) (by omega) (kids_ok' ho (List.getElem_mem hj)) hp (hr.grown hg)

set_option maxRecDepth 100000 in
set_option maxHeartbeats 2000000 in
/-- replacementOf. -/
theorem repof_any (v : Int) (u : Tm) (S : Nat → Prop) (byv : Value) (w : World) (hu : u.Ok) (hsz : u.size ≤ 1000000) (h : PT w S u byv) :
    Calls Tryz.prog 25 #[.int .u8 v, byv] w fun e w' => ∃ r fb, e = .returned (.pointer (some ⟨r, 0, none⟩)) ∧ w.grownBy w' none ∧ RepAt w' r fb u.size v byv u := by
  obtain ⟨tb, pb, rfl⟩ := h.iface
  have HF := Lib.hid (free_any u.size u S _ w (Nat.le_refl _) hsz hu h)
  have HB := Lib.hid h.any
  clear h
  go_enter Tryz.func25, Tryz.ntmps25
  go_wp2_with fail
  refine HF.out.mono ?_
  rintro e w1 ⟨b, rfl, _, hg1, hv1⟩
  have HG1 := Lib.hid hg1
  have HV1 := Lib.hid hv1
  clear hg1 hv1
  go_wp2_with fail
  go_ret
  exact ⟨_, b, rfl, HG1.out.trans (World.grownBy_alloc _ _ _), heap_alloc_new _ _, (HB.out.grown HG1.out).grown (World.grownBy_alloc _ _ _), HV1.out.grown (World.grownBy_alloc _ _ none) (by simp)⟩
end

end Go.Proofs.YtboddoaekcchpaaGreat
