/- slices.Sort and slices.Sorted of at most 12 variables. -/
import Derived.Test.YtmofoeljajdhmaaSeqS
import Derived.Test.YtmofoeljajdhmaaTSet
import Derived.Sort.MapsRangeIn
import Derived.RangeFuncSeq
import Derived.BigQuiet
import Derived.Deep.QuietTactic
namespace Go.Proofs.Ytmofoeljajdhmaa
section
open Go.RowKit Go.Maps Go.Shelf
attribute [local go_sem] Oper.semAt_some

/-- A list has each variable of a set once. -/
def SetOf (f : Int → Bool) (ss : List Int) : Prop := ss.Nodup ∧ ∀ x, x ∈ ss ↔ (0 ≤ x ∧ x ≤ 255 ∧ f x = true)
def SetPre (f : Int → Bool) (pre : List Int) (x : Int) : Prop := (pre ++ [x]).Nodup ∧ (∀ y ∈ pre ++ [x], 0 ≤ y ∧ y ≤ 255 ∧ f y = true)
def byV (x : Int) : Array Value := #[.int .u8 x]
/-- What came, while some are left. -/
def CollV (D : DataW Unit) (left : Lit → Bool) (ss : List Int) : Prop := ss.Nodup ∧ (∀ x ∈ ss, 0 ≤ x ∧ x ≤ 255) ∧ ∀ x, 0 ≤ x → x ≤ 255 → (x ∈ ss ↔ (has D (.int .u8 x) = true ∧ left (.int .u8 x) = false))
theorem CollV.start (D : DataW Unit) : CollV D (has D) [] := ⟨List.nodup_nil, by simp, fun x _ _ => by cases has D (.int .u8 x) <;> simp⟩
theorem CollV.step {D : DataW Unit} {left : Lit → Bool} {ss : List Int} (h : CollV D left ss) {x : Int} {y : DataW Unit} (h0 : 0 ≤ x) (h1 : x ≤ 255) (hlk : left (.int .u8 x) = true) (hat : ∀ zd, D.atKey (.int .u8 x) zd = y) :
    CollV D (fun z => left z && !z.sameKey (.int .u8 x)) (ss ++ [x]) ∧ x ∉ ss ∧ has D (.int .u8 x) = true := by
  have hhas : has D (.int .u8 x) = true := has_true_of_atKey hat
  have hnew : x ∉ ss := fun hx => by have := ((h.2.2 x h0 h1).1 hx).2; rw [hlk] at this; cases this
  refine ⟨⟨List.nodup_append.2 ⟨h.1, by simp, fun a ha b hb => by simp at hb; subst hb; exact fun e => hnew (e ▸ ha)⟩, fun z hz => ?_, fun z hz0 hz1 => ?_⟩, hnew, hhas⟩
  · rcases List.mem_append.1 hz with hz | hz
    · exact h.2.1 z hz
    · simp at hz; subst hz; exact ⟨h0, h1⟩
  · by_cases hz : z = x
    · subst hz; simp [hhas, Lit.sameKey]
    · simp [h.2.2 z hz0 hz1, hz, Lit.sameKey]
theorem keyV_inv {key : Value} {kl : Lit} (h : keyOf Try.prog 80 key = some kl) : ∃ x : Int, key = .int .u8 x ∧ kl = .int .u8 x ∧ (Lit.int .u8 x).wf = true := by
  cases key <;> simp [keyOf, Try.underlying80, mapKey] at h
  rename_i q a
  obtain ⟨⟨rfl, hw⟩, rfl⟩ := h
  exact ⟨a, rfl, rfl, hw⟩
theorem wf_u8 {x : Int} (h : (Lit.int .u8 x).wf = true) : 0 ≤ x ∧ x ≤ 255 := by
  simp [Lit.wf, IntKind.min, IntKind.max, IntKind.signed, IntKind.bits] at h
  omega
theorem VSet.keep {w w' : World} {X : Nat → TypeId → Prop} {b m : Nat} {D : DataW Unit} {k : TypeId} {R : Value → Option (DataW Unit × List MemPlace)} (h : w.ownsMap Try.prog k R b m D) (hk : KeepsK X w w') : w'.ownsMap Try.prog k R b m D := by
  obtain ⟨es, clock, hb, h1, h2, h3⟩ := h
  exact ⟨es, clock, hk.same _ _ hb (fun xs t m e => by cases e), h1, h2, h3⟩

theorem KeepsK.walks {X : Nat → TypeId → Prop} {W W' : World} (h : KeepsK X W W') : KeepsWalks W W' :=
  ⟨h.size, fun k o hk ho => h.same k o hk (fun xs t m e => by subst e; simp [Obj.isWalk] at ho)⟩

set_option maxRecDepth 100000 in
set_option maxHeartbeats 2000000 in
theorem keys_iter (X : Nat → TypeId → Prop) (bm b m : Nat) (f : Int → Bool) (w : World) (hs : VSet w b m f) (hbox : w.heap[bm]? = some (.cells #[.map (some b)] 84 (0, 0))) (hX : ¬ X bm 84) :
    SeqSetK byV X Try.prog 140 #[.pointer (some ⟨bm, 0, none⟩)] (SetPre f) (SetOf f) w := by
  intro n l J W hW hJ hY h0
  obtain ⟨D, ho0, hr⟩ := hs
  have hb1 := hW.cell hbox hX
  have hc : W.cell? ⟨bm, 0, none⟩ = some (.map (some b)) := by simp [World.cell?, hb1]
  have ho : W.ownsMap Try.prog 80 (plainElem Try.prog 4) b m D := VSet.keep ho0 hW
  have HY := Lib.hid hY
  have HR := Lib.hid hr
  show CallsIn Fence.wide n Try.prog _ #[.func (.yield l) #[] #[], .pointer (some ⟨bm, 0, none⟩)] W _
  refine callsIn_of_wp Try.func140 rfl trivial ?_ rfl
  simp only [Try.ntmps140, List.size_toArray, List.length_cons, List.length_nil, Nat.reduceAdd, Nat.reduceSub, Array.replicate_succ, Array.replicate_zero, List.push_toArray, List.append_toArray, List.nil_append, List.cons_append]
  clear hY hr hbox hb1 hW ho0
  gi_wp2_with (first
    | (gi_at_range; refine wpListIn_range_own _ rfl _ 84 rfl 80 4 keyedV Try.underlying84 _ b m _ rfl ho ?_; intro w0 hrg0 hg0 hs0)
    | gi_in)
  go_frame
  gi_loopw [3] (fun _ wr => ∃ (left : Lit → Bool) (cnt : Nat) (ss : List Int), wr.ranges Try.prog 80 (plainElem Try.prog 4) b W.heap.size m D left cnt ∧ CollV D left ss ∧ J ss wr)
    (fun _ wr => wr.rangeLeft b W.heap.size)
  case atStart =>
    exact ⟨_, _, [], hrg0, CollV.start D, hJ [] W w0 none h0 hg0 (fun r e => by cases e)⟩
  case round =>
    obtain ⟨left, cnt, ss, hrg, hC, hJs⟩ := hrel
    gi_wp2_with (first
      | (gi_at_next; refine wpListIn_next_ranges _ rfl _ rfl 80 keyedV (plainElem Try.prog 4) (Value.int .u8) id (fun key kl hk => by obtain ⟨x, hx, _⟩ := keyV_inv hk; exact ⟨x, hx⟩) (fun v _ _ => ⟨v, rfl⟩) b W.heap.size m _ _ _ rfl hrg ?_ ?_)
      | gi_in)
    · intro hc0 hl0
      gi_wp2
      go_end0
      refine ⟨⟨_, rfl⟩, ss, ⟨hC.1, fun x => ⟨fun hx => ?_, fun hx => ?_⟩⟩, hJs⟩
      · have hb := hC.2.1 x hx
        have := ((hC.2.2 x hb.1 hb.2).1 hx).1
        rw [(HR.out x hb.1 hb.2).1] at this
        exact ⟨hb.1, hb.2, this⟩
      · exact (hC.2.2 x hx.1 hx.2.1).2 ⟨by rw [(HR.out x hx.1 hx.2.1).1]; exact hx.2.2, hl0 _⟩
    · intro x c kl yd yp w2 cnt2 hkey hlk hv hat hrg2 hlt hg2 hs2 hen
      obtain ⟨x', ex, rfl, hwf⟩ := keyV_inv hkey
      cases ex
      obtain ⟨hx0, hx1⟩ := wf_u8 hwf
      obtain ⟨hC2, hnew, hhas⟩ := hC.step hx0 hx1 hlk hat
      have hpre : SetPre f ss x := ⟨hC2.1, fun z hz => by
        have hb := hC2.2.1 z hz
        have := ((hC2.2.2 z hb.1 hb.2).1 hz).1
        rw [(HR.out z hb.1 hb.2).1] at this
        exact ⟨hb.1, hb.2, this⟩⟩
      have hJ2 : J ss w2 := hJ ss wr w2 (some W.heap.size) hJs hg2 (fun r e => by cases e; obtain ⟨o, ho, how⟩ := hrg.iter_walk; exact ⟨Nat.le_refl _, o, ho, by cases o <;> first | rfl | (simp [Obj.isWalk] at how)⟩)
      have hyd := HY.out (n - 1) ss x w2 hJ2 hpre
      unfold byV at hyd
      obtain ⟨fn, tmps, assign, body, hy, hRd⟩ := hyd
      gi_wp2_with (refine ⟨fun h => (by cases h), ?_⟩; refine hRd.mono ?_; clear hRd; rintro e W3 ⟨rfl, hJ3, hk3⟩)
      have hrg3 := hrg2.of_walks hk3.walks
      go_roundw
      case rel => exact ⟨_, cnt2, ss ++ [x], hrg3, hC2, hJ3⟩
      case measure => rw [hrg3.left_eq, hrg.left_eq]; exact hlt
end

section
open Go.RowKit Go.Shelf
attribute [local go_sem] Oper.semAt_some

abbrev TV : TypeId := 80
abbrev TSV : TypeId := 78
theorem infoV : (Try.prog.info? TV).map (fun i => (i.zero, i.size, i.bytes)) = some (some (.int .u8 0), 1, 1) := by kernel_rfl
def varV (ss : List Int) : List Value := ss.map (Value.int .u8)

theorem nodup_le : ∀ (m l : List Int), l.Nodup → (∀ x ∈ l, x ∈ m) → l.length ≤ m.length
  | [], l, _, h => by
    cases l with
    | nil => simp
    | cons a l => exact absurd (h a (by simp)) (by simp)
  | a :: m, l, hn, h => by
    have h1 : (l.filter fun x => x != a).length ≤ m.length := nodup_le m _ (hn.filter _) (fun x hx => by
      obtain ⟨hx1, hx2⟩ := List.mem_filter.1 hx
      have := h x hx1
      rcases List.mem_cons.1 this with e | e
      · subst e; simp at hx2
      · exact e)
    have h2 : l.length ≤ (l.filter fun x => x != a).length + 1 := by
      clear h1 h
      induction l with
      | nil => simp
      | cons b l ih =>
        obtain ⟨hb, hl⟩ := List.nodup_cons.1 hn
        by_cases e : b = a
        · subst e
          have : l.filter (fun x => x != b) = l := List.filter_eq_self.2 (fun x hx => by simp; intro e; subst e; exact hb hx)
          simp [this]
        · have := ih hl
          simp [e]; omega
    simp only [List.length_cons]; omega

theorem makeFunc_runV (fn : Fn) (first cap : Array Value) (w : World) : (Instr.makeFunc fn first cap).run Try.prog w = .ok (.func fn first cap) w := rfl

theorem keysmake (b : Nat) (w : World) : Calls Try.prog 75 #[.map (some b)] w fun e w' =>
    e = .returned (.func (.func 140) #[] #[.pointer (some ⟨w.heap.size, 0, none⟩)]) ∧ w' = w.alloc (.cells #[.map (some b)] 84) := by
  have hmf := @makeFunc_runV
  go_enter Try.func75, Try.ntmps75
  go_wp2_with fail
  go_ret
  exact ⟨rfl, rfl⟩

theorem keeps_rowV {X : Nat → TypeId → Prop} {V V' : World} {base e size n : Nat} {v : Value} {xs : List Value} (h : V.ownsRow base e size v n xs) (he : ∀ k, base ≤ k → X k e) (hg : V.grownBy V' v.ownBlock) : KeepsK X V V' := by
  rcases h.2 with ⟨rfl, _⟩ | ⟨g, cap, cur, rfl, hb, hgb, _⟩
  · exact KeepsK.grown hg
  · exact KeepsK.grownX hg hgb (he g hb)
theorem gr_rowV {w w1 w2 : World} {row : Option Nat} (h : w.grownBy w1 none) (h2 : w1.grownBy w2 row) (hr : ∀ k, row = some k → w.heap.size ≤ k) : w.grownBy w2 none :=
  ⟨h2.os.trans h.os, h2.tape.trans h.tape, h2.output.trans h.output, Nat.le_trans h.size h2.size, fun k hk hn => (h2.block k (Nat.lt_of_lt_of_le hk h.size) (fun e => by have := hr k e.symm; omega)).trans (h.block k hk hn)⟩

/-- What a round writes: the box of the list and the list's rows. -/
def collV (g : Nat) (k : Nat) (t : TypeId) : Prop := (t = TV ∧ g + 1 ≤ k) ∨ (t = TSV ∧ k = g)

set_option maxRecDepth 100000 in
set_option maxHeartbeats 4000000 in
theorem appseqV (bm b m : Nat) (f : Int → Bool) (w : World) (hs : VSet w b m f) (hf : ∀ x, f x = true → x ∈ ([97, 98, 118, 119, 120, 121, 122] : List Int)) (hbm : w.heap[bm]? = some (.cells #[.map (some b)] 84 (0, 0))) :
    Calls Try.prog 182 #[.slice none 0 0, .func (.func 140) #[] #[.pointer (some ⟨bm, 0, none⟩)]] w fun e w' =>
      ∃ sv ss, e = .returned sv ∧ SetOf f ss ∧ w.grownBy w' none ∧ w'.ownsRow w.heap.size TV 1 sv ss.length (varV ss) := by
  obtain ⟨i0, hi0, hz0, hz1, hz2⟩ := info_parts infoV
  obtain ⟨g, hg⟩ : ∃ g, w.heap.size = g := ⟨_, rfl⟩
  obtain ⟨W1, hW1⟩ : ∃ W1, w.alloc (.cells #[.slice none 0 0] TSV) = W1 := ⟨_, rfl⟩
  have s1 : W1.heap.size = g + 1 := by rw [← hW1]; simp [hg]
  have g1 : w.grownBy W1 none := by rw [← hW1]; exact World.grownBy_alloc _ _ _
  obtain ⟨X, hX⟩ : ∃ X, collV g = X := ⟨_, rfl⟩
  have b1 : Boxed W1 g TSV (.slice none 0 0) := by
    rw [← hW1, ← hg]
    exact Boxed.new w _ _
  have hll := (Array.getElem?_eq_some_iff.1 hbm).1
  have b2 : W1.heap[bm]? = some (.cells #[.map (some b)] 84 (0, 0)) := (g1.block bm hll (by simp)).trans hbm
  have hseq := Lib.hid (keys_iter X bm b m f W1 (hs.grown g1 (by simp)) b2 (by rw [← hX]; rintro (⟨e, _⟩ | ⟨e, _⟩) <;> exact absurd e (by decide)))
  have HB1 := Lib.hid b1
  have HG1 := Lib.hid g1
  have HX := Lib.hid hX
  have HW := Lib.hid hW1
  have HF := Lib.hid hf
  have HSS := Lib.hid (show W1.heap.size = g + 1 ∧ w.heap.size = g from ⟨s1, hg⟩)
  have HGH := Lib.hid hg
  clear hs hf hbm hg hW1 s1 g1 hX b1 hll b2
  refine (callsIn_wide (n := 3)).1 ?_
  refine callsIn_of_wp_marks Try.func182 rfl trivial ?_ rfl
  simp only [Try.ntmps182, List.size_toArray, List.length_cons, List.length_nil, Nat.reduceAdd, Nat.reduceSub, Array.replicate_succ, Array.replicate_zero, List.push_toArray, List.append_toArray, List.nil_append, List.cons_append]
  gi_wp2
  rw [HW.out]
  simp only [HGH.out]
  clear HW
  refine range_ownS byV (X := X) (Pre := SetPre f) (End := SetOf f) (gf := 140) (lb := #[.pointer (some ⟨bm, 0, none⟩)]) rfl (enters_of Try.func140 (by kernel_rfl) rfl) hseq.out
    (fun pre V => (∃ v, Boxed V g TSV v ∧ V.ownsRow (g + 1) TV 1 v pre.length (pre.map (Value.int .u8)) ∧ True) ∧ w.grownBy V none) ?hI ?h0 (fun _ => rfl)
    (fun x => { tmps := #[.slice none 0 0, .func (.func 140) #[] #[.pointer (some ⟨bm, 0, none⟩)], .pointer (some ⟨g, 0, none⟩), undef, .slice none 0 0, .int .u8 x,
          .func (.func 140) #[] #[.pointer (some ⟨bm, 0, none⟩)], .int .u8 x, undef, undef, undef, undef, undef], defers := [] }) ?assign ?body ?done
  case hI => exact OwnFrom.and (Own.from (holdsRow_own (g + 1) g TSV TV 1 (fun pre : List Int => pre.length) (fun pre => pre.map (Value.int .u8)) (fun _ _ => True)) _) (fun s A C row hs hg hr => gr_rowV hs hg (fun k e => by have h1 := (hr k e).1; have h2 := HSS.out; omega))
  case h0 => exact ⟨⟨_, HB1.out, by simpa using World.ownsRow_nil _ _ _ _, trivial⟩, HG1.out⟩
  case assign =>
    intro l m x V K hK
    simp only [byV]
    gi_wp2
    exact hK
  case body =>
    rintro l1 m1 pre x V hl1 hr1 ⟨⟨v, hv, hrow, _⟩, hG⟩ hpre
    have hszV : g + 1 ≤ V.heap.size := by obtain ⟨r, hr⟩ := hr1; have h1 := (Array.getElem?_eq_some_iff.1 hr).1; have := HSS.out; omega
    have hpl : pre.length < 400 := by
      have h1 := nodup_le _ _ hpre.1 (fun y hy => HF.out y (hpre.2 y hy).2.2)
      simp only [List.length_append, List.length_cons, List.length_nil] at h1
      omega
    have hc := hv.cell
    have HC := Lib.hid (cell_one_new V (.int .u8 x) TV)
    gi_wp2_with (gi_at_builtin; refine wpListIn_append_own _ rfl _ _ TSV rfl (g + 1) TV i0 (.int .u8 0) 1 1 Try.underlying78 hi0 hz0 hz1 hz2 rfl (by decide) v pre.length _ rfl (hrow.alloc _) ⟨V.heap.size, 0, none⟩ 1 1 [.int .u8 x] rfl rfl HC.out (by simp [Value.oneCell']) (by simp only [maxLen]; omega) (by omega) (by simp; omega) ?_; intro v' w1 hown' hgrow _; obtain ⟨g', cap', rfl⟩ := ownsRow_succ hown'; have hv1 : Boxed w1 g TSV v := Boxed.kept (hv.alloc _) hgrow (hv.not_row (by decide) hrow); have hc1 := hv1.cell; have hf1 := hv1.frozen)
    have hrow3 := hown'.kept (grownBy_setCell' w1 g (.slice (some ⟨g', 0, none⟩) (pre.length + 1) cap')) (.inr (hv1.not_row (by decide) hown').symm)
    have ka : KeepsK X V (V.alloc (.cells #[.int .u8 x] TV)) := KeepsK.alloc _ _
    have kb : KeepsK X (V.alloc (.cells #[.int .u8 x] TV)) w1 := keeps_rowV (hrow.alloc _) (fun k hk => by rw [← HX.out]; exact .inl ⟨rfl, hk⟩) hgrow
    have kc : KeepsK X w1 (w1.setCell ⟨g, 0, none⟩ (.slice (some ⟨g', 0, none⟩) (pre.length + 1) cap')) := KeepsK.grownX (grownBy_setCell' w1 g _) hv1 (by rw [← HX.out]; exact .inr ⟨rfl, rfl⟩)
    refine ⟨(ka.trans kb).trans kc, ⟨_, hv1.set _, ?_, trivial⟩, ?_⟩
    · rw [List.length_append, List.length_singleton, List.map_append, List.map_singleton]
      exact hrow3
    · have hlow := HSS.out
      refine gr_rowV (gr_rowV (hG.trans (World.grownBy_alloc V _ none)) hgrow (fun k hk => by have := (hrow.lt k hk).1; omega)) (grownBy_setCell' w1 g _) (fun k e => by cases e; omega)
  case done =>
    rintro Dm ss V hD' hend ⟨⟨v, hv, hrow, _⟩, hG⟩ hK
    have hc := hv.cell
    gi_wp2
    refine ⟨by simp, .inl ⟨_, _, rfl, run_takeDeferred hK, ?_⟩⟩
    have h3 := own_base (base' := w.heap.size) (ownsRow_putObj hrow (.deferred none) hK rfl) (by have := HSS.out; omega)
    have hgl : w.grownBy (V.putObj Dm (.deferred none)) none := gr_rowV hG (grownBy_putObj' V Dm _) (fun k e => by have := HSS.out; cases e; omega)
    refine ⟨v, by simp [results, Try.results182, go_sem], v, ss, rfl, hend, hgl, h3⟩

set_option maxHeartbeats 1000000 in
theorem collectV (bm b m : Nat) (f : Int → Bool) (w : World) (hs : VSet w b m f) (hf : ∀ x, f x = true → x ∈ ([97, 98, 118, 119, 120, 121, 122] : List Int)) (hbm : w.heap[bm]? = some (.cells #[.map (some b)] 84 (0, 0))) :
    Calls Try.prog 138 #[.func (.func 140) #[] #[.pointer (some ⟨bm, 0, none⟩)]] w fun e w' =>
      ∃ sv ss, e = .returned sv ∧ SetOf f ss ∧ w.grownBy w' none ∧ w'.ownsRow w.heap.size TV 1 sv ss.length (varV ss) := by
  have HS := Lib.hid (appseqV bm b m f w hs hf hbm)
  clear hs hf hbm
  go_enter Try.func138, Try.ntmps138
  go_wp2_with fail
  refine HS.out.mono ?_
  rintro e w1 ⟨sv, ss, rfl, h1, h2, h3⟩
  have HP := Lib.hid (And.intro h1 (And.intro h2 h3))
  clear h1 h2 h3
  go_wp2_with fail
  go_ret
  exact ⟨sv, ss, rfl, HP.out.1, HP.out.2.1, HP.out.2.2⟩
end

section
open Go.RowKit

def leV (l : List Int) : Prop := l.Pairwise (· ≤ ·)
theorem leV_in {P Q : List Int} {x : Int} (h : leV (P ++ Q)) (h1 : ∀ y ∈ P, y ≤ x) (h2 : ∀ y ∈ Q, x ≤ y) : leV (P ++ x :: Q) := by
  obtain ⟨hp, hq, hpq⟩ := List.pairwise_append.1 h
  refine List.pairwise_append.2 ⟨hp, List.pairwise_cons.2 ⟨h2, hq⟩, fun a ha b hb => ?_⟩
  rcases List.mem_cons.1 hb with rfl | hb
  · exact h1 a ha
  · exact hpq a ha b hb
theorem leV_last {P Q : List Int} {y : Int} (h : leV (P ++ [y] ++ Q)) : ∀ z ∈ P, z ≤ y := fun z hz => by
  have := (List.pairwise_append.1 (List.pairwise_append.1 h).1).2.2 z hz y (by simp)
  exact this
theorem leV_one : ∀ {l k : List Int}, leV l → leV k → l.Perm k → l = k
  | [], k, _, _, hp => (List.nil_perm.1 hp).symm
  | x :: l, k, h1, h2, hp => by
    cases k with
    | nil => exact List.perm_nil.1 hp
    | cons y k =>
      obtain ⟨hx, h3⟩ := List.pairwise_cons.1 h1
      obtain ⟨hy, h4⟩ := List.pairwise_cons.1 h2
      have e : x = y := by
        have g1 : x ∈ y :: k := hp.subset List.mem_cons_self
        have g2 : y ∈ x :: l := hp.symm.subset List.mem_cons_self
        rcases List.mem_cons.1 g1 with e | g1
        · exact e
        · rcases List.mem_cons.1 g2 with e | g2
          · exact e.symm
          · have a1 := hx y g2
            have a2 := hy x g1
            omega
      subst e
      exact congrArg (x :: ·) (leV_one h3 h4 ((List.perm_cons x).1 hp))

theorem varV_at {L : List Int} {j : Nat} {x : Int} (h : L[j]? = some x) : (varV L)[j]? = some (.int .u8 x) := by simp [varV, h]
theorem mid_at (P Q : List Int) (x : Int) {p : Nat} (h : P.length = p) : (P ++ x :: Q)[p]? = some x := by
  rw [List.getElem?_append_right (by omega), h, Nat.sub_self]; rfl
theorem mid_set (P Q : List Int) (x y : Int) {p : Nat} (h : P.length = p) : (P ++ x :: Q).set p y = P ++ y :: Q := by
  subst h
  simp [List.set_append_right]

theorem isnanV (x : Int) (w : World) : Calls Try.prog 230 #[.int .u8 x] w fun e w' => e = .returned (.bool false) ∧ w' = w := by
  go_enter Try.func230, Try.ntmps230
  go_wp2_with fail
  go_ret
  exact ⟨rfl, rfl⟩
theorem lessV (x y : Int) (w : World) : Calls Try.prog 213 #[.int .u8 x, .int .u8 y] w fun e w' => e = .returned (.bool (decide (x < y))) ∧ w' = w := by
  have H := Lib.hid isnanV
  go_enter Try.func213, Try.ntmps213
  go_wp2_with fail
  refine (H.out _ _).mono ?_
  rintro e w1 ⟨rfl, rfl⟩
  go_wp2_with fail
  go_ret
  exact ⟨rfl, rfl⟩

set_option maxRecDepth 100000 in
set_option maxHeartbeats 8000000 in
theorem insV (B g n cap : Nat) (L : List Int) (w : World) (ho : w.ownsRow B TV 1 (.slice (some ⟨g, 0, none⟩) n cap) n (varV L)) (hn : L.length = n) (hn0 : 0 < n) (hn2 : n ≤ 400) :
    Calls Try.prog 207 #[.slice (some ⟨g, 0, none⟩) n cap, .int .i64 0, .int .i64 (n : Int)] w fun e w' => e = .returned (.tuple #[]) ∧ ∃ M : List Int, M.Perm L ∧ leV M ∧ w'.ownsRow B TV 1 (.slice (some ⟨g, 0, none⟩) n cap) n (varV M) ∧ w.grownBy w' (some g) := by
  have HN := Lib.hid hn
  have H0 : Hid (∃ S R, S.length = 1 ∧ leV S ∧ (S ++ R).Perm L ∧ w.ownsRow B TV 1 (.slice (some ⟨g, 0, none⟩) n cap) n (varV (S ++ R))) := Lib.hid (by
    cases L with
    | nil => simp at hn; omega
    | cons x L => exact ⟨[x], L, rfl, by simp [leV], List.Perm.refl _, ho⟩)
  have HL := Lib.hid lessV
  clear ho hn
  go_enter Try.func207, Try.ntmps207
  go_wp2_with fail
  go_loopw [6] (fun i wr => ∃ t : Nat, 1 ≤ t ∧ t ≤ n ∧ i = .int .i64 (t : Int) ∧ Hid (∃ S R, S.length = t ∧ leV S ∧ (S ++ R).Perm L ∧ wr.ownsRow B TV 1 (.slice (some ⟨g, 0, none⟩) n cap) n (varV (S ++ R))) ∧ Hid (w.grownBy wr (some g))) (fun i _ => n - (intOf i).toNat)
  case atStart => exact ⟨1, Nat.le_refl _, by omega, rfl, H0, Lib.hid (gr_refl _ _)⟩
  case round =>
    obtain ⟨t, ht1, ht2, rfl, hS, hgr⟩ := hrel
    by_cases hlt : t < n
    · have HI : Hid (∃ (P : List Int) (x : Int) (Q R : List Int), P.length = t ∧ Q.length = t - t ∧ leV (P ++ Q) ∧ (∀ y ∈ Q, x ≤ y) ∧ (P ++ x :: (Q ++ R)).Perm L ∧ wr.ownsRow B TV 1 (.slice (some ⟨g, 0, none⟩) n cap) n (varV (P ++ x :: (Q ++ R)))) := Lib.hid (by
        obtain ⟨S, R, h1, h2, h3, h4⟩ := hS.out
        cases R with
        | nil => have := h3.length_eq; rw [List.append_nil, h1, HN.out] at this; omega
        | cons x R => exact ⟨S, x, [], R, h1, by simp, by simpa using h2, by simp, by simpa using h3, by simpa using h4⟩)
      clear hS
      go_wp2_with fail
      go_loopw [7] (fun j wr => ∃ p : Nat, j = .int .i64 (p : Int) ∧ p ≤ t ∧ Hid (∃ (P : List Int) (x : Int) (Q R : List Int), P.length = p ∧ Q.length = t - p ∧ leV (P ++ Q) ∧ (∀ y ∈ Q, x ≤ y) ∧ (P ++ x :: (Q ++ R)).Perm L ∧ wr.ownsRow B TV 1 (.slice (some ⟨g, 0, none⟩) n cap) n (varV (P ++ x :: (Q ++ R)))) ∧ Hid (w.grownBy wr (some g))) (fun j _ => (intOf j).toNat)
      case atStart => exact ⟨t, rfl, Nat.le_refl _, HI, hgr⟩
      case round =>
        clear hgr HI
        obtain ⟨p, rfl, hpt, hst, hgr⟩ := hrel
        by_cases hp0 : p = 0
        · subst hp0
          have HE : Hid (∃ S R, S.length = t + 1 ∧ leV S ∧ (S ++ R).Perm L ∧ wr.ownsRow B TV 1 (.slice (some ⟨g, 0, none⟩) n cap) n (varV (S ++ R))) := Lib.hid (by
            obtain ⟨P, x, Q, R, h1, h2, h3, h4, h5, h6⟩ := hst.out
            obtain rfl := List.eq_nil_of_length_eq_zero h1
            exact ⟨x :: Q, R, by simp; omega, leV_in (P := []) h3 (by simp) h4, by simpa using h5, by simpa using h6⟩)
          clear hst
          go_wp2_with fail
          go_quiet (fail)
          go_wp2_with fail
          go_roundw
          case rel => exact ⟨t + 1, by omega, by omega, by go_num, Lib.hid (by obtain ⟨S, R, h1, h2, h3, h4⟩ := HE.out; exact ⟨S, R, h1, h2, h3, own_keep h4 (fun _ _ => rfl)⟩), Lib.hid (hgr.out.trans (gr_drewN _ _ _))⟩
          case measure => simp [intOf]; omega
        · obtain ⟨q, rfl⟩ : ∃ q, p = q + 1 := ⟨p - 1, by omega⟩
          obtain ⟨P, x, Q, R, h1, h2, h3, h4, h5, h6⟩ := hst.out
          obtain ⟨P', y, rfl⟩ : ∃ P' y, P = P' ++ [y] := by
            have hne : P ≠ [] := fun h => by rw [h] at h1; simp at h1
            exact ⟨P.dropLast, P.getLast hne, (List.dropLast_concat_getLast hne).symm⟩
          have hq : P'.length = q := by simpa using h1
          have hlen := h5.length_eq
          rw [HN.out] at hlen
          simp only [List.length_append, List.length_cons, List.length_nil] at hlen
          have c1 : wr.cell? ⟨g, q + 1, none⟩ = some (.int .u8 x) := (h6.cellAt (q + 1) (by omega)).trans (varV_at (mid_at _ _ x h1))
          have c2 : wr.cell? ⟨g, q, none⟩ = some (.int .u8 y) := (h6.cellAt q (by omega)).trans (varV_at (by rw [List.append_assoc]; exact mid_at _ _ y hq))
          have H6 := Lib.hid h6
          have H3 := Lib.hid h3
          have H4 := Lib.hid h4
          have H5 := Lib.hid h5
          have H2 := Lib.hid h2
          have HQ := Lib.hid hq
          have HQ1 := Lib.hid h1
          have hq1 : (((q + 1 : Nat) : Int)) = (q : Int) + 1 := by omega
          have hqn : q + 1 < n := by omega
          clear h1 h2 h3 h4 h5 h6 hst hq hlen
          by_cases hxy : x < y
          · have hxd : decide (x < y) = true := by simp [hxy]
            go_wp2_with fail
            go_quiet (first | (go_at_call 213; refine Calls.quiet_of_same (lessV x y _)))
            go_wp2_with fail
            generalize hwd : wr.drewN nq = wd
            have ho : wd.ownsRow B TV 1 (.slice (some ⟨g, 0, none⟩) n cap) n (varV (P' ++ [y] ++ x :: (Q ++ R))) := by rw [← hwd]; exact own_keep H6.out (fun _ _ => rfl)
            have d1 : wd.cell? ⟨g, q + 1, none⟩ = some (.int .u8 x) := by rw [← hwd]; exact c1
            have d2 : wd.cell? ⟨g, q, none⟩ = some (.int .u8 y) := by rw [← hwd]; exact c2
            have HG5 := Lib.hid (hgr.out.trans (show wr.grownBy wd (some g) by rw [← hwd]; exact gr_drewN _ _ _))
            have f1 := ho.frozenAt (q + 1)
            have f2 := ho.frozenAt q
            have hne : q + 1 ≠ q := by omega
            have hne2 : q ≠ q + 1 := by omega
            have h1 := ho.stored (q + 1) (.int .u8 y)
            have h2 := h1.1.stored q (.int .u8 x)
            have hset : ((varV (P' ++ [y] ++ x :: (Q ++ R))).set (q + 1) (.int .u8 y)).set q (.int .u8 x) = varV (P' ++ x :: (y :: Q ++ R)) := by
              unfold varV
              rw [← List.map_set, ← List.map_set, mid_set _ _ _ _ HQ1.out, List.append_assoc]
              exact congrArg _ (mid_set P' (y :: (Q ++ R)) y x HQ.out)
            rw [hset] at h2
            have HST := Lib.hid (And.intro h2.1 (h1.2.trans h2.2))
            have HP : Hid ((P' ++ x :: (y :: Q ++ R)).Perm L) := Lib.hid (by
              refine List.Perm.trans ?_ H5.out
              rw [List.append_assoc]
              exact List.Perm.append_left P' (List.Perm.swap y x (Q ++ R)))
            clear h1 h2 ho hset hwd c1 c2
            go_region
            all_goals
              go_wp2_with fail
              go_roundw
              case rel => exact ⟨q, by go_num, by omega, Lib.hid ⟨P', x, y :: Q, R, HQ.out, by have := H2.out; simp; omega, by simpa using H3.out, fun z hz => by
                rcases List.mem_cons.1 hz with rfl | hz
                · omega
                · exact H4.out z hz, HP.out, own_keep HST.out.1 (fun _ _ => rfl)⟩, Lib.hid ((HG5.out.trans HST.out.2).trans (gr_drewN _ _ _))⟩
              case measure => first | (simp [intOf]; done) | (simp [intOf]; omega)
          · have hxd : decide (x < y) = false := by simp [hxy]
            have HE : Hid (∃ S R, S.length = t + 1 ∧ leV S ∧ (S ++ R).Perm L ∧ wr.ownsRow B TV 1 (.slice (some ⟨g, 0, none⟩) n cap) n (varV (S ++ R))) := Lib.hid
              ⟨P' ++ [y] ++ x :: Q, R, by have := HQ.out; have := H2.out; simp; omega, leV_in H3.out (fun z hz => by
                rcases List.mem_append.1 hz with hz | hz
                · have := leV_last H3.out z hz; omega
                · simp at hz; omega) H4.out, by simpa using H5.out, by simpa using H6.out⟩
            go_wp2_with fail
            go_quiet (first | (go_at_call 213; refine Calls.quiet_of_same (lessV x y _)))
            go_wp2_with fail
            go_roundw
            case rel => exact ⟨t + 1, by omega, by omega, by go_num, Lib.hid (by obtain ⟨S, R, h1, h2, h3, h4⟩ := HE.out; exact ⟨S, R, h1, h2, h3, own_keep h4 (fun _ _ => rfl)⟩), Lib.hid (hgr.out.trans (gr_drewN _ _ _))⟩
            case measure => simp [intOf]; omega
    · have hjn : t = n := by omega
      have HJ := Lib.hid hjn
      clear hjn
      go_wp2_with fail
      go_end0
      obtain ⟨S, R, h1, h2, h3, h4⟩ := hS.out
      have hR : R = [] := by
        have := h3.length_eq
        rw [List.length_append, h1, HN.out, HJ.out] at this
        exact List.eq_nil_of_length_eq_zero (by omega)
      subst hR
      rw [List.append_nil] at h3 h4
      exact ⟨rfl, S, h3, h2, h4, hgr.out⟩
end

section
open Go.RowKit Go.Shelf

set_option maxRecDepth 100000 in
set_option maxHeartbeats 2000000 in
theorem len64V (x : Int) (w : World) (h0 : 0 ≤ x) (h1 : x ≤ 12) : Calls Try.prog 217 #[.int .u64 x] w fun e w' => (∃ z : Int, e = .returned (.int .i64 z)) ∧ w' = w := by
  obtain ⟨k, rfl⟩ : ∃ k : Nat, x = (k : Int) := ⟨x.toNat, by omega⟩
  have a1 : ¬ ((4294967296 : Int) ≤ (k : Int)) := by omega
  have a2 : ¬ ((65536 : Int) ≤ (k : Int)) := by omega
  have a3 : ¬ ((256 : Int) ≤ (k : Int)) := by omega
  go_enter Try.func217, Try.ntmps217
  go_wp2_with fail
  go_ret
  exact ⟨⟨_, rfl⟩, rfl⟩

theorem lenV (x : Int) (w : World) (h0 : 0 ≤ x) (h1 : x ≤ 12) : Calls Try.prog 184 #[.int .u64 x] w fun e w' => (∃ z : Int, e = .returned (.int .i64 z)) ∧ w' = w := by
  have H := Lib.hid (fun w => len64V x w h0 h1)
  go_enter Try.func184, Try.ntmps184
  go_wp2_with fail
  refine (H.out _).mono ?_
  rintro e w1 ⟨⟨z, rfl⟩, rfl⟩
  go_wp2_with fail
  go_ret
  exact ⟨⟨_, rfl⟩, rfl⟩

set_option maxRecDepth 100000 in
set_option maxHeartbeats 2000000 in
theorem ins0V (A : Option Addr) (cap : Nat) (w : World) :
    Calls Try.prog 207 #[.slice A 0 cap, .int .i64 0, .int .i64 0] w fun e w' => e = .returned (.tuple #[]) ∧ w' = w := by
  go_enter Try.func207, Try.ntmps207
  go_wp2_with fail
  go_loopw [6] (fun i wr => i = .int .i64 1 ∧ wr = w) (fun _ _ => 0)
  case atStart => exact ⟨rfl, rfl⟩
  case round =>
    obtain ⟨rfl, rfl⟩ := hrel
    go_wp2_with fail
    go_end0
    exact ⟨rfl, rfl⟩

/-- How a sort ends. -/
def SrtP (B n cap : Nat) (A : Option Addr) (L : List Int) (w : World) (e : Ending) (w' : World) : Prop := e = .returned (.tuple #[]) ∧ ∃ M : List Int, M.Perm L ∧ leV M ∧ w'.ownsRow B TV 1 (.slice A n cap) n (varV M) ∧ w.grownBy w' (Value.ownBlock (.slice A n cap))

theorem ins_allV (B n cap : Nat) (A : Option Addr) (L : List Int) (w : World) (ho : w.ownsRow B TV 1 (.slice A n cap) n (varV L)) (hn : L.length = n) (hn2 : n ≤ 12) :
    Calls Try.prog 207 #[.slice A n cap, .int .i64 0, .int .i64 (n : Int)] w (SrtP B n cap A L w) := by
  rcases Nat.eq_zero_or_pos n with h0 | h0
  · subst h0
    obtain rfl := List.eq_nil_of_length_eq_zero hn
    refine (ins0V A cap w).mono ?_
    rintro e w' ⟨rfl, rfl⟩
    exact ⟨rfl, [], List.Perm.refl _, by simp [leV], ho, gr_refl _ _⟩
  · have ho2 := ho
    rcases ho2.2 with ⟨hv, hz⟩ | ⟨g, cap', cur, hv, _⟩
    · cases hv; omega
    · cases hv
      refine (insV B g n cap L w ho hn h0 (by omega)).mono ?_
      rintro e w' ⟨rfl, M, h1, h2, h3, h4⟩
      exact ⟨rfl, M, h1, h2, h3, h4⟩

set_option maxRecDepth 100000 in
set_option maxHeartbeats 4000000 in
theorem pdqV (B n cap : Nat) (A : Option Addr) (L : List Int) (z : Int) (w : World) (ho : w.ownsRow B TV 1 (.slice A n cap) n (varV L)) (hn : L.length = n) (hn2 : n ≤ 12) :
    Calls Try.prog 183 #[.slice A n cap, .int .i64 0, .int .i64 (n : Int), .int .i64 z] w (SrtP B n cap A L w) := by
  have HI := Lib.hid (ins_allV B n cap A L w ho hn hn2)
  have h12 : (n : Int) ≤ 12 := by omega
  clear ho hn
  go_enter Try.func183, Try.ntmps183
  go_wp2_with fail
  go_loopw [1, 2] (fun a b wr => a = .int .i64 0 ∧ b = .int .i64 (n : Int) ∧ wr = w) (fun _ _ _ => 0)
  case atStart => exact ⟨rfl, rfl, rfl⟩
  case round =>
    obtain ⟨rfl, rfl, rfl⟩ := hrel
    go_wp2_with fail
    refine HI.out.mono ?_
    rintro e w1 ⟨rfl, hp⟩
    have HP := Lib.hid hp
    clear hp
    go_wp2_with fail
    go_end0
    exact ⟨rfl, HP.out⟩

theorem sortV (B n cap : Nat) (A : Option Addr) (L : List Int) (w : World) (ho : w.ownsRow B TV 1 (.slice A n cap) n (varV L)) (hn : L.length = n) (hn2 : n ≤ 12) :
    Calls Try.prog 139 #[.slice A n cap] w (SrtP B n cap A L w) := by
  have HI := Lib.hid (fun z => pdqV B n cap A L z w ho hn hn2)
  have HLN := Lib.hid (fun w => lenV (n : Int) w (by omega) (by omega))
  have hw : IntKind.u64.wrap (n : Int) = (n : Int) := IntWalk.u64_in _ (by omega)
  clear ho hn
  go_enter Try.func139, Try.ntmps139
  go_wp2_with fail
  refine (HLN.out _).mono ?_
  rintro e w1 ⟨⟨z, rfl⟩, rfl⟩
  go_wp2_with fail
  refine (HI.out z).mono ?_
  rintro e w1 ⟨rfl, hp⟩
  have HP := Lib.hid hp
  clear hp
  go_wp2_with fail
  go_end0
  exact ⟨rfl, HP.out⟩

theorem setof_len {f : Int → Bool} {ss : List Int} (h : SetOf f ss) (hf : ∀ x, f x = true → x ∈ ([97, 98, 118, 119, 120, 121, 122] : List Int)) : ss.length ≤ 7 := nodup_le _ _ h.1 (fun x hx => hf x ((h.2 x).1 hx).2.2)

/-- slices.Sorted of a set's keys: a new row, the variables in ascending order. -/
theorem sortedV (bm b m : Nat) (f : Int → Bool) (w : World) (hs : VSet w b m f) (hf : ∀ x, f x = true → x ∈ ([97, 98, 118, 119, 120, 121, 122] : List Int)) (hbm : w.heap[bm]? = some (.cells #[.map (some b)] 84 (0, 0))) :
    Calls Try.prog 74 #[.func (.func 140) #[] #[.pointer (some ⟨bm, 0, none⟩)]] w fun e w' =>
      ∃ A n cap ss, e = .returned (.slice A n cap) ∧ SetOf f ss ∧ leV ss ∧ ss.length = n ∧ w.grownBy w' none ∧ w'.ownsRow w.heap.size TV 1 (.slice A n cap) n (varV ss) := by
  have HC := Lib.hid (collectV bm b m f w hs hf hbm)
  have HF := Lib.hid hf
  clear hs hf hbm
  go_enter Try.func74, Try.ntmps74
  go_wp2_with fail
  refine HC.out.mono ?_
  rintro e w1 ⟨sv, ss, rfl, h1, h2, h3⟩
  obtain ⟨A, n, cap, rfl⟩ := own_form h3
  obtain rfl : n = ss.length := by
    rcases h3.2 with ⟨hv, hz⟩ | ⟨g, cap', cur, hv, _⟩
    · cases hv; exact hz.symm
    · cases hv; rfl
  have HS := Lib.hid (sortV w.heap.size ss.length cap A ss w1 h3 rfl (by have := setof_len h1 HF.out; omega))
  have HP := Lib.hid (And.intro h1 (And.intro h2 h3))
  obtain ⟨n, hn⟩ : ∃ n, ss.length = n := ⟨_, rfl⟩
  rw [hn] at HS HP ⊢
  have HN := Lib.hid hn
  clear h1 h2 h3 hn
  go_wp2_with fail
  refine HS.out.mono ?_
  rintro e w2 ⟨rfl, M, p1, p2, p3, p4⟩
  have HQ := Lib.hid (And.intro p1 (And.intro p2 (And.intro p3 p4)))
  clear p1 p2 p3 p4
  go_wp2_with fail
  go_ret
  obtain ⟨p1, p2, p3, p4⟩ := HQ.out
  obtain ⟨h1, h2, h3⟩ := HP.out
  refine ⟨A, n, cap, M, rfl, ⟨p1.symm.nodup h1.1, fun x => ?_⟩, p2, by rw [p1.length_eq, HN.out], gr_rowV h2 p4 (fun k e => (h3.lt k e).1), p3⟩
  rw [← h1.2 x]
  exact p1.mem_iff
end

end Go.Proofs.Ytmofoeljajdhmaa
