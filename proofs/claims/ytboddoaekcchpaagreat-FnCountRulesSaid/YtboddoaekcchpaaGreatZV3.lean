/- 6 texts in one: SmpB SimI StF SSmP SSm StFS. -/
import Derived.Test.YtboddoaekcchpaaGreatSmp
import Derived.Test.YtboddoaekcchpaaGreatZV1
import Derived.Deep.LoopGhost
import Derived.Deep.WholeRow
import Derived.Test.YtboddoaekcchpaaGreatZV2
import Derived.Maps.AppendAt
import Derived.Test.YtboddoaekcchpaaGreatSTerm
import Derived.Deep.RegionHeld3
namespace Go.Proofs.YtboddoaekcchpaaGreat
/- SmpB -/
section

theorem simpF_fuel : ∀ (f g : Nat) (t : Tm), t.Ok → t.size ≤ f → t.size ≤ g → simpF f t = simpF g t
  | 0, _, t, _, h, _ => by have := t.size_pos; omega
  | _ + 1, 0, t, _, _, h => by have := t.size_pos; omega
  | f + 1, g + 1, t, ho, hf, hg => by
    have hp : simpP f t = simpP g t := by
      cases t with
      | dig c => rfl
      | var c => rfl
      | pre c s => simp only [Tm.size] at hf hg; simp only [simpP]; rw [simpF_fuel f g s ho.2 (by omega) (by omega)]
      | two c s u =>
        simp only [Tm.size] at hf hg; have := s.size_pos; have := u.size_pos; simp only [simpP]
        rw [simpF_fuel f g s ho.2.1 (by omega) (by omega), simpF_fuel f g u ho.2.2 (by omega) (by omega)]
      | loop c v s u =>
        simp only [Tm.size] at hf hg; have := s.size_pos; have := u.size_pos; simp only [simpP]
        rw [simpF_fuel f g s ho.2.2.1 (by omega) (by omega), simpF_fuel f g u ho.2.2.2 (by omega) (by omega)]
    have hk : (simpP g t).1.Ok ∧ (simpP g t).1.size ≤ t.size := by
      cases t with
      | dig c => exact ⟨ho, Nat.le_refl _⟩
      | var c => exact ⟨ho, Nat.le_refl _⟩
      | pre c s => have h1 := simpF_ok g s ho.2; exact ⟨⟨ho.1, h1.1⟩, by have := h1.2.1; simp only [simpP, Tm.size]; omega⟩
      | two c s u =>
        have h1 := simpF_ok g s ho.2.1; have h2 := simpF_ok g u ho.2.2
        exact ⟨⟨ho.1, h1.1, h2.1⟩, by have := h1.2.1; have := h2.2.1; simp only [simpP, Tm.size]; omega⟩
      | loop c v s u =>
        have h1 := simpF_ok g s ho.2.2.1; have h2 := simpF_ok g u ho.2.2.2
        exact ⟨⟨ho.1, ho.2.1, h1.1, h2.1⟩, by have := h1.2.1; have := h2.2.1; simp only [simpP, Tm.size]; omega⟩
    obtain ⟨r1, r2, r3, r4, r5, r6⟩ := rul_ok hk.1
    rw [simpF_succ, simpF_succ, hp]
    split
    · rfl
    · rename_i hr
      have := r6 hr
      rw [simpF_fuel f g _ r1 (by omega) (by omega)]

/-- What is left of a term, and how often rules are used. -/
def smp (t : Tm) : Tm := (simpF 80 t).1
def smpL (t : Tm) : List Nat := (simpF 80 t).2
theorem smp_ok {t : Tm} (ho : t.Ok) : (smp t).Ok ∧ (smp t).size + (smpL t).length ≤ t.size ∧ (smp t).txt.length ≤ t.txt.length ∧ (∀ j ∈ smpL t, 1 ≤ j ∧ j ≤ 6) ∧ (smpL t = [] → smp t = t) := simpF_ok 80 t ho
theorem txt_inj {t q : Tm} (ht : t.Ok) (hq : q.Ok) (h : t.txt = q.txt) (hl : t.txt.length ≤ 80) : t = q := by
  have e1 : (ByteArray.mk t.txt.toArray).data.toList = t.txt := by simp
  have e2 : (ByteArray.mk t.txt.toArray).data.toList = q.txt := by simp [h]
  have hs : (ByteArray.mk t.txt.toArray).size ≤ 80 := by simp [ByteArray.size]; exact hl
  have h1 := readT_back ht e1 hs
  have h2 := readT_back hq e2 hs
  rw [h1] at h2
  cases h2
  rfl
/-- A term is left as it is exactly if no rule is used. -/
theorem smp_same {t : Tm} (ho : t.Ok) (hl : t.txt.length ≤ 80) : (smp t).txt = t.txt ↔ smpL t = [] := by
  obtain ⟨h1, h2, h3, h4, h5⟩ := smp_ok ho
  constructor
  · intro h
    have := txt_inj h1 ho h (by omega)
    rw [this] at h2
    exact List.eq_nil_of_length_eq_zero (by omega)
  · intro h
    rw [h5 h]
theorem smpL_parts {t : Tm} (ho : t.Ok) (hs : t.size ≤ 80) (h : smpL t = []) : (∀ k ∈ t.kids, smpL k = []) ∧ (rul t).1 = 0 := by
  unfold smpL at h
  rw [simpF_succ] at h
  split at h
  case isFalse => simp at h
  case isTrue hr =>
    have hst : ∀ k ∈ t.kids, k.size ≤ 79 ∧ k.Ok := by
      intro k hk
      cases t with
      | dig c => cases hk
      | var c => cases hk
      | pre c s => simp [Tm.kids] at hk; subst hk; simp only [Tm.size] at hs; exact ⟨by omega, ho.2⟩
      | two c s u =>
        simp only [Tm.size] at hs; have := s.size_pos; have := u.size_pos
        simp [Tm.kids] at hk
        rcases hk with rfl | rfl
        · exact ⟨by omega, ho.2.1⟩
        · exact ⟨by omega, ho.2.2⟩
      | loop c v s u =>
        simp only [Tm.size] at hs; have := s.size_pos; have := u.size_pos
        simp [Tm.kids] at hk
        rcases hk with rfl | rfl
        · exact ⟨by omega, ho.2.2.1⟩
        · exact ⟨by omega, ho.2.2.2⟩
    have hk79 : ∀ k ∈ t.kids, (simpF 79 k).2 = [] := by
      intro k hk
      cases t with
      | dig c => cases hk
      | var c => cases hk
      | pre c s => simp [Tm.kids] at hk; subst hk; exact h
      | two c s u =>
        simp only [simpP, List.append_eq_nil_iff] at h
        simp [Tm.kids] at hk
        rcases hk with rfl | rfl
        · exact h.1
        · exact h.2
      | loop c v s u =>
        simp only [simpP, List.append_eq_nil_iff] at h
        simp [Tm.kids] at hk
        rcases hk with rfl | rfl
        · exact h.1
        · exact h.2
    refine ⟨fun k hk => ?_, ?_⟩
    · unfold smpL
      rw [simpF_fuel 80 79 k (hst k hk).2 (by have := (hst k hk).1; omega) (hst k hk).1]
      exact hk79 k hk
    · have : (simpP 79 t).1 = t := by
        cases t with
        | dig c => rfl
        | var c => rfl
        | pre c s => simp only [simpP]; rw [(simpF_ok 79 s ho.2).2.2.2.2 (hk79 s (by simp [Tm.kids]))]
        | two c s u => simp only [simpP]; rw [(simpF_ok 79 s ho.2.1).2.2.2.2 (hk79 s (by simp [Tm.kids])), (simpF_ok 79 u ho.2.2).2.2.2.2 (hk79 u (by simp [Tm.kids]))]
        | loop c v s u => simp only [simpP]; rw [(simpF_ok 79 s ho.2.2.1).2.2.2.2 (hk79 s (by simp [Tm.kids])), (simpF_ok 79 u ho.2.2.2).2.2.2.2 (hk79 u (by simp [Tm.kids]))]
      rw [this] at hr
      exact hr

/-- How often a rule stands in a list, counted on from a number. -/
def cntL (c : Nat → Nat) (l : List Nat) : Nat → Nat := fun j => c j + l.count j
theorem cntL_nil (c : Nat → Nat) : cntL c [] = c := by funext j; simp [cntL]
theorem cntL_app (c : Nat → Nat) (l m : List Nat) : cntL (cntL c l) m = cntL c (l ++ m) := by funext j; simp [cntL, List.count_append, Nat.add_assoc]
theorem cntL_one (c : Nat → Nat) (r : Nat) : cntL c [r] = fun j => if j = r then c j + 1 else c j := by
  funext j
  by_cases h : j = r
  · subst h; simp [cntL]
  · have : ¬ r = j := fun e => h e.symm
    simp [cntL, h, this]
/-- How often each rule is used. -/
def cnt7 (l : List Nat) : List Int := (List.range 7).map fun j => ((cntL (fun _ => 0) l j : Nat) : Int)
end

/- SimI -/
section
open Go.RowKit

abbrev TSm : TypeId := 78
abbrev FSM : Nat := 40
def pv7 (P : List Int) : Array Value := (P.map (Value.int .i64)).toArray
/-- A block that holds the array of counts. -/
def A7 (w : World) (g : Nat) (P : List Int) : Prop := w.heap[g]? = some (.cells (pv7 P) TSm (0, 0)) ∧ P.length = 7
theorem gr_sm {w w' : World} {g : Nat} (h : w.grownBy w' none) : w.grownBy w' (some g) := ⟨h.os, h.tape, h.output, h.size, fun k hk _ => h.block k hk (by simp)⟩
theorem A7.grown {w w' : World} {g : Nat} {P : List Int} (h : A7 w g P) (hg : w.grownBy w' none) : A7 w' g P := ⟨(hg.block g (blk_lt h.1) (by simp)).trans h.1, h.2⟩
theorem A7.cell {w : World} {g : Nat} {P : List Int} (h : A7 w g P) {j : Nat} {x : Int} (hj : P[j]? = some x) : w.cell? ⟨g, j, none⟩ = some (.int .i64 x) := by
  rw [cell_of_row w g j _ _ (0, 0) h.1]
  simp [pv7, hj]
theorem A7.frozen {w : World} {g : Nat} {P : List Int} (h : A7 w g P) (j : Nat) : w.frozen? ⟨g, j, none⟩ = false := by
  have := h.1
  simp [World.frozen?, this]
theorem A7.set {w : World} {g : Nat} {P : List Int} (h : A7 w g P) (j : Nat) (x : Int) : A7 (w.setCell ⟨g, j, none⟩ (.int .i64 x)) g (P.set j x) := by
  refine ⟨?_, by rw [List.length_set]; exact h.2⟩
  rw [heap_setCell_same w g j (pv7 P) TSm (.int .i64 x) h.1]
  simp [pv7, List.map_set]

theorem wrap_one (x : Int) : IntKind.i64.wrap (IntKind.i64.wrap x + 1) = IntKind.i64.wrap (x + 1) := by
  have h64 : (2 : Int) ^ (64 : Nat) = 18446744073709551616 := by decide
  have h63 : (2 : Int) ^ (63 : Nat) = 9223372036854775808 := by decide
  have key : ∀ n : Int, IntKind.i64.wrap n = if n % 18446744073709551616 ≥ 9223372036854775808 then n % 18446744073709551616 - 18446744073709551616 else n % 18446744073709551616 := by
    intro n
    unfold IntKind.wrap
    show (if (true && decide (n % (2 : Int) ^ (64 : Nat) ≥ (2 : Int) ^ (63 : Nat))) = true then n % (2 : Int) ^ (64 : Nat) - (2 : Int) ^ (64 : Nat) else n % (2 : Int) ^ (64 : Nat)) = _
    rw [h64, h63]
    simp
  rw [key (IntKind.i64.wrap x + 1), key x, key (x + 1)]
  (repeat' split) <;> omega

/-- The array says how often each rule stands in a list. -/
def CI (g : Nat) (l : List Nat) (w : World) : Prop := ∃ P, A7 w g P ∧ ∀ j : Nat, j < 7 → P[j]? = some (IntKind.i64.wrap ((l.count j : Nat) : Int))
theorem CI.grown {g : Nat} {l : List Nat} {w w' : World} (h : CI g l w) (hg : w.grownBy w' none) : CI g l w' := by
  obtain ⟨P, h1, h2⟩ := h
  exact ⟨P, h1.grown hg, h2⟩
theorem CI.cell {g : Nat} {l : List Nat} {w : World} (h : CI g l w) {r : Nat} (hr : r < 7) : w.cell? ⟨g, r, none⟩ = some (.int .i64 (IntKind.i64.wrap ((l.count r : Nat) : Int))) := by
  obtain ⟨P, h1, h2⟩ := h
  exact h1.cell (h2 r hr)
theorem CI.frozen {g : Nat} {l : List Nat} {w : World} (h : CI g l w) (r : Nat) : w.frozen? ⟨g, r, none⟩ = false := by
  obtain ⟨P, h1, _⟩ := h
  exact h1.frozen r
theorem CI.up {g : Nat} {l : List Nat} {w : World} (h : CI g l w) {r : Nat} (hr : r < 7) : CI g (l ++ [r]) (w.setCell ⟨g, r, none⟩ (.int .i64 (IntKind.i64.wrap ((l.count r : Nat) + 1 : Int)))) := by
  obtain ⟨P, h1, h2⟩ := h
  refine ⟨_, h1.set r _, fun j hj => ?_⟩
  rw [List.getElem?_set]
  by_cases hjr : r = j
  · subst hjr
    rw [if_pos rfl, if_pos (by rw [h1.2]; exact hr)]
    simp [List.count_append]
  · rw [if_neg hjr, h2 j hj]
    simp [List.count_append, hjr]
theorem chg_sm (g : Nat) : Chg FSM g (some g) (CI g) where
  enters := enters_of Tryz.func40 (by kernel_rfl) rfl
  grown := fun _ _ _ h hg => h.grown hg
  heap := fun _ _ _ g' _ ty h hg hty hh => by
    obtain ⟨P, h1, _⟩ := h
    refine (hg.block g' (blk_lt hh) (fun e => ?_)).trans hh
    cases e
    rw [h1.1] at hh
    cases hh
    rcases hty with h | h | h <;> exact absurd h (by decide)

theorem simpP_ok (f : Nat) {t : Tm} (ho : t.Ok) : (simpP f t).1.Ok ∧ (simpP f t).1.size ≤ t.size ∧ (simpP f t).1.txt.length ≤ t.txt.length := by
  cases t with
  | dig c => exact ⟨ho, Nat.le_refl _, Nat.le_refl _⟩
  | var c => exact ⟨ho, Nat.le_refl _, Nat.le_refl _⟩
  | pre c s =>
    obtain ⟨h1, h2, h3, _⟩ := simpF_ok f s ho.2
    exact ⟨⟨ho.1, h1⟩, by simp only [simpP, Tm.size]; omega, by simp only [simpP, Tm.txt, List.length_cons]; omega⟩
  | two c s u =>
    obtain ⟨h1, h2, h3, _⟩ := simpF_ok f s ho.2.1
    obtain ⟨g1, g2, g3, _⟩ := simpF_ok f u ho.2.2
    exact ⟨⟨ho.1, h1, g1⟩, by simp only [simpP, Tm.size]; omega, by simp only [simpP, Tm.txt, List.length_cons, List.length_append]; omega⟩
  | loop c v s u =>
    obtain ⟨h1, h2, h3, _⟩ := simpF_ok f s ho.2.2.1
    obtain ⟨g1, g2, g3, _⟩ := simpF_ok f u ho.2.2.2
    exact ⟨⟨ho.1, ho.2.1, h1, g1⟩, by simp only [simpP, Tm.size]; omega, by simp only [simpP, Tm.txt, List.length_cons, List.length_append]; omega⟩

/-- What simplified does at a bound. -/
def SmC (g j : Nat) : Prop := ∀ (s : Tm) (x : Value) (u : World) (l : List Nat), s.size ≤ j → s.Ok → s.txt.length ≤ 80 → CI g l u → PT u (fun _ => True) s x →
  Calls Tryz.prog FSM #[.pointer (some ⟨g, 0, none⟩), x] u (ChgP (some g) (CI g) (simpF j s).1 (l ++ (simpF j s).2) u)

theorem withp_sm (g j : Nat) (ih : SmC g j) (t : Tm) (x : Value) (l : List Nat) (w : World) (hs : t.size ≤ j + 1) (ho : t.Ok) (hl : t.txt.length ≤ 80) (hi : CI g l w) (h : PT w (fun _ => True) t x) :
    Calls Tryz.prog 50 #[x, fv FSM g] w (ChgP (some g) (CI g) (simpP j t).1 (l ++ (simpP j t).2) w) := by
  cases t with
  | dig c =>
    cases h
    simp only [simpP, List.append_nil]
    exact withp_leaf FSM g (some g) _ (.dig c) l _ _ w rfl rfl rfl hi rfl
  | var c =>
    cases h
    simp only [simpP, List.append_nil]
    exact withp_leaf FSM g (some g) _ (.var c) l _ _ w rfl rfl rfl hi rfl
  | pre c s =>
    obtain ⟨b, y, rfl, _, hh, hy⟩ := h
    simp only [Tm.size] at hs
    simp only [Tm.txt, List.length_cons] at hl
    exact withp_pre FSM g (some g) _ (chg_sm g) c s (simpF j s).1 l (simpF j s).2 b y w hi hh hy (fun u l hi hp => ih s y u l (by omega) ho.2 (by omega) hi hp)
  | two c s u =>
    obtain ⟨b, y, z, rfl, _, hh, hy, hz⟩ := h
    simp only [Tm.size] at hs
    simp only [Tm.txt, List.length_cons, List.length_append] at hl
    have := s.size_pos
    have := u.size_pos
    exact withp_two FSM g (some g) _ (chg_sm g) c s (simpF j s).1 u (simpF j u).1 l (simpF j s).2 (simpF j u).2 b y z w hi hh hy hz
      (fun u' l hi hp => ih s y u' l (by omega) ho.2.1 (by omega) hi hp) (fun u' l hi hp => ih u z u' l (by omega) ho.2.2 (by omega) hi hp)
  | loop c v s u =>
    obtain ⟨b, y, z, rfl, _, hh, hy, hz⟩ := h
    simp only [Tm.size] at hs
    simp only [Tm.txt, List.length_cons, List.length_append] at hl
    have := s.size_pos
    have := u.size_pos
    exact withp_loop FSM g (some g) _ (chg_sm g) c v s (simpF j s).1 u (simpF j u).1 l (simpF j s).2 (simpF j u).2 b y z w hi hh hy hz
      (fun u' l hi hp => ih s y u' l (by omega) ho.2.2.1 (by omega) hi hp) (fun u' l hi hp => ih u z u' l (by omega) ho.2.2.2 (by omega) hi hp)

set_option maxRecDepth 100000 in
set_option maxHeartbeats 4000000 in
theorem sm_step (g f : Nat) (ih : ∀ j, j < f → SmC g j) : SmC g f := by
  intro t x w l hs ho hl hi h
  have HIH := Lib.hid ih
  obtain ⟨R, hR⟩ : ∃ R, simpF f t = R := ⟨_, rfl⟩
  rw [hR]
  have H0 : Hid (CI g l w ∧ PT w (fun _ => True) t x ∧ t.Ok ∧ t.txt.length ≤ 80 ∧ t.size ≤ f ∧ simpF f t = R) := Lib.hid ⟨hi, h, ho, hl, hs, hR⟩
  clear ih hs ho hl hi h hR
  go_enter Tryz.func40, Tryz.ntmps40
  go_wp2_with fail
  go_loopg [1] f (fun k p wr => ∃ (t' : Tm) (l' : List Nat), k ≤ f ∧ Hid (CI g l' wr ∧ PT wr (fun _ => True) t' p ∧ t'.Ok ∧ t'.txt.length ≤ 80 ∧ t'.size ≤ k ∧ (simpF k t').1 = R.1 ∧ l' ++ (simpF k t').2 = l ++ R.2) ∧ Hid (w.grownBy wr (some g)))
  case atStart => exact ⟨t, l, Nat.le_refl _, Lib.hid ⟨H0.out.1, H0.out.2.1, H0.out.2.2.1, H0.out.2.2.2.1, H0.out.2.2.2.2.1, by rw [H0.out.2.2.2.2.2], by rw [H0.out.2.2.2.2.2]⟩, Lib.hid (gr_refl _ _)⟩
  case round =>
    obtain ⟨t', l', hk, hh, hgr⟩ := hrel
    obtain ⟨j, hj⟩ : ∃ j, gk = j + 1 := by
      have := hh.out.2.2.2.2.1
      have := t'.size_pos
      exact ⟨gk - 1, by omega⟩
    subst hj
    have hh := hh.out
    obtain ⟨hci, hpt, hok, hlen, hsz, he1, he2⟩ := hh
    obtain ⟨ty, pv, rfl⟩ := hpt.iface
    have HW := Lib.hid (withp_sm g j (HIH.out j (by omega)) t' _ l' wr hsz hok hlen hci hpt)
    have hpo := simpP_ok j hok
    have HPO := Lib.hid hpo
    have HE1 := Lib.hid he1
    have HE2 := Lib.hid he2
    have HLEN := Lib.hid hlen
    have HSZ := Lib.hid hsz
    clear hci hpt hok hlen hsz he1 he2 hpo
    go_wp2_with fail
    refine HW.out.mono ?_
    rintro e w1 ⟨v1, rfl, hg1, hp1, hi1⟩
    obtain ⟨t1, p1, rfl⟩ := hp1.iface
    have HG1 := Lib.hid (hgr.out.trans hg1)
    have HI1 := Lib.hid hi1
    have HF := Lib.hid (first_any (simpP j t').1 _ t1 p1 w1 HPO.out.1 (Nat.le_trans HPO.out.2.2 HLEN.out) hp1)
    clear hg1 hp1 hi1
    go_wp2_with fail
    refine HF.out.mono ?_
    rintro e w2 ⟨t2, p2, rfl, hg2, hp2⟩
    have HG2 := Lib.hid (HG1.out.trans (gr_sm hg2))
    have HI2 := Lib.hid (HI1.out.grown hg2)
    have HP2 := Lib.hid hp2
    have hro := rul_ok HPO.out.1
    have HRO := Lib.hid hro
    have hr6 := hro.2.2.2.1
    obtain ⟨r, hr⟩ : ∃ r, (rul (simpP j t').1).1 = r := ⟨_, rfl⟩
    rw [hr] at hr6
    have HRR := Lib.hid hr
    simp only [hr]
    clear hg2 hp2 hro hr
    by_cases h0 : r = 0
    · subst h0
      have HFIN : Hid (simpF (j + 1) t' = simpP j t') := Lib.hid (by rw [simpF_succ, if_pos HRR.out])
      go_wp2_with fail
      go_ret
      refine ⟨_, rfl, HG2.out, ?_, ?_⟩
      · rw [← HE1.out, HFIN.out]
        have := HP2.out
        rw [HRO.out.2.2.2.2.1 HRR.out] at this
        exact this
      · rw [← HE2.out, HFIN.out]
        exact HI2.out
    · have hr0 : ((r : Int) == 0) = false := by rw [beq_eq_false_iff_ne]; omega
      have hi0 : (0 : Int) ≤ (r : Int) := by omega
      have hi7 : (r : Int) < 7 := by omega
      have hcell := HI2.out.cell (r := r) (by omega)
      have hfr := HI2.out.frozen r
      have hwr := wrap_one (((l' ++ (simpP j t').2).count r : Nat) : Int)
      have HUP := Lib.hid (HI2.out.up (r := r) (by omega))
      obtain ⟨d, hd⟩ : ∃ d, IntKind.i64.wrap (((l' ++ (simpP j t').2).count r : Nat) : Int) = d := ⟨_, rfl⟩
      obtain ⟨d2, hd2⟩ : ∃ d2, IntKind.i64.wrap ((((l' ++ (simpP j t').2).count r : Nat) : Int) + 1) = d2 := ⟨_, rfl⟩
      rw [hd] at hcell hwr
      rw [hd2] at hwr HUP
      clear hd hd2
      have HFIN : Hid (simpF (j + 1) t' = ((simpF j (rul (simpP j t').1).2).1, (simpP j t').2 ++ (r :: (simpF j (rul (simpP j t').1).2).2))) := Lib.hid (by rw [simpF_succ, if_neg (by rw [HRR.out]; exact h0), HRR.out])
      have HSM : Hid ((rul (simpP j t').1).2.size ≤ j) := Lib.hid (by
        have h1 := HRO.out.2.2.2.2.2 (by rw [HRR.out]; exact h0)
        have h2 := HPO.out.2.1
        have h3 := HSZ.out
        omega)
      clear h0
      go_wp2_with fail
      go_region
      all_goals
        go_wp2_with fail
      all_goals
        go_roundg j
        case measure => omega
        case rel =>
          refine ⟨(rul (simpP j t').1).2, (l' ++ (simpP j t').2) ++ [r], by omega, Lib.hid ⟨HUP.out.grown (gr_drewN _ 1 none), ?_, HRO.out.1, Nat.le_trans HRO.out.2.2.1 (Nat.le_trans HPO.out.2.2 HLEN.out), HSM.out, ?_, ?_⟩, Lib.hid ?_⟩
          · exact ((chg_sm g).keep HI2.out (gr_set w2 g r _) HP2.out).grown (gr_drewN _ 1 none)
          · rw [← HE1.out, HFIN.out]
          · rw [← HE2.out, HFIN.out]; simp
          · exact (HG2.out.trans (gr_set w2 g r _)).trans (gr_drewN _ 1 _)

theorem sm_any (g : Nat) : ∀ f, SmC g f := fun f => by
  induction f using Nat.strongRecOn with
  | _ f ih => exact sm_step g f ih
end

/- StF -/
section
open Go.RowKit

/-- What SimplifyTerm answers; what IsSimple answers. -/
def sterm9T (s : ByteArray) : ByteArray := match readT s with
  | some t => bytesOf (smp t).txt
  | none => ⟨#[]⟩
def sterm9B (s : ByteArray) : Bool := (readT s).isSome
def simp9A (s : ByteArray) : Bool := sterm9B s && ((sterm9T s).toList == s.toList)

theorem zeroSm : (∀ w, (zeroValue TSm).run Tryz.prog w = .ok (.agg (Array.replicate 7 (.int .i64 0))) w) ∧ (Tryz.prog.info? TSm).map (·.size) = some 7 := zero_of_info (by kernel_rfl)
theorem ci_new (w : World) : CI w.heap.size [] (w.alloc (.cells (Array.replicate 7 (.int .i64 0)) TSm)) := by
  refine ⟨List.replicate 7 0, ⟨heap_alloc_new w _, rfl⟩, fun j hj => ?_⟩
  rw [List.getElem?_replicate, if_pos hj]
  rfl

set_option maxRecDepth 100000 in
set_option maxHeartbeats 2000000 in
theorem sterm9_impl (s : ByteArray) (w : World) :
    Calls Tryz.prog 16 #[.string s] w (PairP (sterm9T s) (sterm9B s) w) := by
  have H := Lib.hid (term_any s w)
  have hzero : ∀ w, (zeroValue 78).run Tryz.prog w = .ok (.agg (Array.replicate 7 (.int .i64 0))) w := zeroSm.1
  obtain ⟨z, hz⟩ : ∃ z, sterm9T s = z := ⟨_, rfl⟩
  obtain ⟨b, hb⟩ : ∃ b, sterm9B s = b := ⟨_, rfl⟩
  rw [hz, hb]
  have HZ := Lib.hid hz
  have HB := Lib.hid hb
  clear hb hz
  go_enter Tryz.func16, Tryz.ntmps16
  go_wp2_with fail
  refine H.out.mono ?_
  intro e w1 hp
  unfold TermPost at hp
  have hb := HB.out
  have hz := HZ.out
  unfold sterm9B at hb
  unfold sterm9T at hz
  cases hr : readT s with
  | none =>
    rw [hr] at hp hb hz
    simp only [Option.isSome_none] at hb
    subst hb hz
    obtain ⟨rfl, hg⟩ := hp
    have HG := Lib.hid hg
    clear hg hr
    go_wp2_with fail
    go_ret2
    exact ⟨rfl, HG.out⟩
  | some t =>
    rw [hr] at hp hb hz
    simp only [Option.isSome_some] at hb
    subst hb
    obtain ⟨v, rfl, hg, ha⟩ := hp
    obtain ⟨ty, pv, rfl⟩ := ha.iface
    have HG := Lib.hid hg
    have hbd := readT_bd hr
    obtain ⟨x1, hx1⟩ : ∃ x, w1.alloc (.cells (Array.replicate 7 (.int .i64 0)) TSm) = x := ⟨_, rfl⟩
    obtain ⟨n1, hn1⟩ : ∃ n, w1.heap.size = n := ⟨_, rfl⟩
    have gx1 : w1.grownBy x1 none := by rw [← hx1]; exact World.grownBy_alloc _ _ _
    have hci : CI n1 [] x1 := by rw [← hx1, ← hn1]; exact ci_new w1
    have HSM := Lib.hid (sm_any n1 80 t _ x1 [] hbd.2.2 hbd.1 hbd.2.1 hci (ha.any.grown gx1))
    have hsz : w.heap.size ≤ n1 := by rw [← hn1]; exact hg.size
    have HSZ := Lib.hid hsz
    have HGX := Lib.hid (hg.trans gx1)
    have hso := smp_ok hbd.1
    have HOK := Lib.hid hso.1
    have HLN : Hid ((smp t).txt.length ≤ 50000000) := Lib.hid (by have := hso.2.2.1; have := hbd.2.1; omega)
    have HZT : Hid (bytesOf (smp t).txt = z) := Lib.hid hz
    clear hg ha hr hz hbd hso gx1 hci hsz
    go_wp2_with fail
    refine HSM.out.mono ?_
    rintro e w2 ⟨v2, rfl, hg2, hp2, _⟩
    obtain ⟨t2, p2, rfl⟩ := hp2.iface
    have HG2 := Lib.hid (gr_new HGX.out hg2 HSZ.out)
    have HTX := Lib.hid (textof_any (smp t) _ t2 p2 w2 HOK.out hp2 HLN.out)
    rw [HZT.out] at HTX
    clear hg2 hp2
    go_wp2_with fail
    refine HTX.out.mono ?_
    rintro e w3 ⟨rfl, hg3⟩
    have HG3 := Lib.hid (HG2.out.trans hg3)
    clear hg3
    go_wp2_with fail
    go_ret2
    exact ⟨rfl, HG3.out⟩

set_option maxRecDepth 100000 in
set_option maxHeartbeats 2000000 in
theorem simp9_impl (s : ByteArray) (w : World) :
    Calls Tryz.prog 18 #[.string s] w fun e w' => e = .returned (.bool (simp9A s)) ∧ w.grownBy w' none := by
  have H := Lib.hid (sterm9_impl s w)
  unfold PairP at H
  unfold simp9A
  generalize sterm9T s = z at H ⊢
  generalize sterm9B s = b at H ⊢
  go_enter Tryz.func18, Tryz.ntmps18
  go_wp2_with fail
  refine H.out.mono ?_
  rintro e w1 ⟨rfl, hg1⟩
  have HG1 := Lib.hid hg1
  clear hg1
  cases b
  · go_wp2_with fail
    go_ret
    exact ⟨rfl, HG1.out⟩
  · go_wp2_with fail
    go_ret
    exact ⟨rfl, HG1.out⟩
end

/- SSmP -/
section
open Go.RowKit

abbrev TCo : TypeId := 125
abbrev FSS : Nat := 61

theorem ty_ne {w : World} {b c : Nat} {cs cs' : Array Value} {ty ty' : TypeId} {f f' : Nat × Nat} (h : w.heap[b]? = some (.cells cs ty f)) (h' : w.heap[c]? = some (.cells cs' ty' f')) (hne : ty ≠ ty') : b ≠ c := by
  intro e
  subst e
  rw [h] at h'
  simp only [Option.some.injEq, Obj.cells.injEq] at h'
  exact hne h'.2.1
/-- The counter in memory: what is pointed to, and the row of counts. -/
structure CS (cp cg : Nat) (l : List Nat) (w : World) : Prop where
  ptr : w.heap[cp]? = some (.cells #[.slice (some ⟨cg, 0, none⟩) 7 7] TCo (0, 0))
  row : ∃ P : List Int, w.heap[cg]? = some (.cells (pv7 P) 3 (0, 0)) ∧ P.length = 7 ∧ ∀ j : Nat, j < 7 → P[j]? = some (IntKind.i64.wrap ((l.count j : Nat) : Int))
theorem CS.kept {cp cg : Nat} {l : List Nat} {w w' : World} (h : CS cp cg l w) (h1 : w'.heap[cp]? = w.heap[cp]?) (h2 : w'.heap[cg]? = w.heap[cg]?) : CS cp cg l w' := by
  obtain ⟨P, p1, p2, p3⟩ := h.row
  exact ⟨h1.trans h.ptr, P, h2.trans p1, p2, p3⟩
theorem CS.ltp {cp cg : Nat} {l : List Nat} {w : World} (h : CS cp cg l w) : cp < w.heap.size := blk_lt h.ptr
theorem CS.ltg {cp cg : Nat} {l : List Nat} {w : World} (h : CS cp cg l w) : cg < w.heap.size := by
  obtain ⟨P, p1, _⟩ := h.row
  exact blk_lt p1
theorem CS.grown {cp cg : Nat} {l : List Nat} {w w' : World} (h : CS cp cg l w) (hg : w.grownBy w' none) : CS cp cg l w' := h.kept (hg.block cp h.ltp (by simp)) (hg.block cg h.ltg (by simp))
theorem CS.cell {cp cg : Nat} {l : List Nat} {w : World} (h : CS cp cg l w) {r : Nat} (hr : r < 7) : w.cell? ⟨cg, r, none⟩ = some (.int .i64 (IntKind.i64.wrap ((l.count r : Nat) : Int))) := by
  obtain ⟨P, p1, p2, p3⟩ := h.row
  rw [cell_of_row w cg r _ _ (0, 0) p1]
  simp [pv7, p3 r hr]
theorem CS.frozen {cp cg : Nat} {l : List Nat} {w : World} (h : CS cp cg l w) (r : Nat) : w.frozen? ⟨cg, r, none⟩ = false := by
  obtain ⟨P, p1, _⟩ := h.row
  simp [World.frozen?, p1]
theorem CS.slot {cp cg : Nat} {l : List Nat} {w : World} (h : CS cp cg l w) : w.cell? ⟨cp, 0, none⟩ = some (.slice (some ⟨cg, 0, none⟩) 7 7) := cell_of_row w cp 0 _ _ (0, 0) h.ptr
theorem CS.nepg {cp cg : Nat} {l : List Nat} {w : World} (h : CS cp cg l w) : cp ≠ cg := by
  obtain ⟨P, p1, _⟩ := h.row
  exact ty_ne h.ptr p1 (by decide)
theorem CS.up {cp cg : Nat} {l : List Nat} {w : World} (h : CS cp cg l w) {r : Nat} (hr : r < 7) : CS cp cg (l ++ [r]) (w.setCell ⟨cg, r, none⟩ (.int .i64 (IntKind.i64.wrap ((l.count r : Nat) + 1 : Int)))) := by
  have hne := h.nepg
  obtain ⟨P, p1, p2, p3⟩ := h.row
  refine ⟨((gr_set w cg r _).block cp h.ltp (by simp; exact hne)).trans h.ptr, P.set r (IntKind.i64.wrap ((l.count r : Nat) + 1 : Int)), ?_, by rw [List.length_set]; exact p2, fun j hj => ?_⟩
  · rw [heap_setCell_same w cg r (pv7 P) 3 _ p1]
    simp [pv7, List.map_set]
  · rw [List.getElem?_set]
    by_cases hjr : r = j
    · subst hjr
      rw [if_pos rfl, if_pos (by rw [p2]; exact hr)]
      simp [List.count_append]
    · rw [if_neg hjr, p3 j hj]
      simp [List.count_append, hjr]
theorem CS.nec {cp cg b : Nat} {l : List Nat} {w : World} {x y z : Value} (h : CS cp cg l w) (hc : C3 w b x y z TN) : b ≠ cg ∧ b ≠ cp := by
  obtain ⟨P, p1, _⟩ := h.row
  have h3 : w.heap[b]? = some (.cells #[x, y, z] TN (0, 0)) := hc
  exact ⟨ty_ne h3 p1 (by decide), ty_ne h3 h.ptr (by decide)⟩
theorem CS.ner {cp cg n base : Nat} {l : List Nat} {w : World} {sv : Value} {xs : List Value} (h : CS cp cg l w) (ho : w.ownsRow base TN 3 sv n xs) {g : Nat} (hg : sv.ownBlock = some g) : g ≠ cg ∧ g ≠ cp := by
  obtain ⟨cur, hcur⟩ := own_type ho hg
  obtain ⟨P, p1, _⟩ := h.row
  exact ⟨ty_ne hcur p1 (by decide), ty_ne hcur h.ptr (by decide)⟩
/-- What stays while counts are written. -/
theorem C3.keepc {cp cg b : Nat} {l : List Nat} {w w' : World} {x y z : Value} (hc : C3 w b x y z TN) (h : CS cp cg l w) (hg : w.grownBy w' (some cg)) : C3 w' b x y z TN := hc.grown hg (by simp; exact (h.nec hc).1)
theorem SN.keepc {cp cg : Nat} {l : List Nat} {w w' : World} {S : Nat → Prop} {t : Tm} {x : Int × Int × Value} (hs : SN w S t x) (h : CS cp cg l w) (hg : w.grownBy w' (some cg)) : SN w' S t x := by
  obtain ⟨P, p1, _⟩ := h.row
  exact (hs.apart p1 (by decide)).keep (fun b hb hl => hg.block b hl (by simp; exact hb.2)) (fun b hb _ => hb.1) _ _
theorem gr_new2 {w w1 w2 : World} {c : Nat} {r : Option Nat} (h : w.grownBy w1 (some c)) (hg : w1.grownBy w2 r) (hr : ∀ b, r = some b → w.heap.size ≤ b) : w.grownBy w2 (some c) :=
  ⟨hg.os.trans h.os, hg.tape.trans h.tape, hg.output.trans h.output, Nat.le_trans h.size hg.size, fun k hk hn => (hg.block k (Nat.lt_of_lt_of_le hk h.size) (fun e => by have := hr k e.symm; omega)).trans (h.block k hk hn)⟩

/-- The parts simplified; which rules were used in the first of them. -/
def smK (f : Nat) (t : Tm) : List Tm := t.kids.map fun s => (simpF f s).1
def trK (f : Nat) (t : Tm) (j : Nat) : List Nat := ((t.kids.take j).map fun s => (simpF f s).2).flatten
theorem smK_len (f : Nat) (t : Tm) : (smK f t).length = t.kids.length := by simp [smK]
theorem trK_step {f : Nat} {t s : Tm} {j : Nat} (h : t.kids[j]? = some s) : trK f t (j + 1) = trK f t j ++ (simpF f s).2 := by
  unfold trK
  rw [List.take_add_one, h]
  simp
theorem trK_all (f : Nat) (t : Tm) : trK f t t.kids.length = (simpP f t).2 := by
  cases t <;> simp [trK, Tm.kids, simpP]
theorem smK_at {f : Nat} {t s : Tm} {j : Nat} (h : t.kids[j]? = some s) : (smK f t)[j]? = some (simpF f s).1 := by
  unfold smK
  rw [List.getElem?_map, h]
  rfl
theorem sm_made {w0 w : World} {S S' : Nat → Prop} {f : Nat} {t : Tm} {a b : Int} {sv sv' : Value} {ys : List (Int × Int × Value)} (h : SN w0 S t (a, b, sv))
    (ho : w.ownsRow 0 TN 3 sv' ys.length (flat3 ys)) (hS : ∀ g, sv'.ownBlock = some g → S' g) (ha : All2 (SN w S') (smK f t) ys) : SN w S' (simpP f t).1 (a, b, sv') := by
  cases t with
  | dig c =>
    obtain ⟨h1, h2, _⟩ := h
    cases ys with
    | nil => exact ⟨h1, h2, ho, hS⟩
    | cons y ys => cases ha
  | var c =>
    obtain ⟨h1, h2, _⟩ := h
    cases ys with
    | nil => exact ⟨h1, h2, ho, hS⟩
    | cons y ys => cases ha
  | pre c s =>
    obtain ⟨h1, h2, _⟩ := h
    match ys, ha, ho with
    | [y], ha, ho => exact ⟨h1, h2, y, ho, hS, ha.1⟩
  | two c s t =>
    obtain ⟨h1, h2, _⟩ := h
    match ys, ha, ho with
    | [y, z], ha, ho => exact ⟨h1, h2, y, z, ho, hS, ha.1, ha.2.1⟩
  | loop c i s t =>
    obtain ⟨h1, h2, _⟩ := h
    match ys, ha, ho with
    | [y, z], ha, ho => exact ⟨h1, h2, y, z, ho, hS, ha.1, ha.2.1⟩

/-- The state within the loop over the parts. -/
structure PS (S : Nat → Prop) (cp cg h0 : Nat) (wr wi : World) (f : Nat) (t : Tm) (a b : Int) (sv pv : Value) (l : List Nat) (j : Nat) (ys : List (Int × Int × Value)) : Prop where
  cn : C3 wi h0 (.int .u8 a) (.int .u8 b) sv TN
  cr : C3 wi (h0 + 1) (.int .u8 0) (.int .u8 0) (.slice none 0 0) TN
  row : wi.ownsRow wr.heap.size TN 3 pv j (flat3 ys)
  len : ys.length = j
  ks : All2 (SN wi (fun x => (S x ∨ h0 + 2 ≤ x) ∧ ∀ g, pv.ownBlock = some g → x ≠ g)) ((smK f t).take j) ys
  cs : CS cp cg (l ++ trK f t j) wi
  gr : wr.grownBy wi (some cg)
  hw : h0 + 2 ≤ wr.heap.size

theorem PS.push {S : Nat → Prop} {cp cg h0 f j : Nat} {wr wi w7 wq w8 : World} {t s : Tm} {a b a3 b3 : Int} {sv pv v8 : Value} {sv3 : Value} {l : List Nat} {ys : List (Int × Int × Value)}
    (p : PS S cp cg h0 wr wi f t a b sv pv l j ys) (hj : t.kids[j]? = some s) (hg7 : wi.grownBy w7 (some cg)) (hcs : CS cp cg (l ++ trK f t j ++ (simpF f s).2) w7)
    (hsn : SN w7 (fun x => (S x ∨ h0 + 2 ≤ x) ∧ ∀ g, pv.ownBlock = some g → x ≠ g) (simpF f s).1 (a3, b3, sv3)) (hgq : w7.grownBy wq none)
    (ho : w8.ownsRow wr.heap.size TN 3 v8 (j + 1) (flat3 ys ++ [.int .u8 a3, .int .u8 b3, sv3])) (hg8 : wq.grownBy w8 pv.ownBlock) (hat : v8.ownBlock = pv.ownBlock ∨ v8.ownBlock = some wq.heap.size) :
    PS S cp cg h0 wr w8 f t a b sv v8 l (j + 1) (ys ++ [(a3, b3, sv3)]) := by
  have hw := p.hw
  have hge : ∀ g, pv.ownBlock = some g → wr.heap.size ≤ g := fun g hg => (p.row.lt g hg).1
  have hcsq := hcs.grown hgq
  have hrow7 : ∀ g, pv.ownBlock = some g → g ≠ cg ∧ g ≠ cp := fun g hg => p.cs.ner p.row hg
  have hne : ∀ x, x < wr.heap.size → some x ≠ pv.ownBlock := fun x hx e => by have := hge x e.symm; omega
  have hcn := ((p.cn.keepc p.cs hg7).grown hgq (by simp)).grown hg8 (hne h0 (by omega))
  have hcr := ((p.cr.keepc p.cs hg7).grown hgq (by simp)).grown hg8 (hne (h0 + 1) (by omega))
  have hcs8 : CS cp cg (l ++ trK f t j ++ (simpF f s).2) w8 := hcsq.kept (hg8.block cp hcsq.ltp (fun e => (hrow7 cp e.symm).2 rfl)) (hg8.block cg hcsq.ltg (fun e => (hrow7 cg e.symm).1 rfl))
  have hmv : ∀ t' y, SN wq (fun x => (S x ∨ h0 + 2 ≤ x) ∧ ∀ g, pv.ownBlock = some g → x ≠ g) t' y → SN w8 (fun x => (S x ∨ h0 + 2 ≤ x) ∧ ∀ g, v8.ownBlock = some g → x ≠ g) t' y := fun t' y hy =>
    hy.keep (fun x hx hl => hg8.block x hl (fun e => hx.2 x e.symm rfl)) (fun x hx hl => ⟨hx.1, fun g hg => by
      rcases hat with e | e
      · exact hx.2 g (e ▸ hg)
      · rw [e] at hg; cases hg; omega⟩) t' y
  refine ⟨hcn, hcr, by rw [flat3_app]; exact ho, by rw [List.length_append, p.len]; rfl, ?_, by rw [trK_step hj, ← List.append_assoc]; exact hcs8, ?_, hw⟩
  · rw [← take_snoc5 (smK_at hj)]
    exact All2.snoc (hmv _ _ (hsn.grown hgq)) _ _ (all2_map (fun t' y hy => hmv t' y ((hy.keepc p.cs hg7).grown hgq)) p.ks)
  · exact gr_new2 ((p.gr.trans hg7).trans (gr_sm hgq)) hg8 (fun b hb => hge b hb)
end

/- SSm -/
section
open Go.RowKit

/-- How it ends. -/
def SSP (cp cg : Nat) (t' : Tm) (m : List Nat) (S : Nat → Prop) (w : World) (e : Ending) (w' : World) : Prop :=
  ∃ a b A k c, e = .returned (.agg #[.int .u8 a, .int .u8 b, .slice A k c]) ∧ w.grownBy w' (some cg) ∧ SN w' (fun x => S x ∨ w.heap.size ≤ x) t' (a, b, .slice A k c) ∧ CS cp cg m w'
/-- What it does at a bound. -/
def SsC (cp cg j : Nat) : Prop := ∀ (s : Tm) (a b : Int) (A : Option Addr) (k c : Nat) (u : World) (l : List Nat) (S : Nat → Prop), s.size ≤ j → s.Ok → s.txt.length ≤ 80 → (∀ x, S x → x < u.heap.size) → CS cp cg l u → SN u S s (a, b, .slice A k c) →
  Calls Tryz.prog FSS #[.pointer (some ⟨cp, 0, none⟩), .agg #[.int .u8 a, .int .u8 b, .slice A k c]] u (SSP cp cg (simpF j s).1 (l ++ (simpF j s).2) S u)

/-- The state at the head of the loop. -/
structure OS (S : Nat → Prop) (cp cg h0 k : Nat) (w wr : World) (R : Tm × List Nat) (l l' : List Nat) (t' : Tm) (a b : Int) (sv : Value) : Prop where
  cn : C3 wr h0 (.int .u8 a) (.int .u8 b) sv TN
  cr : C3 wr (h0 + 1) (.int .u8 0) (.int .u8 0) (.slice none 0 0) TN
  cs : CS cp cg l' wr
  sn : SN wr (fun x => S x ∨ h0 + 2 ≤ x) t' (a, b, sv)
  ok : t'.Ok
  len : t'.txt.length ≤ 80
  sz : t'.size ≤ k
  e1 : (simpF k t').1 = R.1
  e2 : l' ++ (simpF k t').2 = l ++ R.2
  gr : w.grownBy wr (some cg)
  hz : w.heap.size = h0
  hS : ∀ x, S x → x < h0

set_option maxRecDepth 100000 in
set_option maxHeartbeats 8000000 in
theorem ss_step (cp cg f : Nat) (ih : ∀ j, j < f → SsC cp cg j) : SsC cp cg f := by
  intro t a b A k c w l S hs ho hl hS hcs h
  obtain ⟨i0, hi0, hz0, hz1, hz2⟩ := info_parts infoNode
  have HIH := Lib.hid ih
  obtain ⟨R, hR⟩ : ∃ R, simpF f t = R := ⟨_, rfl⟩
  rw [hR]
  obtain ⟨h0, hh⟩ : ∃ h, w.heap.size = h := ⟨_, rfl⟩
  obtain ⟨w1, hw1⟩ : ∃ w1, w.alloc (.cells #[.int .u8 a, .int .u8 b, .slice A k c] TN) = w1 := ⟨_, rfl⟩
  have z1 : w1.heap.size = h0 + 1 := by rw [← hw1, World.size_alloc, hh]
  obtain ⟨w2, hw2⟩ : ∃ w2, w1.alloc (.cells #[.int .u8 0, .int .u8 0, .slice none 0 0] TN) = w2 := ⟨_, rfl⟩
  have g2 : w.grownBy w2 none := by rw [← hw2, ← hw1]; exact (World.grownBy_alloc _ _ none).trans (World.grownBy_alloc _ _ none)
  have H0 : Hid (OS S cp cg h0 f w w2 R l l t a b (.slice A k c)) := Lib.hid ⟨by rw [← hw2, ← hw1, ← hh]; exact (c3_new _ _ _ _ _).alloc _, by rw [← hw2, ← z1]; exact c3_new _ _ _ _ _, hcs.grown g2,
    (h.grown g2).keep (fun _ _ _ => rfl) (fun x hx _ => .inl hx) _ _, ho, hl, hs, by rw [hR], by rw [hR], gr_sm g2, hh, by rw [← hh]; exact hS⟩
  clear ih hs ho hl hS hcs h hR g2
  go_enter Tryz.func61, Tryz.ntmps61
  go_wp2_with fail
  go_loopg [5] f (fun kk p wr => ∃ (t' : Tm) (a' b' : Int) (A' : Option Addr) (k' c' : Nat) (l' : List Nat), kk ≤ f ∧ Hid (OS S cp cg h0 kk w wr R l l' t' a' b' (.slice A' k' c')))
  case atStart => exact ⟨t, a, b, A, k, c, l, Nat.le_refl _, H0⟩
  case round =>
    obtain ⟨t', a', b', A', k', c', l', hkk, hos⟩ := hrel
    obtain ⟨wo, rfl⟩ : ∃ x, x = wr := ⟨_, rfl⟩
    obtain ⟨jf, hjf⟩ : ∃ j, gk = j + 1 := by
      have := hos.out.sz
      have := t'.size_pos
      exact ⟨gk - 1, by omega⟩
    subst hjf
    obtain ⟨wa, hwa⟩ : ∃ wa, wo.alloc (.cells #[] TN) = wa := ⟨_, rfl⟩
    have gwa : wo.grownBy wa none := by rw [← hwa]; exact World.grownBy_alloc _ _ _
    have hlt1 := hos.out.cr.lt
    have P0 : Hid (PS S cp cg h0 wo wa jf t' a' b' (.slice A' k' c') (.slice (some ⟨wo.heap.size, 0, none⟩) 0 0) l' 0 []) := Lib.hid ⟨hos.out.cn.grown gwa (by simp), hos.out.cr.grown gwa (by simp), by
        have := World.ownsRow_made (base := wo.heap.size) (e := TN) (size := 3) wo #[] 0 (Nat.le_refl _) (by simp) (by simp)
        rw [hwa] at this
        exact this, rfl, trivial, by simpa [trK] using hos.out.cs.grown gwa, gr_sm gwa, by omega⟩
    have n2 := P0.out.cn.c2
    obtain ⟨xs, hox, hax⟩ := hos.out.sn.kids
    obtain ⟨hk, hkc, hrow⟩ := srow3 hox
    have hlen := All2.length _ _ hax
    have HKL := Lib.hid hk
    have HLEN := Lib.hid hlen
    have HROW := Lib.hid hrow
    have HA := Lib.hid hax
    have HOX := Lib.hid hox
    have hk2 : k' ≤ 2 := by have := kids_len t'; omega
    have HKS := Lib.hid (csum_kids t')
    clear hox hax hk hkc hrow hlen gwa
    go_wp2_with fail
    go_loopw [5, 14] (fun q i wr => ∃ (j : Nat) (PA : Option Addr) (pn pc : Nat) (ys : List (Int × Int × Value)), j ≤ k' ∧ i = .int .i64 j ∧ q = .slice PA pn pc ∧ Hid (PS S cp cg h0 wo wr jf t' a' b' (.slice A' k' c') (.slice PA pn pc) l' j ys)) (fun _ i _ => k' - (intOf i).toNat)
    case atStart => exact ⟨0, _, 0, 0, [], Nat.zero_le _, rfl, rfl, P0⟩
    case round =>
      obtain ⟨j, PA, pn, pc, ys, hj, rfl, rfl, hps⟩ := hrel
      by_cases hlt : j < k'
      · obtain ⟨gA, rfl, hgA, hcell⟩ := HROW.out (by omega)
        obtain ⟨tj, ⟨a2, b2, sv2⟩, htj, hxj, hpj⟩ := HA.out.get (j := j) (by have := HKL.out; omega)
        obtain ⟨A2, k2, c2, hsv⟩ := hpj.form
        simp only at hsv
        subst hsv
        obtain ⟨q0, q1, q2⟩ := hcell j _ hxj
        have hneA : gA ≠ cg := (hos.out.cs.ner HOX.out (g := gA) rfl).1
        have hc0 := hps.out.gr.cell q0 (by simp; exact hneA)
        have hc1 := hps.out.gr.cell q1 (by simp; exact hneA)
        have hc2 := hps.out.gr.cell q2 (by simp; exact hneA)
        have htok : tj.Ok := kids_ok' hos.out.ok (List.mem_of_getElem? htj)
        have htl : tj.txt.length ≤ 80 := Nat.le_trans (Tm.kids_ok hos.out.ok (List.mem_of_getElem? htj)).2 hos.out.len
        have hbd : tj.size ≤ jf := by
          have hst := csum_step htj
          have hlq := csum_take t'.kids (j + 1)
          have hks2 := HKS.out
          have hn3 := hos.out.sz
          omega
        obtain ⟨wp, hwp⟩ : ∃ wp, wr.alloc (.cells #[.int .u8 a2, .int .u8 b2, .slice A2 k2 c2] TN) = wp := ⟨_, rfl⟩
        obtain ⟨pz, hpz⟩ : ∃ pz, wr.heap.size = pz := ⟨_, rfl⟩
        have gwp : wr.grownBy wp none := by rw [← hwp]; exact World.grownBy_alloc _ _ _
        have CP := Lib.hid (show C3 wp pz (.int .u8 a2) (.int .u8 b2) (.slice A2 k2 c2) TN by rw [← hwp, ← hpz]; exact c3_new _ _ _ _ _)
        have hsnp : SN wp (fun x => (S x ∨ h0 + 2 ≤ x) ∧ x < wo.heap.size) tj (a2, b2, .slice A2 k2 c2) :=
          ((SN.keepc (hpj.keep (fun _ _ _ => rfl) (fun x hx hl => ⟨hx, hl⟩) _ _) hos.out.cs hps.out.gr)).grown gwp
        have hszp : wo.heap.size ≤ wp.heap.size := Nat.le_trans hps.out.gr.size gwp.size
        have HCALL := Lib.hid (HIH.out jf (by omega) tj a2 b2 A2 k2 c2 wp (l' ++ trK jf t' j) _ hbd htok htl (fun x hx => Nat.lt_of_lt_of_le hx.2 hszp) (hps.out.cs.grown gwp) hsnp)
        have HTJ := Lib.hid htj
        have HGP := Lib.hid gwp
        have HSZP := Lib.hid hszp
        have p0 := CP.out.c0
        have p1 := CP.out.c1
        have p2 := CP.out.c2
        clear htj hxj hpj q0 q1 q2 hcell gwp htok htl hbd hsnp hszp hneA
        go_wp2_with fail
        refine HCALL.out.mono ?_
        rintro e w7 ⟨a3, b3, A3, k3, c3, rfl, hg7, hsn7, hcs7⟩
        have HG7 := Lib.hid ((gr_sm HGP.out (g := cg)).trans hg7)
        have HCS7 := Lib.hid hcs7
        have hsn8 : SN w7 (fun x => (S x ∨ h0 + 2 ≤ x) ∧ ∀ g, (Value.slice PA pn pc).ownBlock = some g → x ≠ g) (simpF jf tj).1 (a3, b3, .slice A3 k3 c3) := hsn7.keep (fun _ _ _ => rfl) (fun x hx _ => by
          rcases hx with hx | hx
          · exact ⟨hx.1, fun g hg e => by have := (hps.out.row.lt g hg).1; omega⟩
          · refine ⟨.inr (by have := hps.out.hw; have := HSZP.out; omega), fun g hg e => ?_⟩
            have h1 := (hps.out.row.lt g hg).2
            have h2 := HGP.out.size
            omega) _ _
        have HSN8 := Lib.hid hsn8
        obtain ⟨wq, hwq⟩ : ∃ wq, w7.alloc (.cells #[.int .u8 a3, .int .u8 b3, .slice A3 k3 c3] TN) = wq := ⟨_, rfl⟩
        obtain ⟨qz, hqz⟩ : ∃ qz, w7.heap.size = qz := ⟨_, rfl⟩
        have gwq : w7.grownBy wq none := by rw [← hwq]; exact World.grownBy_alloc _ _ _
        have HGQ := Lib.hid gwq
        have CQ := Lib.hid (show C3 wq qz (.int .u8 a3) (.int .u8 b3) (.slice A3 k3 c3) TN by rw [← hwq, ← hqz]; exact c3_new _ _ _ _ _)
        have own1 : wq.ownsRow wo.heap.size TN 3 (.slice PA pn pc) j (flat3 ys) := own_keep hps.out.row (fun g hg => by
          have h1 := (hps.out.row.lt g hg).2
          have h2 := (hps.out.cs.ner hps.out.row hg).1
          have h3 := HG7.out.block g h1 (by simp; exact h2)
          exact (gwq.block g (Nat.lt_of_lt_of_le h1 HG7.out.size) (by simp)).trans h3)
        have hbase : wo.heap.size ≤ wq.heap.size := Nat.le_trans (Nat.le_trans hps.out.gr.size HG7.out.size) gwq.size
        clear hg7 hcs7 hsn7 hsn8 p0 p1 p2 gwq hc0 hc1 hc2
        go_wp2_with (at_builtin; refine wpList_append_own_at _ rfl _ _ 55 rfl wo.heap.size TN i0 (.agg #[.int .u8 0, .int .u8 0, .slice none 0 0]) 3 32 Tryz.underlying55 hi0 hz0 hz1 hz2 rfl (by decide) _ j (flat3 ys) rfl own1 ⟨qz, 0, none⟩ 1 1 [.int .u8 a3, .int .u8 b3, .slice A3 k3 c3] rfl rfl ?n1_1 ?n1_2 ?n1_3 ?n1_4 ?n1_5 ?_)
        try case n1_1 => rw [← hqz, ← hwq]; exact cell3_new _ _ _ _ _
        try case n1_2 => simp [Value.oneCell']
        try case n1_3 => simp only [maxLen]; omega
        try case n1_4 => omega
        try case n1_5 => exact hbase
        intro v8 w8 hown8 hg8 _ hat8
        obtain ⟨A8, k8, c8, rfl⟩ := own_form hown8
        have HPS := Lib.hid (hps.out.push HTJ.out HG7.out (by exact HCS7.out) HSN8.out HGQ.out hown8 hg8 hat8)
        have x2 := HPS.out.cn.c2
        clear hown8 hg8 hat8 own1 hbase
        go_wp2_with fail
        go_roundw
        case rel => exact ⟨j + 1, A8, k8, c8, _, by omega, by go_num, rfl, HPS⟩
        case measure => simp [intOf]; omega
      · have hjk : j = t'.kids.length := by have := HKL.out; have := HLEN.out; omega
        have hall : (smK jf t').take j = smK jf t' := List.take_of_length_le (by rw [smK_len, hjk]; exact Nat.le_refl _)
        have hown := hps.out.row
        have hks := hps.out.ks
        rw [hall] at hks
        have htr : trK jf t' j = (simpP jf t').2 := by rw [hjk]; exact trK_all jf t'
        have hcs0 := hps.out.cs
        rw [htr] at hcs0
        have hneh := hcs0.nec hps.out.cn
        have hge2 := hps.out.hw
        have hpo := simpP_ok jf hos.out.ok
        obtain ⟨wn, hwn⟩ : ∃ wn, laid3 wr h0 (.int .u8 a') (.int .u8 b') (.slice PA pn pc) = wn := ⟨_, rfl⟩
        have KN : Hid (C3 wn h0 (.int .u8 a') (.int .u8 b') (.slice PA pn pc) TN) := Lib.hid (by rw [← hwn]; exact hps.out.cn.laid)
        have KR : Hid (C3 wn (h0 + 1) (.int .u8 0) (.int .u8 0) (.slice none 0 0) TN) := Lib.hid (by rw [← hwn]; exact hps.out.cr.aside (by omega))
        have HC : Hid (CS cp cg (l' ++ (simpP jf t').2) wn) := Lib.hid (by rw [← hwn]; exact hcs0.kept (laid3_heap _ _ _ _ _ _ (fun e => hneh.2 e.symm)) (laid3_heap _ _ _ _ _ _ (fun e => hneh.1 e.symm)))
        have hsn0 : SN wn (fun x => S x ∨ h0 + 2 ≤ x) (simpP jf t').1 (a', b', .slice PA pn pc) := by
          rw [← hwn]
          refine sm_made hos.out.sn (by rw [hps.out.len]; exact own_base (own_keep hown (fun g hg => laid3_heap _ _ _ _ _ _ (by have := (hown.lt g hg).1; omega))) (Nat.zero_le _)) (fun g hg => .inr (by have := (hown.lt g hg).1; omega))
            (all2_map (fun t2 y hy => hy.keep (fun x hx _ => laid3_heap _ _ _ _ _ _ (by rcases hx.1 with h9 | h9 <;> first | omega | (have := hos.out.hS x h9; omega))) (fun x hx _ => hx.1) t2 y) hks)
        have HSN := Lib.hid hsn0
        have HG : Hid (w.grownBy wn (some cg)) := Lib.hid (by rw [← hwn]; exact gr_laid3 (hos.out.gr.trans hps.out.gr) (by have := hos.out.hz; omega) _ _ _)
        have HNZ : Hid (h0 + 2 ≤ wn.heap.size) := Lib.hid (by rw [← hwn, laid3_size]; exact Nat.le_trans hge2 hps.out.gr.size)
        have HPO := Lib.hid hpo
        have HRUL := Lib.hid (srule_any (simpP jf t').1 (fun x => (S x ∨ h0 + 2 ≤ x) ∧ x < wn.heap.size) a' b' PA pn pc wn hpo.1 (Nat.le_trans hpo.2.2 hos.out.len) (fun x hx => hx.2) (hsn0.keep (fun _ _ _ => rfl) (fun x hx hl => ⟨hx, hl⟩) _ _))
        have n0 := hps.out.cn.c0
        have n1 := hps.out.cn.c1
        have n2' := hps.out.cn.c2
        have nf0 := hps.out.cn.f 0
        have nf1 := hps.out.cn.f 1
        have nf2 := hps.out.cn.f 2
        have m0 := KN.out.c0
        have m1 := KN.out.c1
        have m2 := KN.out.c2
        unfold laid3 at hwn
        clear hall hown hks htr hcs0 hneh hpo hsn0
        go_wp2_with fail
        refine HRUL.out.mono ?_
        rintro e w9 ⟨a9, b9, A9, k9, c9, rfl, hg9, hsn9⟩
        obtain ⟨x9, hx9⟩ : ∃ x9, w9.alloc (.cells #[.int .u8 a9, .int .u8 b9, .slice A9 k9 c9] TN) = x9 := ⟨_, rfl⟩
        obtain ⟨z9, hz9⟩ : ∃ z, w9.heap.size = z := ⟨_, rfl⟩
        have gx9 : w9.grownBy x9 none := by rw [← hx9]; exact World.grownBy_alloc _ _ _
        have gg9 := hg9.trans gx9
        have KN9 := Lib.hid (KN.out.grown gg9 (by simp))
        have KR9 := Lib.hid (KR.out.grown gg9 (by simp))
        have HC9 := Lib.hid (HC.out.grown gg9)
        have HS9 := Lib.hid (HSN.out.grown gg9)
        have HQ9 := Lib.hid (hsn9.grown gx9)
        have HG9 := Lib.hid (HG.out.trans (gr_sm gg9))
        have KO9 := Lib.hid (show C3 x9 z9 (.int .u8 a9) (.int .u8 b9) (.slice A9 k9 c9) TN by rw [← hx9, ← hz9]; exact c3_new _ _ _ _ _)
        have HZ9 : Hid (h0 + 2 ≤ z9) := Lib.hid (by have := HNZ.out; have := hg9.size; omega)
        have hro := rul_ok HPO.out.1
        have HRO := Lib.hid hro
        have hr6 := hro.2.2.2.1
        obtain ⟨r, hr⟩ : ∃ r, (rul (simpP jf t').1).1 = r := ⟨_, rfl⟩
        rw [hr] at hr6
        have HRR := Lib.hid hr
        simp only [hr]
        have d0 := KN9.out.c0
        have d1 := KN9.out.c1
        have d2 := KN9.out.c2
        clear m0 m1 m2 n0 n1 n2' nf0 nf1 nf2 hg9 hsn9 gx9 gg9 hro hr
        by_cases h00 : r = 0
        · subst h00
          have e0 := KR9.out.c0
          have e1 := KR9.out.c1
          have e2 := KR9.out.c2
          have ef0 := KR9.out.f 0
          have ef1 := KR9.out.f 1
          have ef2 := KR9.out.f 2
          go_wp2_with fail
          have HL := Lib.hid (KR9.out.laid (x' := .int .u8 a') (y' := .int .u8 b') (z' := .slice PA pn pc))
          have HF : Hid (w.grownBy (laid3 x9 (h0 + 1) (.int .u8 a') (.int .u8 b') (.slice PA pn pc)) (some cg)) := Lib.hid (gr_laid3 HG9.out (by have := hos.out.hz; omega) _ _ _)
          have o0 := HL.out.c0
          have o1 := HL.out.c1
          have o2 := HL.out.c2
          clear d0 d1 d2 e0 e1 e2 ef0 ef1 ef2
          unfold laid3 at o0 o1 o2
          refine bodyPost_ret (v := .agg #[.int .u8 a', .int .u8 b', .slice PA pn pc]) (by simp [results, Tryz.results61, go_sem, o0, o1, o2]) rfl ?_
          have hfin : simpF (jf + 1) t' = simpP jf t' := by rw [simpF_succ, if_pos HRR.out]
          have he1 := hos.out.e1
          have he2 := hos.out.e2
          rw [hfin] at he1 he2
          refine ⟨_, _, _, _, _, rfl, HF.out, ?_, ?_⟩
          · rw [← he1]
            exact HS9.out.keep (fun x hx _ => laid3_heap _ _ _ _ _ _ (by rcases hx with h9 | h9 <;> first | omega | (have := hos.out.hS x h9; omega))) (fun x hx _ => hx.imp id (fun h9 => by have := hos.out.hz; omega)) _ _
          · rw [← he2]
            have hne9 := HC9.out.nec KR9.out
            exact HC9.out.kept (laid3_heap _ _ _ _ _ _ (fun e => hne9.2 e.symm)) (laid3_heap _ _ _ _ _ _ (fun e => hne9.1 e.symm))
        · have hr0 : ((r : Int) == 0) = false := by rw [beq_eq_false_iff_ne]; omega
          have hi00 : (0 : Int) ≤ (r : Int) := by omega
          have hi7 : (r : Int) < 7 := by omega
          have hslot := HC9.out.slot
          have hcell := HC9.out.cell (r := r) (by omega)
          have hfr := HC9.out.frozen r
          have hwr := wrap_one (((l' ++ (simpP jf t').2).count r : Nat) : Int)
          have HUP := Lib.hid (HC9.out.up (r := r) (by omega))
          obtain ⟨dd, hdd⟩ : ∃ d, IntKind.i64.wrap (((l' ++ (simpP jf t').2).count r : Nat) : Int) = d := ⟨_, rfl⟩
          obtain ⟨d3, hd3⟩ : ∃ d, IntKind.i64.wrap ((((l' ++ (simpP jf t').2).count r : Nat) : Int) + 1) = d := ⟨_, rfl⟩
          rw [hdd] at hcell hwr
          rw [hd3] at hwr HUP
          clear hdd hd3
          obtain ⟨wx, hwx⟩ : ∃ wx, x9.setCell ⟨cg, r, none⟩ (.int .i64 d3) = wx := ⟨_, rfl⟩
          rw [hwx] at HUP
          have gwx : x9.grownBy wx (some cg) := by rw [← hwx]; exact gr_set _ _ _ _
          have KNx := Lib.hid (KN9.out.keepc HC9.out gwx)
          have KRx := Lib.hid (KR9.out.keepc HC9.out gwx)
          have KOx := Lib.hid (KO9.out.keepc HC9.out gwx)
          have HQx := Lib.hid (HQ9.out.keepc HC9.out gwx)
          have HGx := Lib.hid (HG9.out.trans gwx)
          have u0 := KNx.out.c0
          have u1 := KNx.out.c1
          have u2 := KNx.out.c2
          have uf0 := KNx.out.f 0
          have uf1 := KNx.out.f 1
          have uf2 := KNx.out.f 2
          have v0 := KOx.out.c0
          have v1 := KOx.out.c1
          have v2 := KOx.out.c2
          have HFIN : Hid (simpF (jf + 1) t' = ((simpF jf (rul (simpP jf t').1).2).1, (simpP jf t').2 ++ (r :: (simpF jf (rul (simpP jf t').1).2).2))) := Lib.hid (by rw [simpF_succ, if_neg (by rw [HRR.out]; exact h00), HRR.out])
          have HSM : Hid ((rul (simpP jf t').1).2.size ≤ jf) := Lib.hid (by
            have h1 := HRO.out.2.2.2.2.2 (by rw [HRR.out]; exact h00)
            have h2 := HPO.out.2.1
            have h3 := hos.out.sz
            omega)
          clear h00 gwx d0 d1 d2
          go_wp2_with fail
          go_roundg jf
          case measure => omega
          case rel =>
            have hnex := HUP.out.nec KNx.out
            have he1 := hos.out.e1
            have he2 := hos.out.e2
            rw [HFIN.out] at he1 he2
            refine ⟨(rul (simpP jf t').1).2, a9, b9, A9, k9, c9, (l' ++ (simpP jf t').2) ++ [r], by omega, Lib.hid ⟨KNx.out.laid, KRx.out.aside (by omega), HUP.out.kept (laid3_heap _ _ _ _ _ _ (fun e => hnex.2 e.symm)) (laid3_heap _ _ _ _ _ _ (fun e => hnex.1 e.symm)), ?_, HRO.out.1, Nat.le_trans HRO.out.2.2.1 (Nat.le_trans HPO.out.2.2 hos.out.len), HSM.out, he1, by rw [← he2]; simp, gr_laid3 HGx.out (by have := hos.out.hz; omega) _ _ _, hos.out.hz, hos.out.hS⟩⟩
            exact HQx.out.keep (fun x hx _ => laid3_heap _ _ _ _ _ _ (by
              rcases hx with h9 | h9
              · rcases h9.1 with h8 | h8
                · have := hos.out.hS x h8; omega
                · omega
              · have := HNZ.out; omega)) (fun x hx _ => by
              rcases hx with h9 | h9
              · exact h9.1
              · exact .inr (by have := HNZ.out; omega)) _ _

theorem ss_any (cp cg : Nat) : ∀ f, SsC cp cg f := fun f => by
  induction f using Nat.strongRecOn with
  | _ f ih => exact ss_step cp cg f ih
end

/- StFS -/
section
open Go.RowKit

/-- How l10Done ends. -/
def DoneP (s : ByteArray) (w : World) (e : Ending) (w' : World) : Prop := (∃ A k c, e = .returned (.tuple #[.string (sterm9T s), .slice A k c, .bool (sterm9B s)])) ∧ w.grownBy w' none

theorem cs_new (w : World) : CS (w.heap.size + 1) w.heap.size [] ((w.alloc (.cells #[.int .i64 0, .int .i64 0, .int .i64 0, .int .i64 0, .int .i64 0, .int .i64 0, .int .i64 0] 3)).alloc (.cells #[.slice (some ⟨w.heap.size, 0, none⟩) 7 7] TCo)) := by
  refine ⟨?_, List.replicate 7 0, ?_, rfl, fun j hj => ?_⟩
  · have := heap_alloc_new (w.alloc (.cells #[.int .i64 0, .int .i64 0, .int .i64 0, .int .i64 0, .int .i64 0, .int .i64 0, .int .i64 0] 3)) (.cells #[.slice (some ⟨w.heap.size, 0, none⟩) 7 7] TCo)
    rw [World.size_alloc] at this
    exact this
  · have h1 := heap_alloc_new w (.cells #[.int .i64 0, .int .i64 0, .int .i64 0, .int .i64 0, .int .i64 0, .int .i64 0, .int .i64 0] 3)
    exact ((World.grownBy_alloc (w.alloc _) _ none).block w.heap.size (by rw [World.size_alloc]; omega) (by simp)).trans h1
  · rw [List.getElem?_replicate, if_pos hj]
    rfl

theorem infoI7 : (Tryz.prog.info? 3).map (fun i => (i.zero, i.size, i.bytes)) = some (some (.int .i64 0), 1, 8) := by kernel_rfl
theorem make7 (u : World) : (Instr.makeSlice 31 (.int .i64 7) (.int .i64 7)).run Tryz.prog u = .ok (.slice (some ⟨u.heap.size, 0, none⟩) 7 7) (u.alloc (.cells #[.int .i64 0, .int .i64 0, .int .i64 0, .int .i64 0, .int .i64 0, .int .i64 0, .int .i64 0] 3)) := by
  obtain ⟨i0, hi0, hz0, hz1, hz2⟩ := info_parts infoI7
  have h := run_make (P := Tryz.prog) u 31 3 i0 (.int .i64 0) Tryz.underlying31 hi0 hz0 .i64 .i64 7 7 (by omega) (Int.le_refl _) (by rw [hz2]; omega) (by omega)
  have e : madeCells #[.int .i64 0] 7 = (#[.int .i64 0, .int .i64 0, .int .i64 0, .int .i64 0, .int .i64 0, .int .i64 0, .int .i64 0] : Array Value) := by kernel_rfl
  rw [← e]
  simpa [hz1, Value.cells] using h

set_option maxRecDepth 100000 in
set_option maxHeartbeats 4000000 in
theorem done_spec (s : ByteArray) (hs : s.size ≤ 1048576) (w : World) :
    Calls Tryz.prog 41 #[.string s] w (DoneP s w) := by
  have H1 := Lib.hid (sterm_any s hs w)
  unfold DoneP
  obtain ⟨z, hz⟩ : ∃ z, sterm9T s = z := ⟨_, rfl⟩
  obtain ⟨b, hb⟩ : ∃ b, sterm9B s = b := ⟨_, rfl⟩
  rw [hz, hb]
  have HZ := Lib.hid hz
  have HB := Lib.hid hb
  clear hb hz hs
  go_enter Tryz.func41, Tryz.ntmps41
  go_wp2_with fail
  refine H1.out.mono ?_
  intro e w1 hp
  obtain ⟨a1, b1, A1, k1, c1, o1, rfl, hg1, ho1, hs1⟩ := sterm_shape hp
  obtain ⟨x1, hx1⟩ : ∃ x, w1.alloc (.cells #[.int .u8 a1, .int .u8 b1, .slice A1 k1 c1] TN) = x := ⟨_, rfl⟩
  obtain ⟨n1, hn1⟩ : ∃ x, w1.heap.size = x := ⟨_, rfl⟩
  have gx1 : w1.grownBy x1 none := by rw [← hx1]; exact World.grownBy_alloc _ _ _
  have C1 := Lib.hid (show C3 x1 n1 (.int .u8 a1) (.int .u8 b1) (.slice A1 k1 c1) TN by rw [← hx1, ← hn1]; exact c3_new _ _ _ _ _)
  have HG1 := Lib.hid (hg1.trans gx1)
  have HO1 := Lib.hid ho1
  have HS1 := Lib.hid (fun T hT => (hs1 T hT).grown gx1)
  clear hg1 gx1 ho1 hs1 hp
  have hb := HB.out
  have hz := HZ.out
  unfold sterm9B at hb
  unfold sterm9T at hz
  cases o1 with
  | false =>
    have hn : readT s = none := by cases h : readT s with | none => rfl | some t => have := HO1.out; rw [h] at this; cases this
    rw [hn] at hb hz
    simp only [Option.isSome_none] at hb
    subst hb hz
    clear hn
    go_wp2_with fail
    refine bodyPost_ret (v := .tuple #[.string ⟨#[]⟩, .slice (some ⟨x1.heap.size, 0, none⟩) 0 0, .bool false]) (by simp [results, Tryz.results41, go_sem]) rfl ?_
    exact ⟨⟨_, _, _, rfl⟩, HG1.out.trans (World.grownBy_alloc _ _ _)⟩
  | true =>
    obtain ⟨t, ht⟩ : ∃ t, readT s = some t := Option.isSome_iff_exists.1 HO1.out
    rw [ht] at hb hz
    simp only [Option.isSome_some] at hb
    subst hb
    have hbd := readT_bd ht
    obtain ⟨gz, hgz⟩ : ∃ g, x1.heap.size = g := ⟨_, rfl⟩
    obtain ⟨y1, hy1⟩ : ∃ y, x1.alloc (.cells #[.int .i64 0, .int .i64 0, .int .i64 0, .int .i64 0, .int .i64 0, .int .i64 0, .int .i64 0] 3) = y := ⟨_, rfl⟩
    have zy1 : y1.heap.size = gz + 1 := by rw [← hy1, World.size_alloc, hgz]
    obtain ⟨y2, hy2⟩ : ∃ y, y1.alloc (.cells #[.slice (some ⟨gz, 0, none⟩) 7 7] TCo) = y := ⟨_, rfl⟩
    have gy : x1.grownBy y2 none := by rw [← hy2, ← hy1]; exact (World.grownBy_alloc _ _ none).trans (World.grownBy_alloc _ _ none)
    have hcs : CS (gz + 1) gz [] y2 := by rw [← hy2, ← hy1, ← hgz]; exact cs_new x1
    have hge : w.heap.size ≤ gz := by rw [← hgz]; exact HG1.out.size
    have hso := smp_ok hbd.1
    have HOK := Lib.hid hso.1
    have HLN : Hid ((smp t).txt.length ≤ 1000000) := Lib.hid (by have := hso.2.2.1; have := hbd.2.1; omega)
    have HZT : Hid (bytesOf (smp t).txt = z) := Lib.hid hz
    have HSS := Lib.hid (ss_any (gz + 1) gz 80 t a1 b1 A1 k1 c1 y2.drew [] (fun x => x < y2.heap.size) hbd.2.2 hbd.1 hbd.2.1 (fun x hx => hx) (hcs.grown (gr_drewN y2 1 none)) ((((HS1.out t ht).grown gy).keep (fun _ _ _ => rfl) (fun x _ hx => hx) _ _).grown (gr_drewN y2 1 none)))
    have HCS := Lib.hid hcs
    have HGY := Lib.hid (HG1.out.trans gy)
    have HGE := Lib.hid hge
    have C2 := Lib.hid (C1.out.grown gy (by simp))
    have hm7 := make7
    have q0 := C2.out.c0
    have q1 := C2.out.c1
    have q2 := C2.out.c2
    have qs := hcs.slot
    clear hz ht hbd hso gy hcs hge
    go_wp2_with fail
    go_region_held3 (fun w' => w'.cell? ⟨n1, 0, none⟩ = some (.int .u8 a1) ∧ w'.cell? ⟨n1, 1, none⟩ = some (.int .u8 b1) ∧ w'.cell? ⟨n1, 2, none⟩ = some (.slice A1 k1 c1) ∧ w'.cell? ⟨gz + 1, 0, none⟩ = some (.slice (some ⟨gz, 0, none⟩) 7 7)) (go_keep)
      (first
        | (go_at_call 61
           (with_reducible refine HSS.out.mono ?_)
           rintro e w3 ⟨a2, b2, A2, k2, c2, rfl, hg3, hsn3, hcs3⟩
           have hgg := (gr_drewN y2 1 (some gz)).trans hg3
           have HG3 := Lib.hid (gr_new HGY.out hgg HGE.out)
           have C3' := Lib.hid (C2.out.keepc HCS.out hgg)
           have HCS3 := Lib.hid hcs3
           have HTX := Lib.hid (stxt_any (smp t) _ a2 b2 A2 k2 c2 w3 HOK.out HLN.out hsn3)
           have u0 := C3'.out.c0
           have u1 := C3'.out.c1
           have u2 := C3'.out.c2
           have us := hcs3.slot
           clear hg3 hsn3 hcs3 hgg)
        | (go_at_call 31
           (with_reducible refine HTX.out.mono ?_)
           rintro e w4 ⟨rfl, hg4⟩
           have HG4 := Lib.hid (HG3.out.trans hg4)
           have t0 := (C3'.out.grown hg4 (by simp)).c0
           have t1 := (C3'.out.grown hg4 (by simp)).c1
           have t2 := (C3'.out.grown hg4 (by simp)).c2
           have ts := hg4.cell us (by simp)
           clear hg4))
    all_goals
      go_wp2_with fail
      rw [HZT.out]
      refine bodyPost_ret (v := .tuple #[.string z, .slice (some ⟨gz, 0, none⟩) 7 7, .bool true]) (by simp [results, Tryz.results41, go_sem]) rfl ?_
      exact ⟨⟨_, _, _, rfl⟩, HG4.out⟩
end

end Go.Proofs.YtboddoaekcchpaaGreat
