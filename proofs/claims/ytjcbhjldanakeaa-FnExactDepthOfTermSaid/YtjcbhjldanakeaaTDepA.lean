/- depths.of of the program at whatever term; DepthOfTerm and IsFunction of the program. -/
import Derived.Test.YtjcbhjldanakeaaTDepL
import Derived.Test.YtjcbhjldanakeaaTSize
namespace Go.Proofs.Ytjcbhjldanakeaa
open Go.RowKit Go.Maps

theorem of_any : ∀ (n : Nat) (t : Tm) (S : Nat → Prop) (v : Value) (b m : Nat) (e : Int → Int) (w : World), t.size ≤ n → n + m ≤ 1000000 → t.Ok → (∀ c, -1 ≤ e c ∧ e c ≤ 3) → PT w S t v → VMap w b m e →
    Calls Try.prog 45 #[.map (some b), v] w (DepP (t.depth e) w)
  | 0, t, _, _, _, _, _, _, hn, _, _, _, _, _ => by have := t.size_pos; omega
  | n + 1, .dig c, S, v, b, m, e, w, hn, hb, ho, he, h, hm => by cases h; exact of_dig c _ w
  | n + 1, .var c, S, v, b, m, e, w, hn, hb, ho, he, h, hm => by cases h; exact of_var c b m e w ho hm
  | n + 1, .pre c s, S, v, b, m, e, w, hn, hb, ho, he, h, hm => by
    obtain ⟨g, x, rfl, _, hh, hx⟩ := h
    simp only [Tm.size] at hn
    exact of_pre c _ b g x w ho.1 (s.depth_bd e he) hh (fun u hu => of_any n s S x b m e u (by omega) (by omega) ho.2 he (hx.grown hu) (hm.grown hu))
  | n + 1, .two c s t, S, v, b, m, e, w, hn, hb, ho, he, h, hm => by
    obtain ⟨g, x, y, rfl, _, hh, hx, hy⟩ := h
    simp only [Tm.size] at hn
    exact of_two c _ _ b g x y w hh (fun u hu => of_any n s S x b m e u (by omega) (by omega) ho.2.1 he (hx.grown hu) (hm.grown hu))
      (fun u hu => of_any n t S y b m e u (by omega) (by omega) ho.2.2 he (hy.grown hu) (hm.grown hu))
  | n + 1, .loop c i s t, S, v, b, m, e, w, hn, hb, ho, he, h, hm => by
    obtain ⟨g, x, y, rfl, _, hh, hx, hy⟩ := h
    simp only [Tm.size] at hn
    have hd1 := s.depth_bd e he
    have hbu := upd_bd he i (d := if 1 ≤ s.depth e then s.depth e - 1 else 0) (by split <;> omega)
    have hd2 := t.depth_bd _ hbu
    by_cases h1 : 1 ≤ s.depth e
    · rw [if_pos h1] at hbu hd2
      exact of_loop c i _ _ b m g e x y w ho.1 (lb ho.2.1).1 (lb ho.2.1).2 hd1 hd2 (by omega) hm hh (fun u hu => of_any n s S x b m e u (by omega) (by omega) ho.2.2.1 he (hx.grown hu) (hm.grown hu))
        (fun _ u b' hu hm' => of_any n t S y b' (m + 1) _ u (by omega) (by omega) ho.2.2.2 hbu (hy.grown hu) hm')
    · have := of_loop c i (s.depth e) 0 b m g e x y w ho.1 (lb ho.2.1).1 (lb ho.2.1).2 hd1 (by omega) (by omega) hm hh (fun u hu => of_any n s S x b m e u (by omega) (by omega) ho.2.2.1 he (hx.grown hu) (hm.grown hu))
        (fun h => absurd h h1)
      rw [if_neg h1] at this
      simp only [Tm.depth]
      rw [if_neg h1]
      exact this

/-- The depth of a text. -/
def depthA (s : ByteArray) : Int := match readT s with
  | some t => t.depth env0
  | none => -1
theorem depthA_bd (s : ByteArray) : -1 ≤ depthA s ∧ depthA s ≤ 3 := by
  unfold depthA
  cases readT s with
  | none => simp
  | some t => exact t.depth_bd env0 env0_bd

set_option maxRecDepth 100000 in
set_option maxHeartbeats 2000000 in
theorem tdepth_impl (s : ByteArray) (w : World) :
    Calls Try.prog 18 #[.string s] w (DepP (depthA s) w) := by
  have H := Lib.hid (term_any s w)
  have hmm := @run_makeMap Try.prog
  obtain ⟨r, hb⟩ : ∃ b, depthA s = b := ⟨_, rfl⟩
  rw [hb]
  have HB := Lib.hid hb
  clear hb
  go_enter Try.func18, Try.ntmps18
  go_wp2_with fail
  refine H.out.mono ?_
  intro e w0 hp
  unfold TermPost at hp
  have hb := HB.out
  unfold depthA at hb
  cases hr : readT s with
  | none =>
    rw [hr] at hp hb
    subst hb
    obtain ⟨rfl, hg⟩ := hp
    have HG := Lib.hid hg
    clear hg hr
    go_wp2_with fail
    go_ret
    exact ⟨rfl, HG.out⟩
  | some t =>
    rw [hr] at hp hb
    obtain ⟨v, rfl, hg, hpt⟩ := hp
    have HG := Lib.hid hg
    have HP := Lib.hid hpt
    have HSS := Lib.hid hb
    have HRT := Lib.hid hr
    have own0 := World.ownsMap_made w0 Try.prog 50 (plainElem (H := Unit) Try.prog 3)
    obtain ⟨w1, hr1, own1, hg1⟩ := own0.update keyedV Try.underlying52 (by decide) (keyV (v := 97) (by decide) (by decide)) (plainElem_int Try.underlying3 (i64wf (d := 1) (by decide) (by decide)))
    obtain ⟨w2, hr2, own2, hg2⟩ := own1.update keyedV Try.underlying52 (by decide) (keyV (v := 98) (by decide) (by decide)) (plainElem_int Try.underlying3 (i64wf (d := 2) (by decide) (by decide)))
    have hgr : w0.grownBy w2 none := gr_new (gr_new (World.grownBy_alloc w0 _ none) hg1 (Nat.le_refl _)) hg2 (Nat.le_refl _)
    have hvm : VMap w2 w0.heap.size 2 env0 := ⟨_, own2, by
      have h0 : Reads (.map []) (fun _ => -1) := ⟨⟨_, rfl⟩, fun v _ _ => .inl ⟨rfl, rfl⟩⟩
      have := (h0.put 97 1).put 98 2
      rw [show env0 = upd (upd (fun _ => -1) 97 1) 98 2 from by
        funext c
        unfold env0 upd
        by_cases h1 : c = 97
        · subst h1; rfl
        · simp [h1]]
      exact this⟩
    have hok := readT_some hr
    have HC := Lib.hid (of_any 80 t _ v _ 2 env0 w2 hok.2.2.2 (by omega) hok.2.2.1 env0_bd (hpt.grown hgr) hvm)
    rw [show t.depth env0 = r from hb] at HC
    have HGR := Lib.hid (hg.trans hgr)
    clear hg hpt hr hb own0 own1 own2 hg1 hg2 hgr hvm hok
    go_wp2_with fail
    refine HC.out.mono ?_
    rintro e w3 ⟨rfl, hg3⟩
    have HG3 := Lib.hid hg3
    clear hg3
    go_wp2_with fail
    go_ret
    exact ⟨rfl, HGR.out.trans HG3.out⟩

set_option maxRecDepth 100000 in
set_option maxHeartbeats 1000000 in
theorem tisfun_impl (s : ByteArray) (w : World) :
    Calls Try.prog 20 #[.string s] w fun e w' => e = .returned (.bool (decide (0 ≤ depthA s))) ∧ w.grownBy w' none := by
  have H := Lib.hid (tdepth_impl s w)
  have hbd := depthA_bd s
  obtain ⟨r, hr⟩ : ∃ r, depthA s = r := ⟨_, rfl⟩
  rw [hr] at H hbd ⊢
  obtain ⟨b, hb⟩ : ∃ b, (r != -1) = b := ⟨_, rfl⟩
  have HB : Hid (decide (0 ≤ r) = b) := Lib.hid (by
    rw [← hb]
    by_cases h : 0 ≤ r
    · have : r ≠ -1 := by omega
      simp [h, this]
    · have : r = -1 := by omega
      subst this; rfl)
  clear hr
  go_enter Try.func20, Try.ntmps20
  go_wp2_with fail
  refine H.out.mono ?_
  rintro e w1 ⟨rfl, hg1⟩
  have HG1 := Lib.hid hg1
  clear hg1
  go_wp2_with fail
  go_ret
  exact ⟨by rw [HB.out]; rfl, HG1.out⟩

end Go.Proofs.Ytjcbhjldanakeaa
