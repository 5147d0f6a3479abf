/- The model's l5Env.depth at whatever term; DepthOfTerm and IsFunction of the model. -/
import Derived.Test.YtjcbhjldanakeaaSDepL
import Derived.Test.YtjcbhjldanakeaaTDepA
import Derived.Test.YtjcbhjldanakeaaTSign
namespace Go.Proofs.Ytjcbhjldanakeaa
open Go.RowKit

theorem SN.grownG {w w' : World} {S : Nat → Prop} {t : Tm} {x : Int × Int × Value} {g : Nat} (h : SN w S t x) (hS : ∀ b, S b → b ≠ g) (hg : w.grownBy w' (some g)) : SN w' S t x :=
  h.keep (fun b hb hl => hg.block b hl (by simp; exact hS b hb)) (fun _ hb _ => hb) t x

theorem slice_form {w : World} {e : TypeId} {size n : Nat} {sv : Value} {xs : List Value} (h : w.ownsRow 0 e size sv n xs) : ∃ A c, sv = .slice A n c := by
  obtain ⟨A, m, c, rfl⟩ := own_form h
  exact ⟨A, c, by rw [own_len h]⟩

set_option maxRecDepth 100000 in
theorem sdep_any : ∀ (n : Nat) (t : Tm) (S : Nat → Prop) (x : Int × Int × Value) (g : Nat) (en : Int → Int) (w : World), t.size ≤ n → t.Ok → (∀ c, -1 ≤ en c ∧ en c ≤ 3) → SN w S t x → (∀ b, S b → b ≠ g) → EnvAt w g en →
    Calls Try.prog 44 #[.pointer (some ⟨g, 0, none⟩), .agg #[.int .u8 x.1, .int .u8 x.2.1, x.2.2]] w (SDP (t.depth en) g en w)
  | 0, t, _, _, _, _, _, hn, _, _, _, _, _ => by have := t.size_pos; omega
  | n + 1, .dig c, S, (x1, x2, x3), g, en, w, hn, ho, hen, h, hS, he => by
    obtain ⟨h1, h2, h3, _⟩ := h
    obtain ⟨A, cc, h4⟩ := slice_form h3
    simp only at h1 h2 h4
    subst h1 h4
    exact sdep_dig _ A cc g en w he
  | n + 1, .var c, S, (x1, x2, x3), g, en, w, hn, ho, hen, h, hS, he => by
    obtain ⟨h1, h2, h3, _⟩ := h
    obtain ⟨A, cc, h4⟩ := slice_form h3
    simp only at h1 h2 h4
    subst h1 h2 h4
    have hv := vb ho
    have := sdep_var x2.toNat (by omega) A cc g en w he
    rw [show ((x2.toNat : Nat) : Int) = x2 from by omega] at this
    exact this
  | n + 1, .pre c s, S, (x1, x2, x3), g, en, w, hn, ho, hen, h, hS, he => by
    obtain ⟨h1, h2, y, h3, _, hy⟩ := h
    obtain ⟨A, cc, h4⟩ := slice_form h3
    simp only at h1 h2 h4 h3
    subst h1 h2 h4
    obtain ⟨y1, y2, y3⟩ := y
    obtain ⟨A2, k2, c2, h5⟩ := hy.form
    simp only at h5
    subst h5
    simp only [Tm.size] at hn
    exact sdep_pre x1 (s.depth en) y1 y2 A A2 cc k2 c2 g en w (s.depth_bd en hen) he h3 (fun u hu hue => sdep_any n s S (y1, y2, .slice A2 k2 c2) g en u (by omega) ho.2 hen (hy.grownG hS hu) hS hue)
  | n + 1, .two c s t, S, (x1, x2, x3), g, en, w, hn, ho, hen, h, hS, he => by
    obtain ⟨h1, h2, y, z, h3, hb, hy, hz⟩ := h
    obtain ⟨A, cc, h4⟩ := slice_form h3
    simp only at h1 h2 h4 h3 hb
    subst h1 h2 h4
    obtain ⟨y1, y2, y3⟩ := y
    obtain ⟨A2, k2, c2, h5⟩ := hy.form
    simp only at h5
    subst h5
    obtain ⟨z1, z2, z3⟩ := z
    obtain ⟨A3, k3, c3, h6⟩ := hz.form
    simp only at h6
    subst h6
    simp only [Tm.size] at hn
    exact sdep_two x1 (s.depth en) (t.depth en) y1 y2 z1 z2 A A2 A3 cc k2 c2 k3 c3 g en w he (fun x hx => hS x (hb x hx)) h3
      (fun u hu hue => sdep_any n s S (y1, y2, .slice A2 k2 c2) g en u (by omega) ho.2.1 hen (hy.grownG hS hu) hS hue)
      (fun u hu hue => sdep_any n t S (z1, z2, .slice A3 k3 c3) g en u (by omega) ho.2.2 hen (hz.grownG hS hu) hS hue)
  | n + 1, .loop c i s t, S, (x1, x2, x3), g, en, w, hn, ho, hen, h, hS, he => by
    obtain ⟨h1, h2, y, z, h3, hb, hy, hz⟩ := h
    obtain ⟨A, cc, h4⟩ := slice_form h3
    simp only at h1 h2 h4 h3 hb
    subst h1 h2 h4
    obtain ⟨y1, y2, y3⟩ := y
    obtain ⟨A2, k2, c2, h5⟩ := hy.form
    simp only at h5
    subst h5
    obtain ⟨z1, z2, z3⟩ := z
    obtain ⟨A3, k3, c3, h6⟩ := hz.form
    simp only at h6
    subst h6
    simp only [Tm.size] at hn
    have hl := lb ho.2.1
    have hl0 := isL_ge ho.2.1
    have hd1 := s.depth_bd en hen
    have hxk : ((x2.toNat : Nat) : Int) = x2 := by omega
    simp only [Tm.depth]
    by_cases hd : 1 ≤ s.depth en
    · rw [if_pos hd]
      have hbu := upd_bd hen x2 (d := s.depth en - 1) (by omega)
      have hd2 := t.depth_bd _ hbu
      have := sdep_loop1 x1 (s.depth en) (t.depth (upd en x2 (s.depth en - 1))) y1 y2 z1 z2 x2.toNat A A2 A3 cc k2 c2 k3 c3 g en w ho.1 (by omega) (by omega) hd hd1.2 hd2 he (fun x hx => hS x (hb x hx)) h3
        (fun u hu hue => sdep_any n s S (y1, y2, .slice A2 k2 c2) g en u (by omega) ho.2.2.1 hen (hy.grownG hS hu) hS hue)
        (fun u hu hue => by rw [hxk] at hue ⊢; exact sdep_any n t S (z1, z2, .slice A3 k3 c3) g _ u (by omega) ho.2.2.2 hbu (hz.grownG hS hu) hS hue)
      rw [hxk] at this
      exact this
    · rw [if_neg hd]
      have := sdep_loop0 x1 (s.depth en) y1 y2 z1 z2 x2.toNat A A2 A3 cc k2 c2 k3 c3 g en w (by omega) (by omega) he (fun x hx => hS x (hb x hx)) h3
        (fun u hu hue => sdep_any n s S (y1, y2, .slice A2 k2 c2) g en u (by omega) ho.2.2.1 hen (hy.grownG hS hu) hS hue)
      rw [hxk] at this
      exact this

set_option maxRecDepth 100000 in
set_option maxHeartbeats 2000000 in
theorem tdepth_spec (s : ByteArray) (hs : s.size ≤ 1048576) (w : World) :
    Calls Try.prog 17 #[.string s] w (DepP (depthA s) w) := by
  have H := Lib.hid (sterm_any s hs w)
  obtain ⟨r, hb⟩ : ∃ b, depthA s = b := ⟨_, rfl⟩
  rw [hb]
  have HB := Lib.hid hb
  clear hb
  go_enter Try.func17, Try.ntmps17
  go_wp2_with fail
  refine H.out.mono ?_
  intro e w1 hp
  unfold STermPost at hp
  have hb := HB.out
  unfold depthA at hb
  cases hr : readT s with
  | none =>
    rw [hr] at hp hb
    subst hb
    obtain ⟨rfl, hg⟩ := hp
    have HG := Lib.hid hg
    clear hg hr
    go_wp2_with fail
    go_ret
    exact ⟨rfl, HG.out.trans (World.grownBy_alloc _ _ _)⟩
  | some t =>
    rw [hr] at hp hb
    obtain ⟨a, d, A, k, c, rfl, hg, ha⟩ := hp
    have HG := Lib.hid (hg.trans (World.grownBy_alloc w1 (.cells #[.int .u8 a, .int .u8 d, .slice A k c] 40) none))
    have HX := Lib.hid (c3_new w1 (.int .u8 a) (.int .u8 d) (.slice A k c) 40)
    have x0 := HX.out.c0
    have x1 := HX.out.c1
    have x2 := HX.out.c2
    have hok := readT_some hr
    have HR : Hid (t.depth env0 = r) := Lib.hid hb
    have HA : Hid (SN w1 (fun b => b < w1.heap.size) t (a, d, .slice A k c)) := Lib.hid (ha.keep (fun _ _ _ => rfl) (fun b _ hl => hl) _ _)
    have HOK := Lib.hid hok.2.2.1
    have HSZ := Lib.hid hok.2.2.2
    have HCALL : Hid (∀ (g : Nat) (u : World), (w1.alloc (.cells #[.int .u8 a, .int .u8 d, .slice A k c] 40)).heap.size ≤ g → (w1.alloc (.cells #[.int .u8 a, .int .u8 d, .slice A k c] 40)).grownBy u none → EnvAt u g env0 →
        Calls Try.prog 44 #[.pointer (some ⟨g, 0, none⟩), .agg #[.int .u8 a, .int .u8 d, .slice A k c]] u (SDP r g env0 u)) := Lib.hid (fun g u hge hu hue => by
      rw [← HR.out]
      exact sdep_any 80 t _ (a, d, .slice A k c) g env0 u HSZ.out HOK.out env0_bd ((HA.out.grown (World.grownBy_alloc w1 _ none)).grown hu) (fun b (hb : b < w1.heap.size) => by rw [World.size_alloc] at hge; omega) hue)
    clear hg hr hb ha hok
    go_wp2_with fail
    go_region_law (first
      | (go_simp
         go_at_call 44
         refine (HCALL.out _ _ HGE.out HG2.out HE2.out).mono ?_
         rintro e w3 ⟨rfl, hg3, -⟩
         have HG3 := Lib.hid hg3
         clear hg3)
      | (go_simp
         go_at_call 43
         refine (sstart_any _).mono ?_
         rintro e w2 ⟨g, rfl, hge, hg2, he2⟩
         have hg2' := (gr_drewN (w1.alloc (.cells #[.int .u8 a, .int .u8 d, .slice A k c] 40)) 1 none).trans hg2
         have HG2 := Lib.hid hg2'
         have x0a := hg2'.cell x0 (by simp)
         have x1a := hg2'.cell x1 (by simp)
         have x2a := hg2'.cell x2 (by simp)
         have HGE : Hid ((w1.alloc (.cells #[.int .u8 a, .int .u8 d, .slice A k c] 40)).heap.size ≤ g) := Lib.hid hge
         have HE2 := Lib.hid he2
         clear hge hg2 he2 hg2'))
    all_goals
      go_wp2_with fail
    all_goals
      go_ret
      exact ⟨rfl, gr_new (HG.out.trans HG2.out) HG3.out (Nat.le_trans HG.out.size HGE.out)⟩

end Go.Proofs.Ytjcbhjldanakeaa
