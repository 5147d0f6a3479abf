/- What l5Text of the model does at whatever term. -/
import Derived.Test.YtmofoeljajdhmaaSTxtL
import Derived.Test.YtmofoeljajdhmaaTSign
namespace Go.Proofs.Ytmofoeljajdhmaa
open Go.RowKit

theorem stxt_any : ∀ (t : Tm) (S : Nat → Prop) (a b : Int) (A : Option Addr) (k c : Nat) (w : World), t.Ok → t.txt.length ≤ 1000000 → SN w S t (a, b, .slice A k c) →
    Calls Try.prog 78 #[.agg #[.int .u8 a, .int .u8 b, .slice A k c]] w (STxtPost t w)
  | .dig d, S, a, b, A, k, c, w, _, _, h => by
    obtain ⟨_, h2, ho, _⟩ := h
    simp only at h2 ho
    subst h2
    obtain rfl := own_len ho
    exact stxt_leaf _ a b A c w rfl
  | .var d, S, a, b, A, k, c, w, _, _, h => by
    obtain ⟨_, h2, ho, _⟩ := h
    simp only at h2 ho
    subst h2
    obtain rfl := own_len ho
    exact stxt_leaf _ a b A c w rfl
  | .pre d s, S, a, b, A, k, c, w, hok, hl, h => by
    obtain ⟨h1, h2, ⟨y1, y2, y3⟩, ho, _, hs⟩ := h
    simp only at h1 h2 ho
    subst h1; subst h2
    obtain rfl := own_len ho
    obtain ⟨A2, k2, c2, hsv⟩ := hs.form
    simp only at hsv
    subst hsv
    have hl2 : s.txt.length ≤ 1000000 := by simp only [Tm.txt, List.length_cons] at hl; omega
    exact stxt_pre _ s a 0 y1 y2 A A2 c k2 c2 w rfl hl2 ho (fun u hg => (stxt_any s S y1 y2 A2 k2 c2 u hok.2 hl2 (hs.grown hg)))
  | .two d s t, S, a, b, A, k, c, w, hok, hl, h => by
    obtain ⟨h1, h2, ⟨y1, y2, y3⟩, ⟨z1, z2, z3⟩, ho, _, hs, ht⟩ := h
    simp only at h1 h2 ho
    subst h1; subst h2
    obtain rfl := own_len ho
    obtain ⟨A2, k2, c2, hsv⟩ := hs.form
    obtain ⟨A3, k3, c3, htv⟩ := ht.form
    simp only at hsv htv
    subst hsv; subst htv
    have hl2 : s.txt.length ≤ 1000000 ∧ t.txt.length ≤ 1000000 := by simp only [Tm.txt, List.length_cons, List.length_append] at hl; omega
    exact stxt_two _ s t a y1 y2 z1 z2 A A2 A3 c k2 c2 k3 c3 w rfl hl ho (fun u hg => stxt_any s S y1 y2 A2 k2 c2 u hok.2.1 hl2.1 (hs.grown hg)) (fun u hg => stxt_any t S z1 z2 A3 k3 c3 u hok.2.2 hl2.2 (ht.grown hg))
  | .loop d i s t, S, a, b, A, k, c, w, hok, hl, h => by
    obtain ⟨h1, h2, ⟨y1, y2, y3⟩, ⟨z1, z2, z3⟩, ho, _, hs, ht⟩ := h
    simp only at h1 h2 ho
    subst h1; subst h2
    obtain rfl := own_len ho
    obtain ⟨A2, k2, c2, hsv⟩ := hs.form
    obtain ⟨A3, k3, c3, htv⟩ := ht.form
    simp only at hsv htv
    subst hsv; subst htv
    have hl2 : s.txt.length ≤ 1000000 ∧ t.txt.length ≤ 1000000 := by simp only [Tm.txt, List.length_cons, List.length_append] at hl; omega
    have hi := isL_ge hok.2.1
    exact stxt_loop _ s t a b y1 y2 z1 z2 A A2 A3 c k2 c2 k3 c3 w hok.1 (by rw [bne_iff_ne]; omega) rfl hl ho (fun u hg => stxt_any s S y1 y2 A2 k2 c2 u hok.2.2.1 hl2.1 (hs.grown hg)) (fun u hg => stxt_any t S z1 z2 A3 k3 c3 u hok.2.2.2 hl2.2 (ht.grown hg))

end Go.Proofs.Ytmofoeljajdhmaa
