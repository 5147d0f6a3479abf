/- What SignOf of the program and of the model do: the same answer, for every text. -/
import Derived.Test.YtmofoeljajdhmaaKids
import Derived.Test.YtmofoeljajdhmaaTTerm
import Derived.Test.YtmofoeljajdhmaaSTerm
import Derived.Test.YtmofoeljajdhmaaOne
namespace Go.Proofs.Ytmofoeljajdhmaa
open Go.RowKit

theorem own_len {w : World} {base : Nat} {e : TypeId} {size n : Nat} {A : Option Addr} {k c : Nat} {xs : List Value} (h : w.ownsRow base e size (.slice A k c) n xs) : k = n := by
  rcases h.2 with ⟨hv, hn⟩ | ⟨g, cap, cur, hv, _⟩
  · cases hv; exact hn.symm
  · cases hv; rfl

/-- The sign of a term as a text. -/
def tsignA (s : ByteArray) : ByteArray := match readT s with
  | some t => one t.sgn
  | none => ⟨#[]⟩

set_option maxRecDepth 100000 in
set_option maxHeartbeats 1000000 in
theorem tsign_impl (s : ByteArray) (_hs : s.size ≤ 1048576) (w : World) :
    Calls Try.prog 21 #[.string s] w fun e w' => e = .returned (.string (tsignA s)) ∧ w.grownBy w' none := by
  have H := Lib.hid (term_any s w)
  obtain ⟨b, hb⟩ : ∃ b, tsignA s = b := ⟨_, rfl⟩
  rw [hb]
  have HB := Lib.hid hb
  clear hb
  go_enter Try.func21, Try.ntmps21
  go_wp2_with fail
  refine H.out.mono ?_
  intro e w1 hp
  unfold TermPost at hp
  have hb := HB.out
  unfold tsignA at hb
  cases hr : readT s with
  | none =>
    rw [hr] at hp hb
    subst hb
    obtain ⟨rfl, hg⟩ := hp
    have HG := Lib.hid hg
    clear hg hr
    go_wp2_with fail
    go_ret
    exact ⟨rfl, HG.out⟩
  | some t =>
    rw [hr] at hp hb
    obtain ⟨v, rfl, hg, ha⟩ := hp
    obtain ⟨ty, pv, rfl⟩ := ha.iface
    have HG := Lib.hid hg
    have hm := method_sign ha
    have hrun := run_sign t pv
    have HS := Lib.hid (sign_any t _ ty pv w1 ha)
    have HBT := Lib.hid hb
    clear hg ha hr hb
    go_wp2_with fail
    refine HS.out.mono ?_
    rintro e w' ⟨rfl, rfl⟩
    have hcv := conv_byte w' t.sgn _ rfl
    rw [HBT.out] at hcv
    go_wp2_with fail
    go_ret
    exact ⟨rfl, HG.out.trans (World.grownBy_alloc _ _ _)⟩

set_option maxRecDepth 100000 in
set_option maxHeartbeats 1000000 in
theorem tsign_spec (s : ByteArray) (hs : s.size ≤ 1048576) (w : World) :
    Calls Try.prog 24 #[.string s] w fun e w' => e = .returned (.string (tsignA s)) ∧ w.grownBy w' none := by
  have H := Lib.hid (sterm_any s hs w)
  obtain ⟨b, hb⟩ : ∃ b, tsignA s = b := ⟨_, rfl⟩
  rw [hb]
  have HB := Lib.hid hb
  clear hb
  go_enter Try.func24, Try.ntmps24
  go_wp2_with fail
  refine H.out.mono ?_
  intro e w1 hp
  unfold STermPost at hp
  have hb := HB.out
  unfold tsignA at hb
  cases hr : readT s with
  | none =>
    rw [hr] at hp hb
    subst hb
    obtain ⟨rfl, hg⟩ := hp
    have HG := Lib.hid hg
    clear hg hr
    go_wp2_with fail
    go_ret
    exact ⟨rfl, HG.out.trans (World.grownBy_alloc _ _ _)⟩
  | some t =>
    rw [hr] at hp hb
    obtain ⟨a, d, A, k, c, rfl, hg, ha⟩ := hp
    have HG := Lib.hid (hg.trans (World.grownBy_alloc w1 (.cells #[.int .u8 a, .int .u8 d, .slice A k c] 70) none))
    have HX := Lib.hid (c3_new w1 (.int .u8 a) (.int .u8 d) (.slice A k c) 70)
    have x0 := HX.out.c0
    have x1 := HX.out.c1
    have x2 := HX.out.c2
    have HBT := Lib.hid hb
    clear hg hr hb
    have hcase : (k = 0 ∧ d = t.sgn) ∨ (0 < k ∧ a = t.sgn) := by
      cases t with
      | dig c => obtain ⟨h1, h2, h3, _⟩ := ha; exact .inl ⟨own_len h3, h2⟩
      | var c => obtain ⟨h1, h2, h3, _⟩ := ha; exact .inl ⟨own_len h3, h2⟩
      | pre c s => obtain ⟨h1, h2, y, h3, _⟩ := ha; exact .inr ⟨by rw [own_len h3]; omega, h1⟩
      | two c s t => obtain ⟨h1, h2, y, z, h3, _⟩ := ha; exact .inr ⟨by rw [own_len h3]; omega, h1⟩
      | loop c i s t => obtain ⟨h1, h2, y, z, h3, _⟩ := ha; exact .inr ⟨by rw [own_len h3]; omega, h1⟩
    clear ha
    rcases hcase with ⟨rfl, h⟩ | ⟨hk, h⟩
    · have HD := Lib.hid h
      clear h
      have hcv := conv_byte (w1.alloc (.cells #[.int .u8 a, .int .u8 d, .slice A 0 c] 70)) d (w1.heap.size + 1) (by simp)
      rw [show one d = b by rw [HD.out]; exact HBT.out] at hcv
      go_wp2_with fail
      go_ret
      exact ⟨rfl, HG.out.trans (World.grownBy_alloc _ _ _)⟩
    · have HD := Lib.hid h
      have hk0 : ((k : Int) == 0) = false := by rw [beq_eq_false_iff_ne]; omega
      clear h
      have hcv := conv_byte (w1.alloc (.cells #[.int .u8 a, .int .u8 d, .slice A k c] 70)) a (w1.heap.size + 1) (by simp)
      rw [show one a = b by rw [HD.out]; exact HBT.out] at hcv
      go_wp2_with fail
      go_ret
      exact ⟨rfl, HG.out.trans (World.grownBy_alloc _ _ _)⟩

end Go.Proofs.Ytmofoeljajdhmaa
