/- What LevelsOf of the program and of the model do: the same answer, for every text. -/
import Derived.Test.YtjcbhjldanakeaaTLev
import Derived.Test.YtjcbhjldanakeaaTTerm
namespace Go.Proofs.Ytjcbhjldanakeaa
open Go.RowKit

def tlevA (s : ByteArray) : Int := match readT s with
  | some t => (t.levels : Int)
  | none => -1

theorem tlev_impl (s : ByteArray) (_hs : s.size ≤ 1048576) (w : World) :
    Calls Try.prog 33 #[.string s] w fun e w' => e = .returned (.int .i64 (tlevA s)) ∧ w.grownBy w' none := by
  have H := Lib.hid (term_any s w)
  obtain ⟨b, hb⟩ : ∃ b, tlevA s = b := ⟨_, rfl⟩
  rw [hb]
  have HB := Lib.hid hb
  clear hb
  go_enter Try.func33, Try.ntmps33
  go_wp2_with fail
  refine H.out.mono ?_
  intro e w1 hp
  unfold TermPost at hp
  have hb := HB.out
  unfold tlevA at hb
  cases hr : readT s with
  | none =>
    rw [hr] at hp hb
    obtain rfl : b = -1 := hb.symm
    obtain ⟨rfl, hg⟩ := hp
    have HG := Lib.hid hg
    clear hg hr hb
    go_wp2_with fail
    go_ret
    exact ⟨rfl, HG.out⟩
  | some t =>
    rw [hr] at hp hb
    obtain ⟨v, rfl, hg, ha⟩ := hp
    obtain ⟨ty, pv, rfl⟩ := ha.iface
    have HG := Lib.hid hg
    have HC := Lib.hid (tlevels_any t.size t _ ty pv w1 (Nat.le_refl _) (by have := (readT_some hr).2.2.2; omega) ha)
    simp only [hb] at HC
    clear hg ha hr hb
    go_wp2_with fail
    refine HC.out.mono ?_
    rintro e w2 ⟨rfl, hg2⟩
    have HG2 := Lib.hid hg2
    clear hg2
    go_wp2_with fail
    go_ret
    exact ⟨rfl, HG.out.trans HG2.out⟩

theorem tlev_spec (s : ByteArray) (hs : s.size ≤ 1048576) (w : World) :
    Calls Try.prog 32 #[.string s] w fun e w' => e = .returned (.int .i64 (tlevA s)) ∧ w.grownBy w' none := by
  have H := Lib.hid (sterm_any s hs w)
  obtain ⟨b, hb⟩ : ∃ b, tlevA s = b := ⟨_, rfl⟩
  rw [hb]
  have HB := Lib.hid hb
  clear hb
  go_enter Try.func32, Try.ntmps32
  go_wp2_with fail
  refine H.out.mono ?_
  intro e w1 hp
  unfold STermPost at hp
  have hb := HB.out
  unfold tlevA at hb
  cases hr : readT s with
  | none =>
    rw [hr] at hp hb
    obtain rfl : b = -1 := hb.symm
    obtain ⟨rfl, hg⟩ := hp
    have HG := Lib.hid hg
    clear hg hr hb
    go_wp2_with fail
    go_ret
    exact ⟨rfl, HG.out.trans (World.grownBy_alloc _ _ _)⟩
  | some t =>
    rw [hr] at hp hb
    obtain ⟨a, d, A, k, c, rfl, hg, ha⟩ := hp
    have HX := Lib.hid (c3_new w1 (.int .u8 a) (.int .u8 d) (.slice A k c) 40)
    have x0 := HX.out.c0
    have x1 := HX.out.c1
    have x2 := HX.out.c2
    have HG := Lib.hid (hg.trans (World.grownBy_alloc w1 (.cells #[.int .u8 a, .int .u8 d, .slice A k c] 40) none))
    have HC := Lib.hid (slevels_any t.size t _ a d A k c _ (Nat.le_refl _) (by have := (readT_some hr).2.2.2; omega) (readT_some hr).2.2.1 (ha.grown (World.grownBy_alloc w1 (.cells #[.int .u8 a, .int .u8 d, .slice A k c] 40) none)))
    simp only [hb] at HC
    clear hg ha hr hb
    go_wp2_with fail
    refine HC.out.mono ?_
    rintro e w2 ⟨rfl, hg2⟩
    have HG2 := Lib.hid hg2
    clear hg2
    go_wp2_with fail
    go_ret
    exact ⟨rfl, HG.out.trans HG2.out⟩

end Go.Proofs.Ytjcbhjldanakeaa
