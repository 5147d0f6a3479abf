/- What CodeOf of the program answers. -/
import Derived.Test.YtfaeolnmkdjhaaaCodP
import Derived.Test.YtfaeolnmkdjhaaaTTerm
namespace Go.Proofs.Ytfaeolnmkdjhaaa
open Go.RowKit

theorem gr_below {w1 w2 w3 : World} (h : w1.grownBy w2 none) (hb : Below w1.heap.size w2 w3) : w1.grownBy w3 none :=
  ⟨hb.os.trans h.os, hb.tape.trans h.tape, hb.output.trans h.output, Nat.le_trans h.size hb.size, fun k hk _ => (hb.block k hk).trans (h.block k hk (by simp))⟩

set_option maxRecDepth 100000 in
set_option maxHeartbeats 2000000 in
theorem cod_impl (s : ByteArray) (w : World) : Calls Try.prog 5 #[.string s] w (CodP s w) := by
  have H := Lib.hid (term_any s w)
  unfold CodP codeV
  cases hr : readT s with
  | none =>
    have HR := Lib.hid hr
    simp only
    clear hr
    go_enter Try.func5, Try.ntmps5
    go_wp2_with fail
    refine H.out.mono ?_
    intro e w1 hp
    unfold TermPost at hp
    rw [HR.out] at hp
    obtain ⟨rfl, hg⟩ := hp
    have HG := Lib.hid hg
    clear hg
    go_wp2_with fail
    go_ret2
    exact ⟨rfl, HG.out⟩
  | some t =>
    have HR := Lib.hid hr
    have hok := readT_some hr
    have HOK := Lib.hid (And.intro hok.2.2.1 hok.2.2.2)
    simp only
    obtain ⟨z, hz⟩ : ∃ z : ByteArray, ⟨(codeL t).toArray⟩ = z := ⟨_, rfl⟩
    have HZ := Lib.hid hz
    rw [hz]
    clear hr hok hz
    go_enter Try.func5, Try.ntmps5
    go_wp2_with fail
    refine H.out.mono ?_
    intro e w1 hp
    unfold TermPost at hp
    rw [HR.out] at hp
    obtain ⟨v, rfl, hg, ha⟩ := hp
    obtain ⟨ty, pv, rfl⟩ := ha.iface
    have HG := Lib.hid hg
    have hg2 := World.grownBy_alloc w1 (.cells #[.pointer none, .slice none 0 0] CW) none
    have hwb : WB (w1.alloc (.cells #[.pointer none, .slice none 0 0] CW)) w1.heap.size w1.heap.size [] := Lib.fresh_isBuilder CW U8 w1
    have hpt : PT (w1.alloc (.cells #[.pointer none, .slice none 0 0] CW)) (fun k => k < w1.heap.size) t (.iface ty pv) := ha.keep (fun k _ hk => hg2.block k hk (by simp)) (fun _ _ hk => hk) t _
    have HC := Lib.hid (wt_any t.size t (.iface ty pv) w1.heap.size w1.heap.size [] _ (Nat.le_refl _) HOK.out.1 hpt hwb (by have := HOK.out.2; simp; omega))
    have HG2 := Lib.hid hg2
    clear hg ha hg2 hwb hpt
    go_wp2_with fail
    refine HC.out.mono ?_
    rintro e w3 ⟨rfl, hw3, hb3, -⟩
    have HS := Lib.hid (bstr_any w1.heap.size w1.heap.size (codeL t) w3 hw3 (codeL_ne t))
    rw [HZ.out] at HS
    have HB3 := Lib.hid hb3
    clear hw3 hb3
    go_wp2_with fail
    refine HS.out.mono ?_
    rintro e w4 ⟨rfl, hb4⟩
    have HB4 := Lib.hid hb4
    clear hb4
    go_wp2_with fail
    go_ret2
    exact ⟨rfl, HG.out.trans (gr_below HG2.out (HB3.out.trans HB4.out))⟩

end Go.Proofs.Ytfaeolnmkdjhaaa
