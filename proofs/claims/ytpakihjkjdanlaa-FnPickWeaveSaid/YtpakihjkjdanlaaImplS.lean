/- What SumSegments of the program does. -/
import Derived.Test.YtpakihjkjdanlaaJoins
namespace Go.Proofs.Ytpakihjkjdanlaa
open Go.RowKit

theorem postB_of {zs : List Int} {b : Bool} {w w0 w' : World} {A : Option Addr} {c n : Nat} (hn : zs.length = n) (h0 : w0.heap.size ≤ w.heap.size) (hg : w0.grownBy w' none) (ho : w'.ownsRow w.heap.size 3 1 (.slice A n c) n (zs.map (Value.int .i64))) {e : Ending} (he : e = .returned (.tuple #[.slice A n c, .bool b])) : ListPostB zs b w0 e w' := by
  subst hn
  exact ⟨A, c, he, hg, own_base ho h0⟩
theorem postB_nil (w w' : World) (hg : w.grownBy w' none) : ListPostB [] false w (.returned (.tuple #[.slice none 0 0, .bool false])) w' := ⟨none, 0, rfl, hg, World.ownsRow_nil _ _ _ _⟩
theorem okN_up {lo hi : Int} (h : lo ≤ hi) : ∀ {l : List Int}, okN lo l = true → okN hi l = true
  | [], _ => rfl
  | z :: l, h1 => by
    simp only [okN, Bool.and_eq_true, decide_eq_true_eq] at h1 ⊢
    exact ⟨⟨h1.1.1, by omega⟩, okN_up h h1.2⟩

def sumsR (L D : List Int) : List Int := if segsB L D = true then (cutI L D).map (fun l => l.foldl addF 0) else []
set_option maxHeartbeats 1000000 in
theorem sums_impl (v u : Value) (L D : List Int) (w : World) (hv : OwnI w v L) (hu : OwnI w u D) (hn : L.length ≤ 1048576) (hm : D.length ≤ 1048576) :
    Calls Try.prog 40 #[v, u] w (ListPostB (sumsR L D) (segsB L D) w) := by
  have HV := Lib.hid hv
  have HU := Lib.hid hu
  obtain ⟨A, c, rfl, hA, _, _, _⟩ := hv.form
  obtain ⟨B, d, rfl, hB, _, _, _⟩ := hu.form
  have HS := Lib.hid (segv_any A B c d L D w hA hB hn hm)
  obtain ⟨n, hnn⟩ : ∃ n, L.length = n := ⟨_, rfl⟩
  obtain ⟨m, hmm⟩ : ∃ m, D.length = m := ⟨_, rfl⟩
  cases hs : segsB L D with
  | false =>
    have hr : sumsR L D = [] := by simp [sumsR, hs]
    rw [hs, hnn, hmm] at HS
    rw [hr, hnn, hmm]
    clear hA hB hn hm hnn hmm hs hr hv hu
    go_enter Try.func40, Try.ntmps40
    go_wp2_with fail
    refine HS.out.mono ?_
    rintro e w1 ⟨rfl, rfl⟩
    go_wp2_with fail
    go_ret2
    exact postB_nil _ _ (gr_refl _ _)
  | true =>
    have hr : sumsR L D = (cutI L D).map (fun l => l.foldl addF 0) := by simp [sumsR, hs]
    obtain ⟨h1, h2, h3⟩ := segsB_get hs
    have HF := Lib.hid (foldsegs_any 84 addF 0 (fun _ => 10006) joins_add A B c d L D 0 w HV.out HU.out h1 h2 h3 (by omega) (by omega))
    rw [← hr] at HF
    rw [hs, hnn, hmm] at HS
    rw [hnn, hmm] at HF
    rw [hnn, hmm]
    obtain ⟨zs, hzs⟩ : ∃ zs, sumsR L D = zs := ⟨_, rfl⟩
    rw [hzs] at HF ⊢
    clear hA hB hn hm hnn hmm hs hr hv hu h1 h2 h3 hzs
    go_enter Try.func40, Try.ntmps40
    go_wp2_with fail
    refine HS.out.mono ?_
    rintro e w1 ⟨rfl, rfl⟩
    go_wp2_with fail
    refine HF.out.mono ?_
    rintro e w1 ⟨A1, c1, rfl, hg, ho⟩
    have HP := Lib.hid (And.intro hg ho)
    clear hg ho
    go_wp2_with fail
    go_ret2
    exact ⟨A1, c1, rfl, HP.out.1, HP.out.2⟩

end Go.Proofs.Ytpakihjkjdanlaa
