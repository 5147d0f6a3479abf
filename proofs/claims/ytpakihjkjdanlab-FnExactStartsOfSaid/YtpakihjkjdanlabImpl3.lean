/- What SumSegments, MostSegments and MergeLengths of the program do. -/
import Derived.Test.YtpakihjkjdanlabJoins
namespace Go.Proofs.Ytpakihjkjdanlab
open Go.RowKit

theorem postB_of {zs : List Int} {b : Bool} {w w0 w' : World} {A : Option Addr} {c n : Nat} (hn : zs.length = n) (h0 : w0.heap.size ≤ w.heap.size) (hg : w0.grownBy w' none) (ho : w'.ownsRow w.heap.size 3 1 (.slice A n c) n (zs.map (Value.int .i64))) {e : Ending} (he : e = .returned (.tuple #[.slice A n c, .bool b])) : ListPostB zs b w0 e w' := by
  subst hn
  exact ⟨A, c, he, hg, own_base ho h0⟩
theorem postB_nil (w w' : World) (hg : w.grownBy w' none) : ListPostB [] false w (.returned (.tuple #[.slice none 0 0, .bool false])) w' := ⟨none, 0, rfl, hg, World.ownsRow_nil _ _ _ _⟩
theorem okN_up {lo hi : Int} (h : lo ≤ hi) : ∀ {l : List Int}, okN lo l = true → okN hi l = true
  | [], _ => rfl
  | z :: l, h1 => by
    simp only [okN, Bool.and_eq_true, decide_eq_true_eq] at h1 ⊢
    exact ⟨⟨h1.1.1, by omega⟩, okN_up h h1.2⟩

def sumsR (L D : List Int) : List Int := if segsB L D = true then (cutI L D).map (fun l => l.foldl addF 0) else []
def mostR (L D : List Int) : List Int := if segsB L D = true then (cutI L D).map (fun l => l.foldl mostF 0) else []
def mergeB (L D : List Int) : Bool := lensB L && (lensB D && decide ((D.length : Int) = sumI L))
def mergeR (L D : List Int) : List Int := if mergeB L D = true then (cutI L D).map (fun l => l.foldl plusF 0) else []

set_option maxHeartbeats 1000000 in
theorem sums_impl (v u : Value) (L D : List Int) (w : World) (hv : OwnI w v L) (hu : OwnI w u D) (hn : L.length ≤ 1048576) (hm : D.length ≤ 1048576) :
    Calls Try.prog 25 #[v, u] w (ListPostB (sumsR L D) (segsB L D) w) := by
  have HV := Lib.hid hv
  have HU := Lib.hid hu
  obtain ⟨A, c, rfl, hA, _, _, _⟩ := hv.form
  obtain ⟨B, d, rfl, hB, _, _, _⟩ := hu.form
  have HS := Lib.hid (segv_any A B c d L D w hA hB hn hm)
  obtain ⟨n, hnn⟩ : ∃ n, L.length = n := ⟨_, rfl⟩
  obtain ⟨m, hmm⟩ : ∃ m, D.length = m := ⟨_, rfl⟩
  cases hs : segsB L D with
  | false =>
    have hr : sumsR L D = [] := by simp [sumsR, hs]
    rw [hs, hnn, hmm] at HS
    rw [hr, hnn, hmm]
    clear hA hB hn hm hnn hmm hs hr hv hu
    go_enter Try.func25, Try.ntmps25
    go_wp2_with fail
    refine HS.out.mono ?_
    rintro e w1 ⟨rfl, rfl⟩
    go_wp2_with fail
    go_ret2
    exact postB_nil _ _ (gr_refl _ _)
  | true =>
    have hr : sumsR L D = (cutI L D).map (fun l => l.foldl addF 0) := by simp [sumsR, hs]
    obtain ⟨h1, h2, h3⟩ := segsB_get hs
    have HF := Lib.hid (foldsegs_any 60 addF 0 (fun _ => 10006) joins_add A B c d L D 0 w HV.out HU.out h1 h2 h3 (by omega) (by omega))
    rw [← hr] at HF
    rw [hs, hnn, hmm] at HS
    rw [hnn, hmm] at HF
    rw [hnn, hmm]
    obtain ⟨zs, hzs⟩ : ∃ zs, sumsR L D = zs := ⟨_, rfl⟩
    rw [hzs] at HF ⊢
    clear hA hB hn hm hnn hmm hs hr hv hu h1 h2 h3 hzs
    go_enter Try.func25, Try.ntmps25
    go_wp2_with fail
    refine HS.out.mono ?_
    rintro e w1 ⟨rfl, rfl⟩
    go_wp2_with fail
    refine HF.out.mono ?_
    rintro e w1 ⟨A1, c1, rfl, hg, ho⟩
    have HP := Lib.hid (And.intro hg ho)
    clear hg ho
    go_wp2_with fail
    go_ret2
    exact ⟨A1, c1, rfl, HP.out.1, HP.out.2⟩

set_option maxHeartbeats 1000000 in
theorem most_impl (v u : Value) (L D : List Int) (w : World) (hv : OwnI w v L) (hu : OwnI w u D) (hn : L.length ≤ 1048576) (hm : D.length ≤ 1048576) :
    Calls Try.prog 27 #[v, u] w (ListPostB (mostR L D) (segsB L D) w) := by
  have HV := Lib.hid hv
  have HU := Lib.hid hu
  obtain ⟨A, c, rfl, hA, _, _, _⟩ := hv.form
  obtain ⟨B, d, rfl, hB, _, _, _⟩ := hu.form
  have HS := Lib.hid (segv_any A B c d L D w hA hB hn hm)
  obtain ⟨n, hnn⟩ : ∃ n, L.length = n := ⟨_, rfl⟩
  obtain ⟨m, hmm⟩ : ∃ m, D.length = m := ⟨_, rfl⟩
  cases hs : segsB L D with
  | false =>
    have hr : mostR L D = [] := by simp [mostR, hs]
    rw [hs, hnn, hmm] at HS
    rw [hr, hnn, hmm]
    clear hA hB hn hm hnn hmm hs hr hv hu
    go_enter Try.func27, Try.ntmps27
    go_wp2_with fail
    refine HS.out.mono ?_
    rintro e w1 ⟨rfl, rfl⟩
    go_wp2_with fail
    go_ret2
    exact postB_nil _ _ (gr_refl _ _)
  | true =>
    have hr : mostR L D = (cutI L D).map (fun l => l.foldl mostF 0) := by simp [mostR, hs]
    obtain ⟨h1, h2, h3⟩ := segsB_get hs
    have HF := Lib.hid (foldsegs_any 62 mostF 0 (fun _ => 10006) joins_most A B c d L D 0 w HV.out HU.out h1 h2 h3 (by omega) (by omega))
    rw [← hr] at HF
    rw [hs, hnn, hmm] at HS
    rw [hnn, hmm] at HF
    rw [hnn, hmm]
    obtain ⟨zs, hzs⟩ : ∃ zs, mostR L D = zs := ⟨_, rfl⟩
    rw [hzs] at HF ⊢
    clear hA hB hn hm hnn hmm hs hr hv hu h1 h2 h3 hzs
    go_enter Try.func27, Try.ntmps27
    go_wp2_with fail
    refine HS.out.mono ?_
    rintro e w1 ⟨rfl, rfl⟩
    go_wp2_with fail
    refine HF.out.mono ?_
    rintro e w1 ⟨A1, c1, rfl, hg, ho⟩
    have HP := Lib.hid (And.intro hg ho)
    clear hg ho
    go_wp2_with fail
    go_ret2
    exact ⟨A1, c1, rfl, HP.out.1, HP.out.2⟩

set_option maxHeartbeats 1000000 in
theorem merge_impl (v u : Value) (L D : List Int) (w : World) (hv : OwnI w v L) (hu : OwnI w u D) (hn : L.length ≤ 1048576) (hm : D.length ≤ 1048576) :
    Calls Try.prog 35 #[v, u] w (ListPostB (mergeR L D) (mergeB L D) w) := by
  have HV := Lib.hid hv
  have HU := Lib.hid hu
  obtain ⟨A, c, rfl, hA, _, _, _⟩ := hv.form
  obtain ⟨B, d, rfl, hB, _, _, _⟩ := hu.form
  have HS := Lib.hid (arelen_any A c L w hA hn)
  have HS2 := Lib.hid (arelen_any B d D w hB hm)
  have HSM := Lib.hid (fun hok => sumof_any A c L w hA hok hn)
  obtain ⟨n, hnn⟩ : ∃ n, L.length = n := ⟨_, rfl⟩
  obtain ⟨m, hmm⟩ : ∃ m, D.length = m := ⟨_, rfl⟩
  cases hl : lensB L with
  | false =>
    have hb : mergeB L D = false := by simp [mergeB, hl]
    have hr : mergeR L D = [] := by simp [mergeR, hb]
    rw [hl, hnn] at HS
    rw [hr, hb, hnn, hmm]
    clear hA hB hn hm hnn hmm hl hr hv hu hb
    go_enter Try.func35, Try.ntmps35
    go_wp2_with fail
    refine HS.out.mono ?_
    rintro e w1 ⟨rfl, rfl⟩
    go_wp2_with fail
    go_ret2
    exact postB_nil _ _ (gr_refl _ _)
  | true =>
    cases hl2 : lensB D with
    | false =>
      have hb : mergeB L D = false := by simp [mergeB, hl2]
      have hr : mergeR L D = [] := by simp [mergeR, hb]
      rw [hl, hnn] at HS
      rw [hl2, hmm] at HS2
      rw [hr, hb, hnn, hmm]
      clear hA hB hn hm hnn hmm hl hl2 hr hv hu hb
      go_enter Try.func35, Try.ntmps35
      go_wp2_with fail
      refine HS.out.mono ?_
      rintro e w1 ⟨rfl, rfl⟩
      go_wp2_with fail
      refine HS2.out.mono ?_
      rintro e w1 ⟨rfl, rfl⟩
      go_wp2_with fail
      go_ret2
      exact postB_nil _ _ (gr_refl _ _)
    | true =>
      obtain ⟨_, hok, hs4, hs0⟩ := lensB_get hl
      obtain ⟨_, hok2, _, _⟩ := lensB_get hl2
      have HSM2 := Lib.hid (HSM.out hok)
      obtain ⟨s, hss⟩ : ∃ s : Nat, sumI L = (s : Int) := ⟨(sumI L).toNat, by omega⟩
      rw [hss, hnn] at HSM2
      rw [hl, hnn] at HS
      rw [hl2, hmm] at HS2
      by_cases he : m = s
      · have hb : mergeB L D = true := by simp [mergeB, hl, hl2, hss, hmm, he]
        have hr : mergeR L D = (cutI L D).map (fun l => l.foldl plusF 0) := by simp [mergeR, hb]
        have HF := Lib.hid (foldsegs_any 69 plusF 0 (fun j => 10006 * j) joins_plus A B c d L D 0 w HV.out HU.out hl (by omega) (okN_up (by omega) hok2) (by omega) (by omega))
        rw [← hr] at HF
        rw [hnn, hmm] at HF
        rw [hb, hnn, hmm]
        obtain ⟨zs, hzs⟩ : ∃ zs, mergeR L D = zs := ⟨_, rfl⟩
        rw [hzs] at HF ⊢
        have hne : ((m : Int) != (s : Int)) = false := by simp [he]
        clear hA hB hn hm hnn hmm hl hl2 hr hv hu hb hzs he hss hs0 hs4 hok hok2 HSM
        go_enter Try.func35, Try.ntmps35
        go_wp2_with fail
        refine HS.out.mono ?_
        rintro e w1 ⟨rfl, rfl⟩
        go_wp2_with fail
        refine HS2.out.mono ?_
        rintro e w1 ⟨rfl, rfl⟩
        go_wp2_with fail
        refine HSM2.out.mono ?_
        rintro e w1 ⟨rfl, rfl⟩
        go_wp2_with fail
        refine HF.out.mono ?_
        rintro e w1 ⟨A1, c1, rfl, hg, ho⟩
        have HP := Lib.hid (And.intro hg ho)
        clear hg ho
        go_wp2_with fail
        go_ret2
        exact ⟨A1, c1, rfl, HP.out.1, HP.out.2⟩
      · have hb : mergeB L D = false := by simp [mergeB, hl, hl2, hss, hmm]; omega
        have hr : mergeR L D = [] := by simp [mergeR, hb]
        rw [hr, hb, hnn, hmm]
        have hne : ((m : Int) != (s : Int)) = true := by rw [bne_iff_ne]; omega
        clear hA hB hn hm hnn hmm hl hl2 hr hv hu hb he hss hs0 hs4 hok hok2 HSM
        go_enter Try.func35, Try.ntmps35
        go_wp2_with fail
        refine HS.out.mono ?_
        rintro e w1 ⟨rfl, rfl⟩
        go_wp2_with fail
        refine HS2.out.mono ?_
        rintro e w1 ⟨rfl, rfl⟩
        go_wp2_with fail
        refine HSM2.out.mono ?_
        rintro e w1 ⟨rfl, rfl⟩
        go_wp2_with fail
        go_ret2
        exact postB_nil _ _ (gr_refl _ _)

end Go.Proofs.Ytpakihjkjdanlab
