/- What takePart of the program does where there are no levels: one number is cut off. -/
import Derived.Test.YtdfanconjiiceaaPart
namespace Go.Proofs.Ytdfanconjiiceaa
open Go.RowKit

set_option maxRecDepth 100000 in
set_option maxHeartbeats 4000000 in
theorem takepart_none (B g cB cR : Nat) (Bd R : Option Addr) (D : List Int) (w : World) (hp : Pr w g 70 (.slice Bd D.length cB) (.slice R 0 cR)) (hd : SlB B w (.slice Bd D.length cB) D) (hB : B ≤ g) (h1 : 1 ≤ D.length) :
    Calls Try.prog 91 #[.pointer (some ⟨g, 0, none⟩)] w fun e w' => ∃ Bd2 cd, e = .returned (.agg #[.slice Bd 1 1, .slice none 0 0]) ∧ LowK B w w' ∧ KpX g g w.heap.size w w' ∧
      Pr w' g 70 (.slice Bd2 (D.length - 1) cd) (.slice R 0 cR) ∧ SlB B w' (.slice Bd2 (D.length - 1) cd) (D.drop 1) ∧ SlB B w' (.slice Bd 1 1) (D.take 1) := by
  obtain ⟨m, hmm⟩ : ∃ m, D.length = m := ⟨_, rfl⟩
  have HM := Lib.hid hmm
  rw [hmm] at hp hd h1 ⊢
  have hgl := hp.lt
  have hg := (World.grownBy_alloc w (.cells #[.slice none 0 0, .slice none 0 0] 70) none).trans (World.grownBy_alloc _ (.cells #[.slice none 0 0, .slice none 0 0] 70) none)
  have hp0 := hp.grown hg (by simp)
  have hpp := Pr.new (w.alloc (.cells #[.slice none 0 0, .slice none 0 0] 70)) 70 (.slice none 0 0) (.slice none 0 0)
  rw [World.size_alloc] at hpp
  have hpz := (Pr.new w 70 (.slice none 0 0) (.slice none 0 0)).alloc (.cells #[.slice none 0 0, .slice none 0 0] 70)
  have hlow0 := LowK.of (B := B) hg (by simp)
  have hkp0 := KpX.of (g := g) (gR := g) (base := w.heap.size) hg (by simp) (Nat.le_refl _)
  have HKP := Lib.hid hkp0
  have hdl := hd.low hlow0
  obtain ⟨_, hmc, hI, hnil⟩ := hdl.ints
  have HDL := Lib.hid hdl
  have HTA := Lib.hid (take_any g 1 m cB Bd D (.slice R 0 cR) _ hp0 hI hmm hnil h1 (by omega) (fun a ha => by
    obtain ⟨A', c', hv, _, _, h3⟩ := HDL.out
    cases hv
    obtain ⟨b, off, rfl, _⟩ := h3 a ha
    rfl))
  have p1 := hp0.c1
  have HLO := Lib.hid hlow0
  have HPP := Lib.hid (And.intro hpp (And.intro hpz hp0))
  clear hp hd hp0 hpp hpz hlow0 hkp0 hdl hI hnil hmm hg hmc
  go_enter Try.func91, Try.ntmps91
  go_wp2_with fail
  generalize (w.alloc (.cells #[.slice none 0 0, .slice none 0 0] 70)).alloc (.cells #[.slice none 0 0, .slice none 0 0] 70) = u0 at p1 HTA HLO HKP HPP HDL ⊢
  go_loopw [4, 13] (fun kk i wr => kk = .int .i64 1 ∧ i = .int .i64 0 ∧ wr = u0) (fun _ _ _ => 0)
  case atStart => exact ⟨rfl, rfl, rfl⟩
  case round =>
    obtain ⟨rfl, rfl, rfl⟩ := hrel
    go_wp2_with fail
    refine HTA.out.mono ?_
    rintro e w9 ⟨rfl, hg9, A', c', hp9, hcase⟩
    obtain ⟨hpp, hpz, hp0⟩ := HPP.out
    have pp9 := hpp.grown hg9 (by simp; omega)
    have pz9 := hpz.grown hg9 (by simp; omega)
    have q0 := pp9.c0
    have f0 := pp9.f 0
    have hgs := gr_set w9 (w.heap.size + 1) 0 (.slice Bd 1 1)
    have pz10 := pz9.grown hgs (by simp)
    have pp10 := pp9.set0 (.slice Bd 1 1)
    have HH := Lib.hid (And.intro hg9 (And.intro hp9 (And.intro pz10 (And.intro hgs hcase))))
    have q2 := pp10.c0
    have q3 := pp10.c1
    have z0 := pz10.c0
    have z1 := pz10.c1
    have zf0 := pz10.f 0
    have zf1 := pz10.f 1
    clear hg9 hp9 pp9 pz9 hgs pz10 pp10 hcase hpp hpz hp0 HTA p1
    go_wp2_with fail
    obtain ⟨hg9, hp9, pz10, hgs, hcase⟩ := HH.out
    have T1 := (pz10.set0 (.slice Bd 1 1)).set1 (.slice none 0 0)
    have r0 := T1.c0
    have r1 := T1.c1
    refine bodyPost_ret (v := .agg #[.slice Bd 1 1, .slice none 0 0]) (by simp [results, Try.results91, go_sem, r0, r1]) rfl ?_
    have hgz := (gr_set (w9.setCell ⟨w.heap.size + 1, 0, none⟩ (.slice Bd 1 1)) w.heap.size 0 (.slice Bd 1 1)).trans (gr_set ((w9.setCell ⟨w.heap.size + 1, 0, none⟩ (.slice Bd 1 1)).setCell ⟨w.heap.size, 0, none⟩ (.slice Bd 1 1)) w.heap.size 1 (.slice none 0 0))
    have hlow := ((LowK.of (B := B) hg9 (fun q hq => by cases hq; exact hB)).trans (LowK.of (B := B) hgs (fun q hq => by cases hq; omega))).trans (LowK.of (B := B) hgz (fun q hq => by cases hq; omega))
    have hszo := HLO.out.1
    have hkp := ((KpX.of (g := g) (gR := g) (base := w.heap.size) hg9 (fun q hq => by cases hq; exact .inl rfl) hszo).trans (KpX.of hgs (fun q hq => by cases hq; right; right; omega) (Nat.le_trans hszo hg9.size))).trans (KpX.of hgz (fun q hq => by cases hq; right; right; omega) (Nat.le_trans hszo (Nat.le_trans hg9.size hgs.size)))
    have pgW := (hp9.grown hgs (by simp; omega)).grown hgz (by simp; omega)
    have hDW := HDL.out.low hlow
    refine ⟨A', c', rfl, HLO.out.trans hlow, HKP.out.trans hkp, pgW, ?_, hDW.front (by have := HM.out; omega)⟩
    rcases hcase with ⟨b, off, rfl, rfl, rfl⟩ | ⟨rfl, rfl, h0⟩
    · exact hDW.rest (by have := HM.out; omega)
    · rw [h0]
      refine SlB.none (List.eq_nil_of_length_eq_zero (by rw [List.length_drop]; have := HM.out; omega)) (fun a ha => ?_)
      obtain ⟨A2, c2, hv, _, _, h3⟩ := hDW
      cases hv
      obtain ⟨b, off, h4, h5, h6, _⟩ := h3 a ha
      exact ⟨b, off, h4, h5, h6⟩

end Go.Proofs.Ytdfanconjiiceaa
