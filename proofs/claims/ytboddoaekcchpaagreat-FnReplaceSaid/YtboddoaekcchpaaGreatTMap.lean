/- The program's maps from variables to depths: how they read; a copy with one variable more. -/
import Derived.Test.YtboddoaekcchpaaGreatTmD
import Derived.Test.YtboddoaekcchpaaGreatGr
import Derived.Test.YtboddoaekcchpaaGreatKeyV
import Derived.Maps.OwnSet
import Derived.Shelf.Lay
import Derived.Shelf.SlMaps.Clone
import Derived.Ground.SlmcProg
namespace Go.Proofs
open Go.Shelf
shelf_lay_g SlLaysW.n5 Slmc 5 at Tryz 79 as Tryz.cloneV
end Go.Proofs
namespace Go.Proofs.YtboddoaekcchpaaGreat
open Go.RowKit Go.Maps

theorem zeroI (w : World) : (zeroValue 3).run Tryz.prog w = .ok (.int .i64 0) w := by kernel_rfl

/-- A map's datum says what depths variables have: -1 for those that it lacks. -/
def Reads (D : DataW Unit) (e : Int → Int) : Prop := IsMap D ∧ ∀ v : Int, 0 ≤ v → v ≤ 255 → (Maps.has D (.int .u8 v) = false ∧ e v = -1) ∨ (Maps.has D (.int .u8 v) = true ∧ ∀ zd, D.atKey (.int .u8 v) zd = .lit (.int .i64 (e v)))
theorem Reads.put {D : DataW Unit} {e : Int → Int} (h : Reads D e) (x d : Int) : Reads (D.put (.int .u8 x) (.lit (.int .i64 d))) (upd e x d) := by
  refine ⟨h.1.put _ _, fun v h0 h1 => ?_⟩
  by_cases hv : v = x
  · subst hv
    exact .inr ⟨has_put_same h.1 (by trivial) _, fun zd => by rw [atKey_put_same h.1 (by trivial)]; simp [upd]⟩
  · have hne : (Lit.int .u8 v) ≠ .int .u8 x := fun e => hv (by cases e; rfl)
    rw [has_put_other hne]
    have e1 : upd e x d v = e v := by simp [upd, hv]
    rw [e1]
    refine (h.2 v h0 h1).imp id (fun ⟨a, b⟩ => ⟨a, fun zd => ?_⟩)
    rw [atKey_put_other hne]
    exact b zd

/-- A map in memory that says what depths variables have. -/
def VMap (w : World) (b m : Nat) (e : Int → Int) : Prop := ∃ D : DataW Unit, w.ownsMap Tryz.prog 51 (plainElem Tryz.prog 3) b m D ∧ Reads D e
theorem VMap.grown {w w' : World} {b m : Nat} {e : Int → Int} (h : VMap w b m e) (hg : w.grownBy w' none) : VMap w' b m e := by
  obtain ⟨D, ho, hr⟩ := h
  exact ⟨D, ho.kept hg (by simp), hr⟩
theorem i64wf {d : Int} (h0 : -1 ≤ d) (h1 : d ≤ 3) : (Lit.int .i64 d).wf = true := by
  have : d = -1 ∨ d = 0 ∨ d = 1 ∨ d = 2 ∨ d = 3 := by omega
  rcases this with h | h | h | h | h <;> subst h <;> decide

set_option maxRecDepth 100000 in
set_option maxHeartbeats 1000000 in
theorem with_any (b m : Nat) (e : Int → Int) (x d : Int) (w : World) (hx0 : 0 ≤ x) (hx1 : x ≤ 255) (hd : -1 ≤ d ∧ d ≤ 3) (hm : m ≤ 1000000) (h : VMap w b m e) :
    Calls Tryz.prog 59 #[.map (some b), .int .u8 x, .int .i64 d] w fun e' w' => ∃ b', e' = .returned (.map (some b')) ∧ w.grownBy w' none ∧ VMap w' b' (m + 1) (upd e x d) := by
  obtain ⟨D, ho, hr⟩ := h
  have HC := Lib.hid (AnyW.maps_Clone_owns Tryz.cloneV _ _ b m D w ho)
  have HR := Lib.hid hr
  have hkey := keyV hx0 hx1
  clear ho hr
  go_enter Tryz.func59, Tryz.ntmps59
  go_wp2_with fail
  go_at_call 79
  refine HC.out.mono ?_
  rintro e1 w1 ⟨rfl, hown, _, hB⟩
  have hg1 : w.grownBy w1 none := ⟨hB.os, hB.tape, hB.output, hB.size, fun k hk _ => hB.block k hk⟩
  have HG1 := Lib.hid hg1
  clear hg1 hB
  go_wp2_with (at_mapUpdate; refine wpList_mapUpdate_own _ rfl _ _ _ 73 rfl 51 3 keyedV Tryz.underlying73 _ w.heap.size m _ rfl hown (by simp only [maxLen]; omega) _ _ _ rfl rfl hkey _ [] (plainElem_int Tryz.underlying3 (i64wf hd.1 hd.2)) ?_)
  intro w2 hown2 hg2
  have HO2 := Lib.hid hown2
  have HG2 := Lib.hid hg2
  clear hown hown2 hg2
  go_wp2_with fail
  go_ret
  exact ⟨_, rfl, gr_new HG1.out HG2.out (Nat.le_refl _), _, HO2.out, HR.out.put x d⟩

end Go.Proofs.YtboddoaekcchpaaGreat
