/- The law FnExactNameOfRule: for every number both functions answer alike, and the table of names reads as it did. No condition but that the table holds what the program's text lays in it. -/
import Derived.Test.YtboddoaekcchpaaDoorGr
import Derived.ProofKit
import Derived.Test.YtboddoaekcchpaaDoorTie
import Derived.Test.YtboddoaekcchpaaDoorCards
import Derived.Lay
import Derived.OpenShut
import Derived.Stop.Joined
import Derived.ChangeSame
import Derived.ChangeVars
import Derived.ChangeArms
namespace Go.Proofs.YtboddoaekcchpaaDoor
open Go.ChangeShapes Go.WideShapes Go.ChangeAt Go.RowKit

theorem knob_own : ownKnob Tryd.prog.godebug = none := by kernel_rfl
abbrev GN : Nat := 0
abbrev TN7 : TypeId := 24
def nm0 : ByteArray := ⟨#[110, 111, 110, 101]⟩
def nm1 : ByteArray := ⟨#[102, 111, 108, 100]⟩
def nm2 : ByteArray := ⟨#[110, 101, 117, 116, 114, 97, 108]⟩
def nm3 : ByteArray := ⟨#[116, 117, 114, 110]⟩
def nm4 : ByteArray := ⟨#[108, 111, 111, 112]⟩
def nm5 : ByteArray := ⟨#[108, 101, 110, 103, 116, 104]⟩
def nm6 : ByteArray := ⟨#[102, 117, 115, 101]⟩
def rnames : Array Value := #[.string nm0, .string nm1, .string nm2, .string nm3, .string nm4, .string nm5, .string nm6]
/-- The name of a rule. -/
def nameA (r : Int) : ByteArray := if r = 0 then nm0 else if r = 1 then nm1 else if r = 2 then nm2 else if r = 3 then nm3 else if r = 4 then nm4 else if r = 5 then nm5 else if r = 6 then nm6 else ⟨#[]⟩
theorem gN : Tryd.prog.globalNamed "loop.example/flatarrays/impl.ruleNames" = some GN := by kernel_rfl
theorem gNT : (Tryd.prog.globals[GN]?).map (·.type) = some TN7 := by kernel_rfl
theorem cellsN : Tryd.prog.cellsOf TN7 = 7 := by kernel_rfl
theorem cellsS : Tryd.prog.cellsOf 9 = 1 := by kernel_rfl

theorem str_of_trod {H : Type} {enc : TypeId × Value → H} {P : Program} {w : World} {base : Nat} {sp : Nat → Bool} {held : Bool} {fuel : Nat} {t : TypeId} {c : Value} {y : DataW H × List MemPlace}
    (ht : P.underlying t = some .string) (h : DataW.trod enc P w base sp held fuel t [c] = some y) : ∃ s : ByteArray, c = .string s ∧ y = (.lit (.string s.data.toList), []) := by
  obtain ⟨s, h1, h2, _⟩ := DataW.trod_string ht h
  simp only [List.cons.injEq, and_true] at h1
  exact ⟨s, h1, h2⟩
theorem ba_eq {s : ByteArray} {l : List UInt8} (h : s.data.toList = l) : s = ⟨l.toArray⟩ := by
  cases s
  subst h
  simp

theorem cells_of_laid {W : World} (h : laidMet Tryd.prog Rows.fnExactNameOfRuleRow.laid W) : W.var? Tryd.prog "loop.example/flatarrays/impl.ruleNames" = some rnames := by
  obtain ⟨ps, ⟨g, t, cs, fuel, p, q, hg, ht, hvar, hd, _, _⟩, _⟩ := h
  obtain rfl := Option.some.inj (gN.symm.trans hg)
  obtain rfl := Option.some.inj (gNT.symm.trans ht)
  rw [hvar]
  congr 1
  obtain ⟨l⟩ := cs
  cases fuel with
  | zero => simp [DataW.trod] at hd
  | succ fuel =>
    simp only [DataW.trod, Tryd.underlying24, cellsN, cellsS] at hd
    split at hd
    · rename_i hl
      obtain ⟨c0, c1, c2, c3, c4, c5, c6, rfl⟩ : ∃ c0 c1 c2 c3 c4 c5 c6, l = [c0, c1, c2, c3, c4, c5, c6] := by
        match l, hl with
        | [a, b, c, d, e, f, g], _ => exact ⟨a, b, c, d, e, f, g, rfl⟩
      have e : List.range 7 = [0, 1, 2, 3, 4, 5, 6] := rfl
      rw [e] at hd
      simp only [Option.map_eq_some_iff, List.mapM_cons, List.mapM_nil, Option.bind_eq_bind, Option.bind_eq_some_iff, Option.pure_def, Option.some.injEq] at hd
      obtain ⟨xs, ⟨y0, h0, _, ⟨y1, h1, _, ⟨y2, h2, _, ⟨y3, h3, _, ⟨y4, h4, _, ⟨y5, h5, _, ⟨y6, h6, _, rfl, rfl⟩, rfl⟩, rfl⟩, rfl⟩, rfl⟩, rfl⟩, rfl⟩, hx⟩ := hd
      obtain ⟨s0, rfl, rfl⟩ := str_of_trod Tryd.underlying9 h0
      obtain ⟨s1, rfl, rfl⟩ := str_of_trod Tryd.underlying9 h1
      obtain ⟨s2, rfl, rfl⟩ := str_of_trod Tryd.underlying9 h2
      obtain ⟨s3, rfl, rfl⟩ := str_of_trod Tryd.underlying9 h3
      obtain ⟨s4, rfl, rfl⟩ := str_of_trod Tryd.underlying9 h4
      obtain ⟨s5, rfl, rfl⟩ := str_of_trod Tryd.underlying9 h5
      obtain ⟨s6, rfl, rfl⟩ := str_of_trod Tryd.underlying9 h6
      simp [Rows.laid_loop_example_flatarrays_impl_ruleNames] at hx
      obtain ⟨⟨e0, e1, e2, e3, e4, e5, e6⟩, _⟩ := hx
      obtain rfl := ba_eq e0
      obtain rfl := ba_eq e1
      obtain rfl := ba_eq e2
      obtain rfl := ba_eq e3
      obtain rfl := ba_eq e4
      obtain rfl := ba_eq e5
      obtain rfl := ba_eq e6
      rfl
    · cases hd

set_option maxHeartbeats 1000000 in
theorem spec_nor (r : Int) (w : World) : Calls Tryd.prog 4 #[.int .i64 r] w fun e w' => e = .returned (.string (nameA r)) ∧ w = w' := by
  by_cases h0 : r = 0
  · subst h0
    go_enter Tryd.func4, Tryd.ntmps4
    go_wp2_with fail
    go_ret
    exact ⟨rfl, rfl⟩
  by_cases h1 : r = 1
  · subst h1
    go_enter Tryd.func4, Tryd.ntmps4
    go_wp2_with fail
    go_ret
    exact ⟨rfl, rfl⟩
  by_cases h2 : r = 2
  · subst h2
    go_enter Tryd.func4, Tryd.ntmps4
    go_wp2_with fail
    go_ret
    exact ⟨rfl, rfl⟩
  by_cases h3 : r = 3
  · subst h3
    go_enter Tryd.func4, Tryd.ntmps4
    go_wp2_with fail
    go_ret
    exact ⟨rfl, rfl⟩
  by_cases h4 : r = 4
  · subst h4
    go_enter Tryd.func4, Tryd.ntmps4
    go_wp2_with fail
    go_ret
    exact ⟨rfl, rfl⟩
  by_cases h5 : r = 5
  · subst h5
    go_enter Tryd.func4, Tryd.ntmps4
    go_wp2_with fail
    go_ret
    exact ⟨rfl, rfl⟩
  by_cases h6 : r = 6
  · subst h6
    go_enter Tryd.func4, Tryd.ntmps4
    go_wp2_with fail
    go_ret
    exact ⟨rfl, rfl⟩
  have hn : nameA r = ⟨#[]⟩ := by unfold nameA; simp [h0, h1, h2, h3, h4, h5, h6]
  rw [hn]
  clear hn
  have e0 : (r == 0) = false := by simp [h0]
  have e1 : (r == 1) = false := by simp [h1]
  have e2 : (r == 2) = false := by simp [h2]
  have e3 : (r == 3) = false := by simp [h3]
  have e4 : (r == 4) = false := by simp [h4]
  have e5 : (r == 5) = false := by simp [h5]
  have e6 : (r == 6) = false := by simp [h6]
  go_enter Tryd.func4, Tryd.ntmps4
  go_wp2_with fail
  go_ret
  exact ⟨rfl, rfl⟩

set_option maxHeartbeats 1000000 in
theorem impl_nor (r : Int) (w : World) (hc : ∀ j : Nat, j < 7 → w.cell? ⟨GN, j, none⟩ = rnames[j]?) : Calls Tryd.prog 5 #[.int .i64 r] w fun e w' => e = .returned (.string (nameA r)) ∧ w = w' := by
  by_cases ha : r < 0
  · have hn : nameA r = ⟨#[]⟩ := by unfold nameA; rw [if_neg (by omega)]; rw [if_neg (by omega)]; rw [if_neg (by omega)]; rw [if_neg (by omega)]; rw [if_neg (by omega)]; rw [if_neg (by omega)]; rw [if_neg (by omega)]
    rw [hn]
    clear hc hn
    go_enter Tryd.func5, Tryd.ntmps5
    go_wp2_with fail
    go_ret
    exact ⟨rfl, rfl⟩
  by_cases hb : 7 ≤ r
  · have hn : nameA r = ⟨#[]⟩ := by unfold nameA; rw [if_neg (by omega)]; rw [if_neg (by omega)]; rw [if_neg (by omega)]; rw [if_neg (by omega)]; rw [if_neg (by omega)]; rw [if_neg (by omega)]; rw [if_neg (by omega)]
    rw [hn]
    clear hc hn
    go_enter Tryd.func5, Tryd.ntmps5
    go_wp2_with fail
    go_ret
    exact ⟨rfl, rfl⟩
  have c0 : w.cell? ⟨GN, 0, none⟩ = some (.string nm0) := hc 0 (by omega)
  have c1 : w.cell? ⟨GN, 1, none⟩ = some (.string nm1) := hc 1 (by omega)
  have c2 : w.cell? ⟨GN, 2, none⟩ = some (.string nm2) := hc 2 (by omega)
  have c3 : w.cell? ⟨GN, 3, none⟩ = some (.string nm3) := hc 3 (by omega)
  have c4 : w.cell? ⟨GN, 4, none⟩ = some (.string nm4) := hc 4 (by omega)
  have c5 : w.cell? ⟨GN, 5, none⟩ = some (.string nm5) := hc 5 (by omega)
  have c6 : w.cell? ⟨GN, 6, none⟩ = some (.string nm6) := hc 6 (by omega)
  clear hc
  obtain rfl | rfl | rfl | rfl | rfl | rfl | rfl : r = 0 ∨ r = 1 ∨ r = 2 ∨ r = 3 ∨ r = 4 ∨ r = 5 ∨ r = 6 := by omega
  all_goals
    clear ha hb
    go_enter Tryd.func5, Tryd.ntmps5
    go_wp2_with fail
    go_ret
    exact ⟨rfl, rfl⟩

set_option maxHeartbeats 1000000 in
theorem law_nor (r : Int) (w : World) (hc : ∀ j : Nat, j < 7 → w.cell? ⟨GN, j, none⟩ = rnames[j]?) : Calls Tryd.prog 3 #[.int .i64 r] w fun e w' => e = .returned (.bool true) ∧ w = w' := by
  have H1 := Lib.hid (fun w => spec_nor r w)
  have H2 := Lib.hid (impl_nor r w hc)
  generalize nameA r = b at H1 H2
  clear hc
  go_enter Tryd.func3, Tryd.ntmps3
  go_wp2_with fail
  refine (H1.out _).mono ?_
  rintro e w1 ⟨rfl, rfl⟩
  go_wp2_with fail
  refine H2.out.mono ?_
  rintro e w2 ⟨rfl, rfl⟩
  go_wp2_with fail
  go_ret
  exact ⟨rfl, rfl⟩

theorem door_met_nor (os : Os) (args : Array Value) : laidMetH Tryd.prog Rows.fnExactNameOfRuleRow.laid ((World.laidAll Tryd.prog os Rows.fnExactNameOfRuleRow.laid).forCall (fun _ _ => 0) ⟨#[], args, []⟩).memory := by
  rw [MakeChecks.laidMetH_plain _ _ _ (by kernel_rfl)]
  exact laidMet_laidAll _ (by kernel_rfl) (by kernel_rfl)

abbrev tableH {H : Type} : DataW H := .agg [.lit (.string [110, 111, 110, 101]), .lit (.string [102, 111, 108, 100]), .lit (.string [110, 101, 117, 116, 114, 97, 108]), .lit (.string [116, 117, 114, 110]), .lit (.string [108, 111, 111, 112]), .lit (.string [108, 101, 110, 103, 116, 104]), .lit (.string [102, 117, 115, 101])]
theorem reads_table {H : Type} (enc : TypeId × Value → H) (W : World) (sp : Nat → Bool) : DataW.trod enc Tryd.prog W 0 sp true 3 TN7 rnames.toList = some (tableH, []) := by kernel_rfl

set_option maxRecDepth 100000 in
theorem nor_lifted (os : Os) (started : os.Started) (H : Type) (enc : TypeId × Value → H) :
    ReturnsInHanded {} Tryd.checked os 3 .any (fun w args => (Rows.fnExactNameOfRuleSpec.pre enc Tryd.prog Tryd.f3 [] false w args ∧ laidMetH Tryd.prog Rows.fnExactNameOfRuleRow.laid w) ∧ sizedMet enc Tryd.prog Tryd.f3 (OpenSpec.ofChange Rows.fnExactNameOfRuleSpec) false w args) (Rows.fnExactNameOfRuleSpec.post enc Tryd.prog Tryd.f3 false true false false) := by
  refine returnsInHanded_of_change_and (C := Tryd.checked) (X := fun w _ => laidMetH Tryd.prog Rows.fnExactNameOfRuleRow.laid w) (fun _ _ _ hh h => h.of_heap hh) knob_own started (by kernel_rfl) Tryd.func3
    (ChangeSpec.witness_shaped (enc := enc) (C := Tryd.checked) (os := os) (X := fun w _ => laidMetH Tryd.prog Rows.fnExactNameOfRuleRow.laid w) false (World.laidAll Tryd.prog os Rows.fnExactNameOfRuleRow.laid) #[.int .i64 0] 8 (World.laidAll_os _ _ _) (World.shaped_of_ZipB (by kernel_rfl) (by kernel_rfl)) (by kernel_rfl) (by kernel_rfl) (by kernel_rfl) (door_met_nor os _)) ?_
  intro W base args ds gs before hval0 hW _ _ hL _
  have hval : ∀ (j : Nat) t v, Tryd.f3.params[j]? = some t → args[j]? = some v → Value.okWide Tryd.prog W .any base t v := hval0
  have hW' := hW
  obtain ⟨p, q, hA0, hV0, rfl, hfz, hnd⟩ := hW
  have hA : DataW.TrodAll enc Tryd.prog W 0 (fun _ => true) true Tryd.f3.params.toList args.toList ds p := hA0
  have hV : DataW.TrodVars enc Tryd.prog W (fun _ => true) ["loop.example/flatarrays/impl.ruleNames"] gs q := hV0
  rw [Tryd.params3] at hA hval
  obtain ⟨v0, d0, rfl, rfl, h0⟩ := trodAll_one hA
  obtain ⟨r, rfl, rfl, rfl, wn⟩ := open_int Tryd.underlying3 (hval 0 3 v0 rfl rfl) h0
  rw [MakeChecks.laidMetH_plain _ _ _ (by kernel_rfl)] at hL
  obtain ⟨g, t, cs, fuel, d, p', rfl, hg, ht, hvar, hd, rfl⟩ := trodVars_one hV
  obtain rfl := Option.some.inj (gN.symm.trans hg)
  obtain rfl := Option.some.inj (gNT.symm.trans ht)
  obtain rfl : cs = rnames := Option.some.inj (hvar.symm.trans (cells_of_laid hL))
  obtain ⟨rfl, rfl⟩ := DataW.Trod.unique (v := .agg rnames) ⟨fuel, hd⟩ ⟨3, reads_table enc W _⟩
  clear hA0 hV0 hval0
  have hvars : ∀ sp : Nat → Bool, DataW.TrodVars enc Tryd.prog W sp ["loop.example/flatarrays/impl.ruleNames"] [tableH] (MemPlace.row ⟨GN, 0, none⟩ rnames.size ++ [] ++ []) := fun sp =>
    ⟨GN, TN7, rnames, 3, [], [], hg, ht, hvar, reads_table enc W sp, rfl, rfl⟩
  refine (law_nor r W (fun j hj => World.var?_cell hg hvar j)).mono fun e W' ⟨he, hw⟩ => ?_
  subst he; subst hw
  exact ⟨_, rfl, post_of_same (pa := []) hW' (fun _ _ _ => trodAll_mk1 (shut_bool Tryd.underlying4 true)) (fun sp _ => trodAll_mk1 (shut_int Tryd.underlying3 wn)) (fun sp _ => hvars sp) (by simp)
    (World.keptBut_refl _ _) (fun _ => rfl) (ok_one (by kernel_rfl) rfl (okWide_bool_mk Tryd.underlying4 true))⟩

theorem nor_row : Rows.FnExactNameOfRuleSaid :=
  OpenClaim.holds_of_wide 3 Tryd.f3 rfl rfl rfl rfl rfl rfl rfl ⟨rfl, rfl, rfl, rfl, rfl⟩ rfl rfl rfl rfl rfl (by kernel_rfl) Tryd.func3 (by kernel_rfl)
    (of_decide_eq_true (by kernel_rfl)) (by unfold Func.isWrapper; first | (rw [if_pos (by decide +kernel)]; kernel_rfl) | (rw [if_neg (by decide +kernel)]; exact ⟨rfl, rfl⟩))
    (fun os started H enc _ => nor_lifted os started H enc)

theorem nor_holds : Rows.FnExactNameOfRuleCardSaid :=
  Claim7.holds_tied_plain_at .later [] [.data] true (true, "137b161a404b4ecf8396c58c51f44552e63b540bf8488e6895800581e0fb5d0a") false
    nor_row (fun _ h => by cases h) (by kernel_rfl) (fun _ h => by cases h) fnExactNameOfRule_row_tie rfl ⟨rfl, rfl⟩ (by kernel_rfl) rfl
    (fun f fn hf hfn => by
      obtain rfl : f = 3 := Option.some.inj ((show Tryd.prog.funcNamed "loop.example/flatarrays/laws.FnExactNameOfRule" = some 3 by kernel_rfl).symm.trans hf) |>.symm
      obtain rfl : fn = Tryd.f3 := (Option.some.inj (Tryd.func3.symm.trans hfn)).symm
      exact ⟨by kernel_rfl, fun j t ht => by
        rw [Tryd.params3] at ht
        have hm : t ∈ [3] := by simpa using Array.mem_of_getElem? ht
        have hall : ([3].all fun u => !Tryd.prog.wantsStandIn u) = true := by kernel_rfl
        exact (show Tryd.prog.wantsStandIn t = false by simpa using List.all_eq_true.1 hall t hm)⟩)
    (by kernel_rfl)

#print axioms nor_holds

end Go.Proofs.YtboddoaekcchpaaDoor
