/- What PartsOfTerm of the program and of the model do: the texts of the parts, in a row of the call's own. -/
import Derived.Test.YtmofoeljajdhmaaSTxtA
import Derived.Test.YtmofoeljajdhmaaTTerm
namespace Go.Proofs.Ytmofoeljajdhmaa
open Go.RowKit

/-- The texts of the parts of a term's text. -/
def partsA (s : ByteArray) : List ByteArray := match readT s with
  | some t => t.kids.map fun k => bytesOf k.txt
  | none => []
theorem partsA_len (s : ByteArray) : (partsA s).length ≤ 2 := by
  unfold partsA
  cases readT s with
  | none => simp
  | some t => simp only [List.length_map]; exact kids_len t
def strV (ss : List ByteArray) : List Value := ss.map Value.string
theorem strV_snoc (l : List ByteArray) (x : ByteArray) : strV (l ++ [x]) = strV l ++ [.string x] := by simp [strV]
theorem infoStr : (Try.prog.info? 9).map (fun i => (i.zero, i.size, i.bytes)) = some (some (.string .empty), 1, 16) := by kernel_rfl

theorem take_snoc' {α : Type} {l : List α} {j : Nat} {x : α} (h : l[j]? = some x) : l.take j ++ [x] = l.take (j + 1) := by rw [List.take_add_one, h]; rfl

/-- How PartsOfTerm ends. -/
def PtsPost (ss : List ByteArray) (w : World) (e : Ending) (w' : World) : Prop :=
  ∃ sv, e = .returned sv ∧ w.grownBy w' none ∧ w'.ownsRow w.heap.size 9 1 sv ss.length (strV ss)

/-- One text more in a row of the call's own. -/
theorem str_more {w1 wr w2 w3 : World} {sv : Value} {A : Option Addr} {k c n : Nat} {l : List ByteArray} {x : ByteArray} (hg : w1.grownBy wr none) (ho : wr.ownsRow w1.heap.size 9 1 sv l.length (strV l)) (hg2 : wr.grownBy w2 none)
    (ho3 : w3.ownsRow w1.heap.size 9 1 (.slice A k c) n (strV l ++ [.string x])) (hg3 : w2.grownBy w3 sv.ownBlock) (hn : n = (l ++ [x]).length) :
    w3.ownsRow w1.heap.size 9 1 (.slice A k c) (l ++ [x]).length (strV (l ++ [x])) ∧ w1.grownBy w3 none := by
  subst hn
  rw [strV_snoc]
  refine ⟨ho3, ?_⟩
  have h2 := hg.trans hg2
  exact ⟨hg3.os.trans h2.os, hg3.tape.trans h2.tape, hg3.output.trans h2.output, Nat.le_trans h2.size hg3.size, fun k hk _ => (hg3.block k (Nat.lt_of_lt_of_le hk h2.size) (fun e => by have := (ho.lt k e.symm).1; omega)).trans (h2.block k hk (by simp))⟩

set_option maxRecDepth 100000 in
set_option maxHeartbeats 2000000 in
theorem tpts_impl (s : ByteArray) (w : World) :
    Calls Try.prog 20 #[.string s] w (PtsPost (partsA s) w) := by
  obtain ⟨i0, hi0, hz0, hz1, hz2⟩ := info_parts infoStr
  have H := Lib.hid (term_any s w)
  obtain ⟨ss, hb⟩ : ∃ b, partsA s = b := ⟨_, rfl⟩
  rw [hb]
  have HB := Lib.hid hb
  clear hb
  go_enter Try.func20, Try.ntmps20
  go_wp2_with fail
  refine H.out.mono ?_
  intro e w0 hp
  unfold TermPost at hp
  have hb := HB.out
  unfold partsA at hb
  cases hr : readT s with
  | none =>
    rw [hr] at hp hb
    subst hb
    obtain ⟨rfl, hg⟩ := hp
    have HG := Lib.hid hg
    clear hg hr
    go_wp2_with fail
    go_ret
    exact ⟨_, rfl, HG.out, rfl, .inl ⟨rfl, rfl⟩⟩
  | some t =>
    rw [hr] at hp hb
    obtain ⟨v, rfl, hg, hpt⟩ := hp
    obtain ⟨ty, pv, rfl⟩ := hpt.iface
    have HG := Lib.hid hg
    have hm := method_parts hpt
    have hrun := run_parts t pv
    have HK := Lib.hid (parts_any t _ ty pv w0 hpt)
    have HSS : Hid (t.kids.map (fun k => bytesOf k.txt) = ss) := Lib.hid hb
    have HRT := Lib.hid hr
    clear hg hpt hr hb
    go_wp2_with fail
    refine HK.out.mono ?_
    rintro e w1 ⟨hg1, sv, xs, rfl, ho, ha⟩
    obtain ⟨A, k, c, rfl⟩ := own_form ho
    obtain ⟨hk, hkc, hrow⟩ := orow ho
    have hlen := All2.length _ _ ha
    have HKL := Lib.hid hk
    have HLEN := Lib.hid hlen
    have HROW := Lib.hid hrow
    have HA := Lib.hid ha
    have HG1 := Lib.hid hg1
    have hk2 : k ≤ 2 := by have := kids_len t; omega
    clear hg1 ho ha hk hlen hrow hm hrun
    go_wp2_with fail
    go_loopw [5, 18] (fun u i wr => ∃ j : Nat, j ≤ k ∧ i = .int .i64 j ∧ Hid (wr.ownsRow w1.heap.size 9 1 u (ss.take j).length (strV (ss.take j))) ∧ Hid (w1.grownBy wr none)) (fun _ i _ => k - (intOf i).toNat)
    case atStart => exact ⟨0, Nat.zero_le _, rfl, Lib.hid ⟨rfl, .inl ⟨rfl, rfl⟩⟩, Lib.hid (gr_refl _ _)⟩
    case round =>
      obtain ⟨j, hj, rfl, how, hgr⟩ := hrel
      by_cases hlt : j < k
      · obtain ⟨g, rfl, hg0, hg1, hcell⟩ := HROW.out (by omega)
        obtain ⟨tj, xj, htj, hxj, hpj⟩ := HA.out.get (j := j) (by have := HKL.out; omega)
        have hc := hcell j xj hxj
        obtain ⟨tyj, pvj, rfl⟩ := hpj.iface
        have hcw := hgr.out.cell hc (by simp)
        have hrs := readT_some HRT.out
        have hko := Tm.kids_ok hrs.2.2.1 (List.mem_of_getElem? htj)
        have htl : tj.txt.length ≤ 80 := by have := readT_len HRT.out; omega
        have HCALL := Lib.hid (textof_any tj _ tyj pvj wr hko.1 ((hpj.grown HG1.out).grown hgr.out) (by omega))
        obtain ⟨X, hX⟩ : ∃ X, bytesOf tj.txt = X := ⟨_, rfl⟩
        rw [hX] at HCALL
        have HX : Hid (ss[j]? = some X) := Lib.hid (by rw [← HSS.out, List.getElem?_map, htj, ← hX]; rfl)
        obtain ⟨Av, nv, cv, rfl⟩ := own_form how.out
        have hlj : (ss.take j).length = j := by
          rw [List.length_take]
          have := (List.getElem?_eq_some_iff.1 HX.out).1
          omega
        have hnv : nv = j := (own_len how.out).trans hlj
        subst hnv
        have HLJ := Lib.hid hlj
        clear hpj htj hxj hc hcell hX hrs hko htl hlj
        go_wp2_with fail
        refine HCALL.out.mono ?_
        rintro e w2 ⟨rfl, hg2⟩
        have HG2 := Lib.hid hg2
        have own1 := (own_keep how.out (fun b hb => hg2.block b (how.out.lt b hb).2 (by simp))).alloc (.cells #[.string X] 9)
        rw [HLJ.out] at own1
        have hw2 : w1.heap.size ≤ w2.heap.size := Nat.le_trans hgr.out.size hg2.size
        clear hg2 hcw
        go_wp2_with (at_builtin; refine wpList_append_own_at _ rfl _ _ 29 rfl w1.heap.size 9 i0 (.string .empty) 1 16 Try.underlying29 hi0 hz0 hz1 hz2 rfl (by decide) _ _ _ rfl own1 ⟨w2.heap.size, 0, none⟩ 1 1 [.string X] rfl rfl ?a1 ?a2 ?a3 ?a4 ?a5 ?_)
        case a1 => exact cell_one_new _ _ _
        case a2 => simp [Value.oneCell']
        case a3 => simp only [maxLen]; omega
        case a4 => omega
        case a5 => simp; omega
        intro v8 w8 hown8 hg8 _ _
        obtain ⟨A8, k8, c8, rfl⟩ := own_form hown8
        have hmore := str_more hgr.out how.out (HG2.out.trans (World.grownBy_alloc w2 (.cells #[.string X] 9) none)) hown8 hg8 (by rw [List.length_append, HLJ.out]; rfl)
        rw [take_snoc' HX.out] at hmore
        have HM := Lib.hid hmore
        clear hmore hown8 hg8 own1
        go_wp2_with fail
        go_roundw
        case rel => exact ⟨nv + 1, by omega, by go_num, Lib.hid HM.out.1, Lib.hid HM.out.2⟩
        case measure => simp [intOf]; omega
      · have hjk : j = k := by omega
        have HJ := Lib.hid hjk
        obtain ⟨Av, nv, cv, rfl⟩ := own_form how.out
        clear hjk
        go_wp2_with fail
        go_ret
        refine ⟨_, rfl, (HG.out.trans HG1.out).trans hgr.out, ?_⟩
        have e1 : ss.take j = ss := List.take_of_length_le (by rw [← HSS.out, List.length_map, HLEN.out, HJ.out, HKL.out]; exact Nat.le_refl _)
        have := how.out
        rw [e1] at this
        exact own_base this (HG.out.trans HG1.out).size

end Go.Proofs.Ytmofoeljajdhmaa
