/- What the program's MakeArray does: the array of parts, if they are arrays of the depth less by one and the text is not too long. -/
import Derived.Test.YtdfanconjiiceabDoorValidI
import Derived.Test.YtdfanconjiiceabDoorStrs0
import Derived.Test.YtdfanconjiiceabDoorShelf
namespace Go.Proofs.YtdfanconjiiceabDoor
open Go.RowKit

/-- Are the parts such that there is an array? -/
def mkOk (ss : List ByteArray) (n : Int) : Bool := decide (1 ≤ n ∧ n ≤ 3) && (ss.all fun s => isArr s (n - 1)) && decide (2 + (ss.length - 1) + tot ss ≤ 400)
/-- The text of the array. -/
def mkText (ss : List ByteArray) : List UInt8 := 91 :: (Lib.join (ss.map (·.data.toList)) [44] ++ [93])

/-- How MakeArray ends. -/
def MkPost (ss : List ByteArray) (n : Int) (w : World) (e : Ending) (w' : World) : Prop :=
  w.grownBy w' none ∧ ∃ t : ByteArray, e = .returned (.tuple #[.string t, .bool (mkOk ss n)]) ∧ t.data.toList = if mkOk ss n = true then mkText ss else []
theorem mk_no {ss : List ByteArray} {n : Int} {w w' : World} {e : Ending} (h : mkOk ss n = false) (hg : w.grownBy w' none) (he : e = .returned (.tuple #[.string ⟨#[]⟩, .bool false])) : MkPost ss n w e w' :=
  ⟨hg, ⟨#[]⟩, by rw [he, h], by rw [h]; rfl⟩
theorem mk_yes {ss : List ByteArray} {n : Int} {w w' : World} {e : Ending} {t : ByteArray} (h : mkOk ss n = true) (hg : w.grownBy w' none) (he : e = .returned (.tuple #[.string t, .bool true])) (ht : t.data.toList = mkText ss) : MkPost ss n w e w' :=
  ⟨hg, t, by rw [he, h], by rw [h, ht]; rfl⟩

theorem mk_range {ss : List ByteArray} {n : Int} (h : ¬ (1 ≤ n ∧ n ≤ 3)) : mkOk ss n = false := by unfold mkOk; simp [h]
theorem mk_part {ss : List ByteArray} {n : Int} {j : Nat} {s : ByteArray} (hj : ss[j]? = some s) (h : isArr s (n - 1) = false) : mkOk ss n = false := by
  unfold mkOk
  have : (ss.all fun s => isArr s (n - 1)) = false := by
    rw [List.all_eq_false]
    exact ⟨s, List.mem_of_getElem? hj, by simp [h]⟩
  simp [this]
theorem mk_long {ss : List ByteArray} {n : Int} (h : 400 < 2 + (ss.length - 1) + tot ss) : mkOk ss n = false := by unfold mkOk; simp; omega
theorem mk_all {ss : List ByteArray} {n : Int} (h1 : 1 ≤ n ∧ n ≤ 3) (h2 : ∀ s ∈ ss, isArr s (n - 1) = true) (h3 : 2 + (ss.length - 1) + tot ss ≤ 400) : mkOk ss n = true := by
  unfold mkOk
  have : (ss.all fun s => isArr s (n - 1)) = true := List.all_eq_true.2 h2
  simp [this, h1]
  omega
theorem tot_take_le (ss : List ByteArray) (j : Nat) : tot (ss.take j) ≤ tot ss := by
  have e : ss.take j ++ ss.drop j = ss := List.take_append_drop j ss
  have := tot_append (ss.take j) (ss.drop j)
  rw [e] at this
  omega
theorem tail_len : ∀ (l : List ByteArray), (Lib.joinTail [44] (l.map (·.data.toList))).length = tot l + l.length
  | [] => rfl
  | s :: l => by
    have h := tail_len l
    have hs : s.data.toList.length = s.size := by rw [Array.length_toList]; rfl
    simp only [Lib.joinTail, List.map_cons, List.flatten_cons, List.length_append, List.length_cons, List.length_nil, tot] at h ⊢
    omega
theorem join_len : ∀ (ss : List ByteArray), (Lib.join (ss.map (·.data.toList)) [44]).length = tot ss + (ss.length - 1)
  | [] => rfl
  | s :: l => by
    have h := tail_len l
    have hs : s.data.toList.length = s.size := by rw [Array.length_toList]; rfl
    rw [List.map_cons, Lib.join_cons, List.length_append, h]
    simp only [tot, List.length_cons]
    omega

set_option maxHeartbeats 400000 in
theorem mkimpl_any (A : Option Addr) (c : Nat) (n : Int) (ss : List ByteArray) (w : World) (h : Strs w A ss) (hlen : ss.length ≤ 1048576) (htot : tot ss ≤ 1048576) (hc : ss.length ≤ c) :
    Calls Tryd.prog 85 #[.slice A ss.length c, .int .i64 n] w (MkPost ss n w) := by
  have HS := Lib.hid h
  obtain ⟨N, hN⟩ : ∃ N, ss.length = N := ⟨_, rfl⟩
  have HN := Lib.hid hN
  rw [hN] at hlen hc ⊢
  have HT := Lib.hid htot
  clear h hN htot
  by_cases hr : 1 ≤ n ∧ n ≤ 3
  · obtain ⟨hr1, hr2⟩ := hr
    go_enter Tryd.func85, Tryd.ntmps85
    go_wp2_with fail
    have wn : IntKind.i64.wrap (n - 1) = n - 1 := IntWalk.i64_in _ (by omega)
    have WN := Lib.hid wn
    clear wn
    go_loopw [22, 6] (fun i z wr => ∃ j x : Nat, j ≤ N ∧ i = .int .i64 j ∧ z = .int .i64 x ∧ x ≤ 3000000 ∧ Hid (x = 2 + (N - 1) + tot (ss.take j)) ∧ Hid (∀ s ∈ ss.take j, isArr s (n - 1) = true) ∧ Hid (0 < j → x ≤ 400) ∧ Hid (w.grownBy wr none)) (fun i _ _ => N - (intOf i).toNat)
    case atStart =>
      refine ⟨0, 2 + (N - 1), Nat.zero_le _, rfl, ?_, by omega, Lib.hid (by simp [tot]), Lib.hid (by simp), Lib.hid (fun h => by omega), Lib.hid (gr_refl _ _)⟩
      have e : (2 + max ((N : Int) - 1) 0) = ((2 + (N - 1) : Nat) : Int) := by omega
      rw [e]
    case round =>
      obtain ⟨j, x, hj, rfl, rfl, hx3, hx, hall, hxx, hgr⟩ := hrel
      by_cases hlt : j < N
      · obtain ⟨s, hs⟩ : ∃ s, ss[j]? = some s := ⟨_, List.getElem?_eq_getElem (by have := HN.out; omega)⟩
        obtain ⟨b, off, rfl, hb, hcc⟩ := (HS.out.grown hgr.out) (by have := HN.out; omega)
        have hcell := hcc j s hs
        have HST := Lib.hid hs
        have htj := tot_step hs
        have HTJ := Lib.hid htj
        have hssz : s.size ≤ 1048576 := by have := tot_take_le ss (j + 1); have := HT.out; omega
        clear hcc hs htj
        by_cases hbig : 400 < x + s.size
        · have hd : decide (400 < (x : Int) + (s.size : Int)) = true := decide_eq_true (by omega)
          go_wp2_with fail
          go_ret2
          refine mk_no (mk_long ?_) hgr.out rfl
          have h1 := hx.out
          have h2 := HTJ.out
          have h3 := tot_take_le ss (j + 1)
          have h4 := HN.out
          omega
        · have hd : decide (400 < (x : Int) + (s.size : Int)) = false := decide_eq_false (by omega)
          have HV := Lib.hid (fun w => valid_impl s (n - 1) w)
          obtain ⟨bb, hbb⟩ : ∃ bb, isArr s (n - 1) = bb := ⟨_, rfl⟩
          rw [hbb] at HV
          have HBB := Lib.hid hbb
          clear hbb
          go_wp2_with fail
          refine (HV.out _).mono ?_
          rintro e w5 ⟨rfl, hg5⟩
          have HG5 := Lib.hid (hgr.out.trans hg5)
          clear hg5 hd
          cases bb
          · go_wp2_with fail
            go_ret2
            exact mk_no (mk_part HST.out HBB.out) HG5.out rfl
          · go_wp2_with fail
            go_roundw
            case rel =>
              refine ⟨j + 1, x + s.size, by omega, by go_num, by go_num, by omega, Lib.hid ?_, Lib.hid ?_, Lib.hid (fun _ => by omega), HG5⟩
              · rw [HTJ.out, hx.out]; omega
              · intro s' hs'
                rw [List.take_add_one, HST.out] at hs'
                rcases List.mem_append.1 hs' with h | h
                · exact hall.out s' h
                · simp at h; rw [h]; exact HBB.out
            case measure => simp [intOf]; omega
      · have hjn : j = N := by omega
        have HJ := Lib.hid hjn
        have ht : ss.take j = ss := List.take_of_length_le (by have := HN.out; omega)
        have hx4 : x ≤ 400 := by
          rcases Nat.eq_zero_or_pos j with h0 | h0
          · have := hx.out
            rw [h0] at this
            simp [tot] at this
            omega
          · exact hxx.out h0
        have hok : mkOk ss n = true := by
          refine mk_all ⟨hr1, hr2⟩ ?_ ?_
          · have := hall.out; rw [ht] at this; exact this
          · have := hx.out; rw [ht] at this; have := HN.out; omega
        have hjl := join_len ss
        have hjl2 : (Lib.join (ss.map (·.data.toList)) [44]).length ≤ 400 := by
          have h1 := hx.out
          rw [ht] at h1
          have := HN.out
          omega
        have HC : Hid (∀ A', A = A' → Calls Tryd.prog 108 #[.slice A' N c, .string ⟨#[44]⟩] wr fun e w' => e = .returned (.string ⟨(Lib.join (ss.map (·.data.toList)) [44]).toArray⟩) ∧ wr.grownBy w' none) := by
          rintro A' rfl
          rcases Nat.eq_zero_or_pos N with h0 | h0
          · subst h0
            have hnil : ss = [] := List.eq_nil_of_length_eq_zero HN.out
            rw [hnil]
            exact (Tryd.strings_Join_none A c ⟨#[44]⟩ wr).mono fun e w' ⟨he, hw⟩ => ⟨he, hw ▸ gr_refl _ _⟩
          · obtain ⟨b, off, rfl, hb, hcc⟩ := (HS.out.grown hgr.out) (by have := HN.out; omega)
            have hJ := Tryd.strings_Join b off c ss ⟨#[44]⟩ wr hcc hb (by have := HN.out; omega) (by have := HN.out; omega) (by show (Lib.join (ss.map (·.data.toList)) [44]).length ≤ _; omega)
            rw [HN.out] at hJ
            exact hJ.mono fun e w' ⟨he, hw⟩ => ⟨he, hw.os, hw.tape, hw.output, hw.size, fun k hk _ => hw.block k hk⟩
        obtain ⟨tj, htj⟩ : ∃ tj : ByteArray, tj = ⟨(Lib.join (ss.map (·.data.toList)) [44]).toArray⟩ := ⟨_, rfl⟩
        rw [← htj] at HC
        have hts : tj.size ≤ 400 := by rw [htj]; show (List.toArray _).size ≤ 400; simpa using hjl2
        have HOK := Lib.hid hok
        have HTX := Lib.hid (show tj.data.toList = Lib.join (ss.map (·.data.toList)) [44] from by rw [htj])
        clear hjn ht hok htj hjl hjl2
        go_wp2_with fail
        refine (HC.out _ rfl).mono ?_
        rintro e w6 ⟨rfl, hg6⟩
        have HG6 := Lib.hid (hgr.out.trans hg6)
        clear hg6
        go_wp2_with fail
        go_ret2
        refine mk_yes HOK.out HG6.out rfl ?_
        simp [ByteArray.data_append, HTX.out, mkText]
  · have HR := Lib.hid hr
    by_cases hr1 : n < 1
    · clear hr
      go_enter Tryd.func85, Tryd.ntmps85
      go_wp2_with fail
      go_ret2
      exact mk_no (mk_range HR.out) (gr_refl _ _) rfl
    · have hr2 : 3 < n := by omega
      clear hr
      go_enter Tryd.func85, Tryd.ntmps85
      go_wp2_with fail
      go_ret2
      exact mk_no (mk_range HR.out) (gr_refl _ _) rfl

end Go.Proofs.YtdfanconjiiceabDoor
