/- 8 texts in one: MkImpl Dec SText Told MkS0 FUP SFil SNum3. -/
import Derived.Test.YtachjodnhgmoiaaDoorZQB
import Derived.Test.YtachjodnhgmoiaaDoorStrs0
import Derived.Test.YtachjodnhgmoiaaDoorShelf
import Derived.Test.YtachjodnhgmoiaaDoorStrsF
import Derived.Test.YtachjodnhgmoiaaDoorGr
import Derived.Test.YtachjodnhgmoiaaDoorText
import Derived.IntWalk
import Derived.Laws.BytesArg
import Derived.Test.YtachjodnhgmoiaaDoorZQA
import Derived.Deep.AppendLies
import Derived.Shelf.Abstract
import Derived.RangeFuncBox
import Derived.Test.YtachjodnhgmoiaaDoorIn
import Derived.Test.YtachjodnhgmoiaaDoorIntC
import Derived.Test.YtachjodnhgmoiaaDoorFam
namespace Go.Proofs.YtachjodnhgmoiaaDoor
/- MkImpl -/
section
open Go.RowKit

/-- Are the parts such that there is an array? -/
def mkOk (ss : List ByteArray) (n : Int) : Bool := decide (1 ≤ n ∧ n ≤ 3) && (ss.all fun s => isArr s (n - 1)) && decide (2 + (ss.length - 1) + tot ss ≤ 400)
/-- The text of the array. -/
def mkText (ss : List ByteArray) : List UInt8 := 91 :: (Lib.join (ss.map (·.data.toList)) [44] ++ [93])

/-- How MakeArray ends. -/
def MkPost (ss : List ByteArray) (n : Int) (w : World) (e : Ending) (w' : World) : Prop :=
  w.grownBy w' none ∧ ∃ t : ByteArray, e = .returned (.tuple #[.string t, .bool (mkOk ss n)]) ∧ t.data.toList = if mkOk ss n = true then mkText ss else []
theorem mk_no {ss : List ByteArray} {n : Int} {w w' : World} {e : Ending} (h : mkOk ss n = false) (hg : w.grownBy w' none) (he : e = .returned (.tuple #[.string ⟨#[]⟩, .bool false])) : MkPost ss n w e w' :=
  ⟨hg, ⟨#[]⟩, by rw [he, h], by rw [h]; rfl⟩
theorem mk_yes {ss : List ByteArray} {n : Int} {w w' : World} {e : Ending} {t : ByteArray} (h : mkOk ss n = true) (hg : w.grownBy w' none) (he : e = .returned (.tuple #[.string t, .bool true])) (ht : t.data.toList = mkText ss) : MkPost ss n w e w' :=
  ⟨hg, t, by rw [he, h], by rw [h, ht]; rfl⟩

theorem mk_range {ss : List ByteArray} {n : Int} (h : ¬ (1 ≤ n ∧ n ≤ 3)) : mkOk ss n = false := by unfold mkOk; simp [h]
theorem mk_part {ss : List ByteArray} {n : Int} {j : Nat} {s : ByteArray} (hj : ss[j]? = some s) (h : isArr s (n - 1) = false) : mkOk ss n = false := by
  unfold mkOk
  have : (ss.all fun s => isArr s (n - 1)) = false := by
    rw [List.all_eq_false]
    exact ⟨s, List.mem_of_getElem? hj, by simp [h]⟩
  simp [this]
theorem mk_long {ss : List ByteArray} {n : Int} (h : 400 < 2 + (ss.length - 1) + tot ss) : mkOk ss n = false := by unfold mkOk; simp; omega
theorem mk_all {ss : List ByteArray} {n : Int} (h1 : 1 ≤ n ∧ n ≤ 3) (h2 : ∀ s ∈ ss, isArr s (n - 1) = true) (h3 : 2 + (ss.length - 1) + tot ss ≤ 400) : mkOk ss n = true := by
  unfold mkOk
  have : (ss.all fun s => isArr s (n - 1)) = true := List.all_eq_true.2 h2
  simp [this, h1]
  omega
theorem tot_take_le (ss : List ByteArray) (j : Nat) : tot (ss.take j) ≤ tot ss := by
  have e : ss.take j ++ ss.drop j = ss := List.take_append_drop j ss
  have := tot_append (ss.take j) (ss.drop j)
  rw [e] at this
  omega
theorem tail_len : ∀ (l : List ByteArray), (Lib.joinTail [44] (l.map (·.data.toList))).length = tot l + l.length
  | [] => rfl
  | s :: l => by
    have h := tail_len l
    have hs : s.data.toList.length = s.size := by rw [Array.length_toList]; rfl
    simp only [Lib.joinTail, List.map_cons, List.flatten_cons, List.length_append, List.length_cons, List.length_nil, tot] at h ⊢
    omega
theorem join_len : ∀ (ss : List ByteArray), (Lib.join (ss.map (·.data.toList)) [44]).length = tot ss + (ss.length - 1)
  | [] => rfl
  | s :: l => by
    have h := tail_len l
    have hs : s.data.toList.length = s.size := by rw [Array.length_toList]; rfl
    rw [List.map_cons, Lib.join_cons, List.length_append, h]
    simp only [tot, List.length_cons]
    omega

set_option maxHeartbeats 400000 in
theorem mkimpl_any (A : Option Addr) (c : Nat) (n : Int) (ss : List ByteArray) (w : World) (h : Strs w A ss) (hlen : ss.length ≤ 1048576) (htot : tot ss ≤ 1048576) (hc : ss.length ≤ c) :
    Calls Tryd.prog 73 #[.slice A ss.length c, .int .i64 n] w (MkPost ss n w) := by
  have HS := Lib.hid h
  obtain ⟨N, hN⟩ : ∃ N, ss.length = N := ⟨_, rfl⟩
  have HN := Lib.hid hN
  rw [hN] at hlen hc ⊢
  have HT := Lib.hid htot
  clear h hN htot
  by_cases hr : 1 ≤ n ∧ n ≤ 3
  · obtain ⟨hr1, hr2⟩ := hr
    go_enter Tryd.func73, Tryd.ntmps73
    go_wp2_with fail
    have wn : IntKind.i64.wrap (n - 1) = n - 1 := IntWalk.i64_in _ (by omega)
    have WN := Lib.hid wn
    clear wn
    go_loopw [22, 6] (fun i z wr => ∃ j x : Nat, j ≤ N ∧ i = .int .i64 j ∧ z = .int .i64 x ∧ x ≤ 3000000 ∧ Hid (x = 2 + (N - 1) + tot (ss.take j)) ∧ Hid (∀ s ∈ ss.take j, isArr s (n - 1) = true) ∧ Hid (0 < j → x ≤ 400) ∧ Hid (w.grownBy wr none)) (fun i _ _ => N - (intOf i).toNat)
    case atStart =>
      refine ⟨0, 2 + (N - 1), Nat.zero_le _, rfl, ?_, by omega, Lib.hid (by simp [tot]), Lib.hid (by simp), Lib.hid (fun h => by omega), Lib.hid (gr_refl _ _)⟩
      have e : (2 + max ((N : Int) - 1) 0) = ((2 + (N - 1) : Nat) : Int) := by omega
      rw [e]
    case round =>
      obtain ⟨j, x, hj, rfl, rfl, hx3, hx, hall, hxx, hgr⟩ := hrel
      by_cases hlt : j < N
      · obtain ⟨s, hs⟩ : ∃ s, ss[j]? = some s := ⟨_, List.getElem?_eq_getElem (by have := HN.out; omega)⟩
        obtain ⟨b, off, rfl, hb, hcc⟩ := (HS.out.grown hgr.out) (by have := HN.out; omega)
        have hcell := hcc j s hs
        have HST := Lib.hid hs
        have htj := tot_step hs
        have HTJ := Lib.hid htj
        have hssz : s.size ≤ 1048576 := by have := tot_take_le ss (j + 1); have := HT.out; omega
        clear hcc hs htj
        by_cases hbig : 400 < x + s.size
        · have hd : decide (400 < (x : Int) + (s.size : Int)) = true := decide_eq_true (by omega)
          go_wp2_with fail
          go_ret2
          refine mk_no (mk_long ?_) hgr.out rfl
          have h1 := hx.out
          have h2 := HTJ.out
          have h3 := tot_take_le ss (j + 1)
          have h4 := HN.out
          omega
        · have hd : decide (400 < (x : Int) + (s.size : Int)) = false := decide_eq_false (by omega)
          have HV := Lib.hid (fun w => valid_impl s (n - 1) w)
          obtain ⟨bb, hbb⟩ : ∃ bb, isArr s (n - 1) = bb := ⟨_, rfl⟩
          rw [hbb] at HV
          have HBB := Lib.hid hbb
          clear hbb
          go_wp2_with fail
          refine (HV.out _).mono ?_
          rintro e w5 ⟨rfl, hg5⟩
          have HG5 := Lib.hid (hgr.out.trans hg5)
          clear hg5 hd
          cases bb
          · go_wp2_with fail
            go_ret2
            exact mk_no (mk_part HST.out HBB.out) HG5.out rfl
          · go_wp2_with fail
            go_roundw
            case rel =>
              refine ⟨j + 1, x + s.size, by omega, by go_num, by go_num, by omega, Lib.hid ?_, Lib.hid ?_, Lib.hid (fun _ => by omega), HG5⟩
              · rw [HTJ.out, hx.out]; omega
              · intro s' hs'
                rw [List.take_add_one, HST.out] at hs'
                rcases List.mem_append.1 hs' with h | h
                · exact hall.out s' h
                · simp at h; rw [h]; exact HBB.out
            case measure => simp [intOf]; omega
      · have hjn : j = N := by omega
        have HJ := Lib.hid hjn
        have ht : ss.take j = ss := List.take_of_length_le (by have := HN.out; omega)
        have hx4 : x ≤ 400 := by
          rcases Nat.eq_zero_or_pos j with h0 | h0
          · have := hx.out
            rw [h0] at this
            simp [tot] at this
            omega
          · exact hxx.out h0
        have hok : mkOk ss n = true := by
          refine mk_all ⟨hr1, hr2⟩ ?_ ?_
          · have := hall.out; rw [ht] at this; exact this
          · have := hx.out; rw [ht] at this; have := HN.out; omega
        have hjl := join_len ss
        have hjl2 : (Lib.join (ss.map (·.data.toList)) [44]).length ≤ 400 := by
          have h1 := hx.out
          rw [ht] at h1
          have := HN.out
          omega
        have HC : Hid (∀ A', A = A' → Calls Tryd.prog 107 #[.slice A' N c, .string ⟨#[44]⟩] wr fun e w' => e = .returned (.string ⟨(Lib.join (ss.map (·.data.toList)) [44]).toArray⟩) ∧ wr.grownBy w' none) := by
          rintro A' rfl
          rcases Nat.eq_zero_or_pos N with h0 | h0
          · subst h0
            have hnil : ss = [] := List.eq_nil_of_length_eq_zero HN.out
            rw [hnil]
            exact (Tryd.strings_Join_none A c ⟨#[44]⟩ wr).mono fun e w' ⟨he, hw⟩ => ⟨he, hw ▸ gr_refl _ _⟩
          · obtain ⟨b, off, rfl, hb, hcc⟩ := (HS.out.grown hgr.out) (by have := HN.out; omega)
            have hJ := Tryd.strings_Join b off c ss ⟨#[44]⟩ wr hcc hb (by have := HN.out; omega) (by have := HN.out; omega) (by show (Lib.join (ss.map (·.data.toList)) [44]).length ≤ _; omega)
            rw [HN.out] at hJ
            exact hJ.mono fun e w' ⟨he, hw⟩ => ⟨he, hw.os, hw.tape, hw.output, hw.size, fun k hk _ => hw.block k hk⟩
        obtain ⟨tj, htj⟩ : ∃ tj : ByteArray, tj = ⟨(Lib.join (ss.map (·.data.toList)) [44]).toArray⟩ := ⟨_, rfl⟩
        rw [← htj] at HC
        have hts : tj.size ≤ 400 := by rw [htj]; show (List.toArray _).size ≤ 400; simpa using hjl2
        have HOK := Lib.hid hok
        have HTX := Lib.hid (show tj.data.toList = Lib.join (ss.map (·.data.toList)) [44] from by rw [htj])
        clear hjn ht hok htj hjl hjl2
        go_wp2_with fail
        refine (HC.out _ rfl).mono ?_
        rintro e w6 ⟨rfl, hg6⟩
        have HG6 := Lib.hid (hgr.out.trans hg6)
        clear hg6
        go_wp2_with fail
        go_ret2
        refine mk_yes HOK.out HG6.out rfl ?_
        simp [ByteArray.data_append, HTX.out, mkText]
  · have HR := Lib.hid hr
    by_cases hr1 : n < 1
    · clear hr
      go_enter Tryd.func73, Tryd.ntmps73
      go_wp2_with fail
      go_ret2
      exact mk_no (mk_range HR.out) (gr_refl _ _) rfl
    · have hr2 : 3 < n := by omega
      clear hr
      go_enter Tryd.func73, Tryd.ntmps73
      go_wp2_with fail
      go_ret2
      exact mk_no (mk_range HR.out) (gr_refl _ _) rfl
end

/- Dec -/
section
open Go.RowKit

theorem conv_one (w : World) (b : Int) : (convert 49 9 (.slice (some ⟨w.heap.size, 0, none⟩) 1 1)).run Tryd.prog (w.alloc (.cells #[.int .u8 b] 5)) = .ok (.string (strOfNums [b])) (w.alloc (.cells #[.int .u8 b] 5)) := by
  refine run_convert_bytes_arg (P := Tryd.prog) _ 49 5 Tryd.underlying49 Tryd.underlying5 w.heap.size 0 1 1 [b] rfl ?_ 9 Tryd.underlying9
  intro i hi
  obtain rfl : i = 0 := by omega
  exact cell_of_row _ _ 0 _ _ (0, 0) (heap_alloc_new _ _)

set_option maxHeartbeats 400000 in
theorem dec_any (n : Nat) (w : World) (hn : n ≤ 60000) :
    Calls Tryd.prog 104 #[.int .i64 (n : Int)] w fun e w' => (∃ t : ByteArray, e = .returned (.string t) ∧ t.data.toList = dec n) ∧ w.grownBy w' none := by
  go_enter Tryd.func104, Tryd.ntmps104
  go_wp2_with fail
  go_loopw [0, 3] (fun u v wr => ∃ (m : Nat) (t : ByteArray), t.size + m ≤ n ∧ u = .int .i64 m ∧ v = .string t ∧ Hid (dec n = dec m ++ t.data.toList) ∧ Hid (w.grownBy wr none)) (fun u _ _ => (intOf u).toNat)
  case atStart => exact ⟨n, ⟨#[]⟩, by simp [ByteArray.size], rfl, rfl, Lib.hid (by simp), Lib.hid (gr_refl _ _)⟩
  case round =>
    obtain ⟨m, t, hm, rfl, rfl, ht, hgr⟩ := hrel
    have hcv := conv_one wr
    by_cases h9 : 9 < m
    · have hs1 : (strOfNums [48 + (m : Int) % 10]).size = 1 := strOfNums_size _
      have HS1 := Lib.hid hs1
      clear hs1
      have hlt : (strOfNums [48 + (m : Int) % 10]).size + t.size ≤ 60001 := by rw [HS1.out]; omega
      go_wp2_with fail
      go_roundw
      case rel =>
        refine ⟨m / 10, strOfNums [48 + (m : Int) % 10] ++ t, by rw [ByteArray.size_append, HS1.out]; omega, by simp, rfl, Lib.hid ?_, Lib.hid (hgr.out.trans (World.grownBy_alloc _ _ _))⟩
        rw [ht.out, dec_high h9, ByteArray.data_append, Array.toList_append, strOfNums_data]
        have e : (48 + (m : Int) % 10).toNat = 48 + m % 10 := by omega
        simp [e]
      case measure => simp [intOf]; omega
    · have hs1 : (strOfNums [48 + (m : Int)]).size = 1 := strOfNums_size _
      have HS1 := Lib.hid hs1
      clear hs1
      have hlt : (strOfNums [48 + (m : Int)]).size + t.size ≤ 60001 := by rw [HS1.out]; omega
      go_wp2_with fail
      go_ret
      refine ⟨⟨_, rfl, ?_⟩, hgr.out.trans (World.grownBy_alloc _ _ _)⟩
      rw [ht.out, dec_low (by omega), ByteArray.data_append, Array.toList_append, strOfNums_data]
      have e : (48 + (m : Int)).toNat = 48 + m := by omega
      simp [e]
end

/- SText -/
section
open Go.RowKit

theorem All2.at_ {α β : Type} {R : α → β → Prop} : ∀ {l : List α} {m : List β} {j : Nat}, All2 R l m → j < m.length → ∃ a b, l[j]? = some a ∧ m[j]? = some b ∧ R a b
  | a :: l, b :: m, 0, ⟨h, _⟩, _ => ⟨a, b, rfl, rfl, h⟩
  | _ :: l, _ :: m, j + 1, ⟨_, h⟩, hj => by
    obtain ⟨a, b, h1, h2, h3⟩ := All2.at_ (j := j) h (by simpa using hj)
    exact ⟨a, b, by simpa using h1, by simpa using h2, h3⟩
  | [], [], _, _, hj => by simp at hj
  | [], _ :: _, _, h, _ => h.elim
  | _ :: _, [], _, h, _ => h.elim

theorem flat2_at : ∀ (l : List (Int × Value)) (j : Nat) (x : Int × Value), l[j]? = some x → (flat2 l)[j * 2]? = some (.int .i64 x.1) ∧ (flat2 l)[j * 2 + 1]? = some x.2
  | [], j, x, h => by simp at h
  | (m, sv) :: l, 0, x, h => by simp at h; subst h; exact ⟨rfl, rfl⟩
  | (m, sv) :: l, j + 1, x, h => by
    have := flat2_at l j x (by simpa using h)
    have e1 : (j + 1) * 2 = j * 2 + 1 + 1 := by omega
    rw [e1]
    exact this

/-- A model row whose slice is known: its length, and the cells of each part. -/
theorem srow {w : World} {A : Option Addr} {k c : Nat} {xs : List (Int × Value)} (h : w.ownsRow 0 61 2 (.slice A k c) xs.length (flat2 xs)) :
    k = xs.length ∧ k ≤ c ∧ (0 < k → ∃ g, A = some ⟨g, 0, none⟩ ∧ g < w.heap.size ∧ ∀ (j : Nat) (x : Int × Value), xs[j]? = some x → w.cell? ⟨g, j * 2, none⟩ = some (.int .i64 x.1) ∧ w.cell? ⟨g, j * 2 + 1, none⟩ = some x.2) := by
  rcases h.2 with ⟨hv, hn⟩ | ⟨g, cap, cur, hv, _, hg, hnc, hcm, hcs, htake⟩
  · cases hv
    exact ⟨by omega, by omega, fun h => by omega⟩
  · cases hv
    refine ⟨rfl, hnc, fun _ => ⟨g, rfl, (Array.getElem?_eq_some_iff.1 hg).1, fun j x hj => ?_⟩⟩
    have hjl : j < xs.length := by
      rcases Nat.lt_or_ge j xs.length with h | h
      · exact h
      · rw [List.getElem?_eq_none h] at hj; cases hj
    have hf := flat2_at xs j x hj
    have hc : ∀ i, i < xs.length * 2 → w.cell? ⟨g, i, none⟩ = (flat2 xs)[i]? := fun i hi => by
      rw [cell_of_row w g i _ _ (0, 0) hg, ← htake, List.getElem?_take, if_pos hi]
      simp
    exact ⟨(hc _ (by omega)).trans hf.1, (hc _ (by omega)).trans hf.2⟩

/-- How l1Text ends. -/
def TextPost (d : Nat) (t : T d) (w : World) (e : Ending) (w' : World) : Prop := (∃ s : ByteArray, e = .returned (.string s) ∧ s.data.toList = text d t) ∧ w.grownBy w' none

set_option maxHeartbeats 400000 in
theorem stext0 (t : T 0) (m : Int) (A : Option Addr) (k c : Nat) (S : Nat → Prop) (w : World) (h : SNd w S 0 t (m, .slice A k c)) :
    Calls Tryd.prog 68 #[.agg #[.int .i64 m, .slice A k c], .int .i64 0] w (TextPost 0 t w) := by
  have HD := Lib.hid (fun w => dec_any (show Nat from t) w (by have := h.2.1; omega))
  have hm : m = ((show Nat from t : Nat) : Int) := h.1
  rw [← hm] at HD
  clear hm h
  go_enter Tryd.func68, Tryd.ntmps68
  go_wp2_with fail
  refine (HD.out _).mono ?_
  rintro e w1 ⟨⟨s, rfl, hs⟩, hg⟩
  have HS := Lib.hid hs
  have HG := Lib.hid hg
  clear hs hg
  go_wp2_with fail
  go_ret
  exact ⟨⟨s, rfl, HS.out⟩, (World.grownBy_alloc _ _ _).trans HG.out⟩

set_option maxHeartbeats 1000000 in
theorem stextS (d : Nat) (n : Int) (ts : List (T d)) (m : Int) (A : Option Addr) (k c : Nat) (S : Nat → Prop) (w : World) (h : SNd w S (d + 1) ts (m, .slice A k c)) (hn1 : 1 ≤ n) (hn2 : n ≤ 1000) (hl : (lst d ts).length ≤ 1000000000)
    (ih : ∀ (t : T d) (m : Int) (A : Option Addr) (k c : Nat) (w : World), SNd w S d t (m, .slice A k c) → (text d t).length ≤ 1000000000 → Calls Tryd.prog 68 #[.agg #[.int .i64 m, .slice A k c], .int .i64 (n - 1)] w (TextPost d t w)) :
    Calls Tryd.prog 68 #[.agg #[.int .i64 m, .slice A k c], .int .i64 n] w (TextPost (d + 1) ts w) := by
  obtain ⟨xs, ho, hS, ha⟩ := h
  obtain ⟨hkx, hkc, hrow⟩ := srow ho
  have HA := Lib.hid ha
  have HROW := Lib.hid hrow
  have HI := Lib.hid ih
  have HL := Lib.hid hl
  have HKX := Lib.hid hkx
  have hlen := All2.length ts xs ha
  have hk : k ≤ 1000000000 := by have := lst_ge d ts; omega
  have HLEN := Lib.hid hlen
  clear ho hS ha hrow ih hl hkx hlen
  have e0 : (n == 0) = false := by rw [beq_eq_false_iff_ne]; omega
  go_enter Tryd.func68, Tryd.ntmps68
  go_wp2_with fail
  clear e0
  go_loopw [16, 5] (fun i u wr => ∃ (j : Nat) (s : ByteArray), j ≤ k ∧ i = .int .i64 j ∧ u = .string s ∧ Hid (s.data.toList = 91 :: lst d (ts.take j)) ∧ Hid (w.grownBy wr none)) (fun i _ _ => k - (intOf i).toNat)
  case atStart => exact ⟨0, ⟨#[91]⟩, Nat.zero_le _, rfl, rfl, Lib.hid (by simp [lst]), Lib.hid (World.grownBy_alloc _ _ _)⟩
  case round =>
    obtain ⟨j, s, hj, rfl, rfl, hs, hgr⟩ := hrel
    by_cases hlt : j < k
    · obtain ⟨g, rfl, hgw, hcells⟩ := HROW.out (by omega)
      obtain ⟨t, x, htj, hxj, hr⟩ := All2.at_ (j := j) HA.out (by have := HKX.out; omega)
      have hx := hcells j x hxj
      obtain ⟨m2, sv2⟩ := x
      obtain ⟨A2, k2, c2, hsv⟩ := hr.form
      simp only at hsv hx
      subst hsv
      have h1 := hgr.out.cell hx.1 (by simp)
      have h2 := hgr.out.cell hx.2 (by simp)
      have HX := Lib.hid hxj
      have HR := Lib.hid hr
      have HT := Lib.hid htj
      clear hx hxj hr htj hcells
      have wn : IntKind.i64.wrap (n - 1) = n - 1 := IntWalk.i64_in _ (by omega)
      have hjs : j < 1000000000 := by omega
      have hss : s.size ≤ 1000000001 := by
        have e1 := congrArg List.length hs.out
        have e2 := lst_take_le d ts j
        have e3 := HL.out
        rw [Array.length_toList] at e1
        simp only [List.length_cons] at e1
        show s.data.size ≤ _
        omega
      have htx : (text d t).length ≤ 1000000000 := by
        have e2 := lst_take_le d ts (j + 1)
        have e3 := HL.out
        rcases Nat.eq_zero_or_pos j with h0 | h0
        · subst h0
          rw [lst_step0 HT.out] at e2
          omega
        · rw [lst_stepS HT.out h0] at e2
          simp only [List.length_append, List.length_cons] at e2
          omega
      have HTX := Lib.hid htx
      clear htx
      have HK := Lib.hid (SNd.keep (w' := wr.alloc (.cells #[.int .i64 m2, .slice A2 k2 c2] 61)) (fun b _ hb => ((hgr.out.trans (World.grownBy_alloc wr _ none)).block b hb (by simp))) (fun b hb _ => hb) d t _ HR.out)
      rcases Nat.eq_zero_or_pos j with hj0 | hj0
      · subst hj0
        go_wp2_with fail
        refine (HI.out t m2 A2 k2 c2 _ HK.out HTX.out).mono ?_
        rintro e w5 ⟨⟨s5, rfl, hs5⟩, hg5⟩
        have HS5 := Lib.hid hs5
        have HG5 := Lib.hid hg5
        have hz5 : s5.size ≤ 1000000000 := by
          have e1 := congrArg List.length hs5
          rw [Array.length_toList] at e1
          have := HTX.out
          show s5.data.size ≤ _
          omega
        clear hs5 hg5
        go_wp2_with fail
        go_roundw
        case rel =>
          refine ⟨1, s ++ s5, by omega, rfl, rfl, Lib.hid ?_, Lib.hid ((hgr.out.trans (World.grownBy_alloc _ _ _)).trans HG5.out)⟩
          rw [lst_step0 HT.out, ByteArray.data_append, Array.toList_append, hs.out, HS5.out]
          simp [lst]
        case measure => simp [intOf]; omega
      · go_wp2_with fail
        refine (HI.out t m2 A2 k2 c2 _ HK.out HTX.out).mono ?_
        rintro e w5 ⟨⟨s5, rfl, hs5⟩, hg5⟩
        have HS5 := Lib.hid hs5
        have HG5 := Lib.hid hg5
        have hz5 : s5.size ≤ 1000000000 := by
          have e1 := congrArg List.length hs5
          rw [Array.length_toList] at e1
          have := HTX.out
          show s5.data.size ≤ _
          omega
        clear hs5 hg5
        go_wp2_with fail
        go_roundw
        case rel =>
          refine ⟨j + 1, _, by omega, by go_num, rfl, Lib.hid ?_, Lib.hid ((hgr.out.trans (World.grownBy_alloc _ _ _)).trans HG5.out)⟩
          rw [lst_stepS HT.out hj0]
          simp [ByteArray.data_append, hs.out, HS5.out]
        case measure => simp [intOf]; omega
    · have hjk : j = k := by omega
      have hss : s.size ≤ 1000000001 := by
        have e1 := congrArg List.length hs.out
        have e2 := lst_take_le d ts j
        have e3 := HL.out
        rw [Array.length_toList] at e1
        simp only [List.length_cons] at e1
        show s.data.size ≤ _
        omega
      have HJ := Lib.hid hjk
      clear hjk
      go_wp2_with fail
      go_ret
      refine ⟨⟨_, rfl, ?_⟩, hgr.out⟩
      have e : ts.take j = ts := List.take_of_length_le (by have h1 := HJ.out; have h2 := HKX.out; have h3 := HLEN.out; omega)
      have h1 := hs.out
      rw [e] at h1
      rw [text_succ]
      simp [ByteArray.data_append, h1]

theorem stext_any (S : Nat → Prop) : ∀ (d : Nat) (n : Int) (t : T d) (m : Int) (A : Option Addr) (k c : Nat) (w : World), n = d → d ≤ 1000 → SNd w S d t (m, .slice A k c) → (text d t).length ≤ 1000000000 →
    Calls Tryd.prog 68 #[.agg #[.int .i64 m, .slice A k c], .int .i64 n] w (TextPost d t w)
  | 0, n, t, m, A, k, c, w, hn, _, h, _ => by obtain rfl : n = 0 := hn; exact stext0 t m A k c S w h
  | d + 1, n, t, m, A, k, c, w, hn, hd, h, ht => by
    have e : text (d + 1) t = 91 :: (lst d t ++ [93]) := text_succ d t
    rw [e] at ht
    exact stextS d n t m A k c S w h (by omega) (by omega) (by simp at ht; omega) (fun t m A k c w h ht => stext_any S d (n - 1) t m A k c w (by omega) (by omega) h ht)
end

/- Told -/
section
open Go.RowKit

/-- How l1Told ends. -/
def ToldPost (l : List UInt8) (w : World) (e : Ending) (w' : World) : Prop := w.grownBy w' none ∧ ∃ u : ByteArray, e = .returned (.tuple #[.string u, .bool (decide (l.length ≤ 400))]) ∧ u.data.toList = if l.length ≤ 400 then l else []

set_option maxHeartbeats 400000 in
theorem told_any (S : Nat → Prop) (d : Nat) (n : Int) (t : T d) (m : Int) (A : Option Addr) (k c : Nat) (w : World) (hn : n = d) (hd : d ≤ 1000) (h : SNd w S d t (m, .slice A k c)) (ht : (text d t).length ≤ 1000000000) :
    Calls Tryd.prog 34 #[.agg #[.int .i64 m, .slice A k c], .int .i64 n] w (ToldPost (text d t) w) := by
  have h1 : SNd (w.alloc (.cells #[.int .i64 m, .slice A k c] 61)) S d t (m, .slice A k c) := SNd.keep (fun b _ hb => Below.heap_alloc w _ b hb) (fun b hb _ => hb) d t _ h
  have HT := Lib.hid (stext_any S d n t m A k c _ hn hd h1 ht)
  have HL := Lib.hid ht
  clear h h1 hn hd ht
  go_enter Tryd.func34, Tryd.ntmps34
  go_wp2_with fail
  refine HT.out.mono ?_
  rintro e w1 ⟨⟨s, rfl, hs⟩, hg⟩
  have HG := Lib.hid ((World.grownBy_alloc w (.cells #[.int .i64 m, .slice A k c] 61) none).trans hg)
  have hsz : s.size = (text d t).length := by rw [← hs, Array.length_toList]; rfl
  have HS := Lib.hid hs
  have HSZ := Lib.hid hsz
  clear hs hg hsz
  by_cases hb : 400 < s.size
  · have hd2 : decide (400 < (s.size : Int)) = true := decide_eq_true (by omega)
    go_wp2_with fail
    go_ret2
    have h2 := HSZ.out
    refine ⟨HG.out, ⟨#[]⟩, ?_, ?_⟩
    · rw [decide_eq_false (by omega)]; rfl
    · rw [if_neg (by omega)]
  · have hd2 : decide (400 < (s.size : Int)) = false := decide_eq_false (by omega)
    go_wp2_with fail
    go_ret2
    have h2 := HSZ.out
    refine ⟨HG.out, s, ?_, ?_⟩
    · rw [decide_eq_true (by omega)]; rfl
    · rw [if_pos (by omega)]; exact HS.out
end

/- MkS0 -/
section
open Go.RowKit

theorem readN_bytes {s : ByteArray} {d : Nat} {t : T d} (h : readN s d = some t) : s.data.toList = text d t := by
  unfold readN at h
  split at h
  · cases h
  · rename_i t' q hn
    split at h
    · rename_i hq
      cases h
      rw [← sub_all s, ← hq]
      exact sub_node s d 0 t q hn
    · cases h

/-- The parts' arrays, in order. -/
def Rds (d : Nat) (ss : List ByteArray) (ts : List (T d)) : Prop := All2 (fun s t => readN s d = some t) ss ts

theorem rds_tail {d : Nat} : ∀ {ss : List ByteArray} {ts : List (T d)}, Rds d ss ts → Lib.joinTail [44] (ss.map (·.data.toList)) = ts.flatMap (fun x => 44 :: text d x)
  | [], [], _ => rfl
  | s :: ss, t :: ts, ⟨h1, h2⟩ => by
    have ih := rds_tail h2
    unfold Lib.joinTail at ih ⊢
    simp only [List.map_cons, List.flatten_cons, List.flatMap_cons, ih, readN_bytes h1]
    rfl
  | [], _ :: _, h => h.elim
  | _ :: _, [], h => h.elim
theorem rds_text {d : Nat} : ∀ {ss : List ByteArray} {ts : List (T d)}, Rds d ss ts → text (d + 1) ts = mkText ss
  | [], [], _ => by rw [text_succ]; rfl
  | s :: ss, t :: ts, ⟨h1, h2⟩ => by
    rw [text_succ]
    unfold mkText
    rw [List.map_cons, Lib.join_cons, rds_tail h2, readN_bytes h1]
    rfl
  | [], _ :: _, h => h.elim
  | _ :: _, [], h => h.elim

theorem mkText_len (ss : List ByteArray) : (mkText ss).length = 2 + (ss.length - 1) + tot ss := by
  unfold mkText
  have := join_len ss
  simp only [List.length_cons, List.length_append, List.length_nil]
  omega

theorem sread_false {s : ByteArray} {m : Int} (h : isArr s m = false) (w : World) : Calls Tryd.prog 74 #[.string s, .int .i64 m] w (SReadNo w) := by
  by_cases hr : 0 ≤ m ∧ m ≤ 3 ∧ s.size ≤ 400
  · have hn : readN s m.toNat = none := by
      unfold isArr at h
      simp [hr] at h
      cases hd : readN s m.toNat with
      | none => rfl
      | some t => rw [hd] at h; simp at h
    have := sread_in m m.toNat s w (by omega) hr.1 hr.2.1 hr.2.2
    refine this.mono fun e w' hp => ?_
    unfold SReadPost at hp
    rw [hn] at hp
    exact hp
  · exact sread_out m s w (by omega)

/-- How l1Read ends with an array. -/
def SReadYes (d : Nat) (t : T d) (w : World) (e : Ending) (w' : World) : Prop := ∃ m A k c, e = .returned (.tuple #[.agg #[.int .i64 m, .slice A k c], .bool true]) ∧ w.grownBy w' none ∧ SNd w' (fun b => w.heap.size ≤ b) d t (m, .slice A k c)
theorem sread_true {s : ByteArray} {m : Int} {d : Nat} (hm : m = d) (h : isArr s m = true) : ∃ t, readN s d = some t ∧ ∀ w, Calls Tryd.prog 74 #[.string s, .int .i64 m] w (SReadYes d t w) := by
  unfold isArr at h
  simp only [Bool.and_eq_true, decide_eq_true_eq] at h
  obtain ⟨⟨h0, h3, hs⟩, h⟩ := h
  have hd : m.toNat = d := by omega
  rw [hd] at h
  obtain ⟨t, ht⟩ := Option.isSome_iff_exists.1 h
  refine ⟨t, ht, fun w => (sread_in m d s w hm h0 h3 hs).mono fun e w' hp => ?_⟩
  unfold SReadPost at hp
  rw [ht] at hp
  obtain ⟨m2, sv, he, ⟨A, k, c, rfl⟩, hg, hnd⟩ := hp
  exact ⟨m2, A, k, c, he, hg, hnd⟩

/-- What holds of the memory while MakeArray gathers nodes. -/
structure MLf (w wr : World) (sv : Value) (xs : List (Int × Value)) : Prop where
  gr : w.grownBy wr none
  size : w.heap.size + 2 ≤ wr.heap.size
  out : Two wr (w.heap.size + 1) (.int .i64 0) sv
  own : wr.ownsRow w.heap.size 61 2 sv xs.length (flat2 xs)
  ne : sv.ownBlock ≠ some (w.heap.size + 1)
def MAll (d : Nat) (w wr : World) (sv : Value) (ts : List (T d)) (xs : List (Int × Value)) : Prop := All2 (SNd wr (fun b => w.heap.size + 2 ≤ b ∧ sv.ownBlock ≠ some b) d) ts xs

theorem mlf_start (w : World) : MLf w ((w.alloc (.cells #[] 61)).alloc (.cells #[.int .i64 0, .slice (some ⟨w.heap.size, 0, none⟩) 0 0] 61)) (.slice (some ⟨w.heap.size, 0, none⟩) 0 0) [] := by
  refine ⟨(World.grownBy_alloc _ _ _).trans (World.grownBy_alloc _ _ _), by simp, two_new _ _ _ (by simp), ?_, by simp [Value.ownBlock]⟩
  exact (World.ownsRow_made (base := w.heap.size) (e := 61) (size := 2) w #[] 0 (by omega) (by simp) (by simp)).alloc _

section
variable {d : Nat} {w wr : World} {sv : Value} {ts : List (T d)} {xs : List (Int × Value)}
theorem MLf.kept (h : MLf w wr sv xs) {we : World} (hg : wr.grownBy we none) : MLf w we sv xs :=
  ⟨h.gr.trans hg, Nat.le_trans h.size hg.size, h.out.grown hg (by simp), own_keep h.own (fun k hk => hg.block k (h.own.lt k hk).2 (by simp)), h.ne⟩
theorem MAll.kept (h : MAll d w wr sv ts xs) {we : World} (hg : wr.grownBy we none) : MAll d w we sv ts xs :=
  All2.mono (SNd.keep (fun b _ hb => hg.block b hb (by simp)) (fun b hb _ => hb) d) ts xs h
/-- A node more: read (world we), boxed and appended (world w2), the variable written. -/
theorem MLf.step (h : MLf w wr sv xs) {m : Int} {v : Value} {w2 : World} {gg cap : Nat}
    (hown : w2.ownsRow w.heap.size 61 2 (.slice (some ⟨gg, 0, none⟩) (xs.length + 1) cap) (xs.length + 1) (flat2 xs ++ [.int .i64 m, v])) (hg2 : wr.grownBy w2 sv.ownBlock)
    (hat : sv.ownBlock = some gg ∨ wr.heap.size ≤ gg) :
    MLf w (w2.setCell ⟨w.heap.size + 1, 1, none⟩ (.slice (some ⟨gg, 0, none⟩) (xs.length + 1) cap)) (.slice (some ⟨gg, 0, none⟩) (xs.length + 1) cap) (xs ++ [(m, v)]) := by
  have hsw := h.gr.size
  have hs2 := hg2.size
  have hs3 := h.size
  have hlt := h.own.lt
  have hgg : gg ≠ w.heap.size + 1 ∧ w.heap.size ≤ gg := by
    rcases hat with e | e
    · exact ⟨fun e2 => h.ne (by rw [e, e2]), (hlt gg e).1⟩
    · exact ⟨by omega, by omega⟩
  have hg3 : w.grownBy w2 none := ⟨hg2.os.trans h.gr.os, hg2.tape.trans h.gr.tape, hg2.output.trans h.gr.output, Nat.le_trans h.gr.size hg2.size, fun k hk hne =>
    (hg2.block k (Nat.lt_of_lt_of_le hk h.gr.size) (fun e => by have := (hlt k e.symm).1; omega)).trans (h.gr.block k hk hne)⟩
  refine ⟨gr_set_new hg3 (by omega) _, by have := (gr_set w2 (w.heap.size + 1) 1 (.slice (some ⟨gg, 0, none⟩) (xs.length + 1) cap)).size; omega, ?_, ?_, ?_⟩
  · exact (h.out.grown hg2 (fun e => h.ne e.symm)).set1 _
  · rw [flat2_snoc, List.length_append]
    exact own_keep hown (fun k hk => Below.heap_setCell _ _ _ _ (by simp [Value.ownBlock] at hk; subst hk; exact hgg.1))
  · simpa [Value.ownBlock] using hgg.1
theorem MAll.step (hall : MAll d w wr sv ts xs) {m : Int} {v : Value} {t : T d} {w2 : World} {gg cap lo : Nat} (hlo : w.heap.size + 2 ≤ lo)
    (hnd : SNd wr (fun b => lo ≤ b ∧ sv.ownBlock ≠ some b) d t (m, v)) (hg2 : wr.grownBy w2 sv.ownBlock) (hat : sv.ownBlock = some gg ∨ wr.heap.size ≤ gg) :
    MAll d w (w2.setCell ⟨w.heap.size + 1, 1, none⟩ (.slice (some ⟨gg, 0, none⟩) (xs.length + 1) cap)) (.slice (some ⟨gg, 0, none⟩) (xs.length + 1) cap) (ts ++ [t]) (xs ++ [(m, v)]) := by
  have hset : ∀ b, w.heap.size + 2 ≤ b → (w2.setCell ⟨w.heap.size + 1, 1, none⟩ (.slice (some ⟨gg, 0, none⟩) (xs.length + 1) cap)).heap[b]? = w2.heap[b]? := fun b hb => Below.heap_setCell _ _ _ _ (by show b ≠ w.heap.size + 1; omega)
  have hne : ∀ b, sv.ownBlock ≠ some b → b < wr.heap.size → (Value.slice (some ⟨gg, 0, none⟩) (xs.length + 1) cap).ownBlock ≠ some b := by
    intro b hb hb2 e
    simp only [Value.ownBlock, Option.some.injEq] at e
    rcases hat with e2 | e2
    · exact hb (e2.trans (by rw [e]))
    · omega
  refine All2.snoc ?_ ts xs ?_
  · refine SNd.keep ?_ ?_ d t (m, v) hnd
    · rintro b ⟨hb1, hb2⟩ hb
      rw [hset b (by omega), hg2.block b hb (fun e => hb2 e.symm)]
    · rintro b ⟨hb1, hb2⟩ hb
      exact ⟨by omega, hne b hb2 hb⟩
  · refine All2.mono (SNd.keep ?_ ?_ d) ts xs hall
    · rintro b ⟨hb1, hb2⟩ hb
      rw [hset b hb1, hg2.block b hb (fun e => hb2 e.symm)]
    · rintro b ⟨hb1, hb2⟩ hb
      exact ⟨hb1, hne b hb2 hb⟩
end

theorem rds_snoc {d j : Nat} {ss : List ByteArray} {ts : List (T d)} {s : ByteArray} {t : T d} (h : Rds d (ss.take j) ts) (hj : ss[j]? = some s) (ht : readN s d = some t) : Rds d (ss.take (j + 1)) (ts ++ [t]) := by
  rw [List.take_add_one, hj]
  exact All2.snoc (R := fun s t => readN s d = some t) ht _ _ h

theorem infoM : (Tryd.prog.info? 61).map (fun i => (i.zero, i.size, i.bytes)) = some (some (.agg #[.int .i64 0, .slice none 0 0]), 2, 32) := by kernel_rfl
end

/- FUP -/
section
open Go.RowKit

/-- How FoldUp ends. -/
def FUPost (o : Option (List UInt8)) (w : World) (e : Ending) (w' : World) : Prop := (∃ u : ByteArray, e = .returned (.tuple #[.string u, .bool o.isSome]) ∧ u.data.toList = o.getD []) ∧ w.grownBy w' none

theorem cnt_tot : ∀ (LL : List (List Int)), cnt LL = totL LL
  | [] => rfl
  | L :: LL => by simp only [cnt, totL, cnt_tot LL]

theorem foldText_yes {LL : List (List Int)} {D : List Int} {t : T LL.length} (hv : wrong LL D = -1) (ht : (foldN LL.length LL D)[0]? = some t) : foldText LL D = if (text LL.length t).length ≤ 400 then some (text LL.length t) else none := by
  rw [foldText, if_pos hv, ht]
theorem foldText_no {LL : List (List Int)} {D : List Int} (hv : wrong LL D ≠ -1) : foldText LL D = none := if_neg hv
end

/- SFil -/
section
open Go.RowKit Go.Shelf

theorem cap_prod {zs : List Int} {j : Nat} {z : Int} (h : zs[j]? = some z) (hz : 0 ≤ z) : min (min (prodI (zs.take j)) 401 * z) 401 = min (prodI (zs.take (j + 1))) 401 := by
  rw [List.take_add_one, h, Option.toList_some, prod_snoc]
  exact cap_step _ _ hz

set_option maxHeartbeats 400000 in
theorem sprod_any (A : Option Addr) (c : Nat) (zs : List Int) (w : World) (h : Ints w A zs) (hok : okN 400 zs = true) (hl : zs.length ≤ 3) :
    Calls Tryd.prog 32 #[.slice A zs.length c] w fun e w' => e = .returned (.int .i64 (min (prodI zs) 401)) ∧ w = w' := by
  have HS := Lib.hid h
  have HOK := Lib.hid hok
  obtain ⟨n, hnn⟩ : ∃ n, zs.length = n := ⟨_, rfl⟩
  have HN := Lib.hid hnn
  rw [hnn] at hl ⊢
  clear h hnn hok
  go_enter Tryd.func32, Tryd.ntmps32
  go_wp2_with fail
  go_loop [3, 5, 8] (fun u _ i => ∃ (j : Nat) (x : Int), j ≤ n ∧ i = .int .i64 j ∧ u = .int .i64 x ∧ 0 ≤ x ∧ x ≤ 401 ∧ Hid (x = min (prodI (zs.take j)) 401)) (fun _ _ i => n - (intOf i).toNat)
  case atStart => exact ⟨0, 1, Nat.zero_le _, rfl, rfl, by omega, by omega, Lib.hid rfl⟩
  case round =>
    obtain ⟨j, x, hj, rfl, rfl, hx0, hx1, hx⟩ := hrel
    by_cases hlt : j < n
    · obtain ⟨z, hz⟩ : ∃ z, zs[j]? = some z := ⟨_, List.getElem?_eq_getElem (by have := HN.out; omega)⟩
      obtain ⟨b, off, rfl, _, hc⟩ := HS.out (by have := HN.out; omega)
      have hcell := hc j z hz
      have hzz := okN_at hz HOK.out
      have hst := cap_prod hz hzz.1
      rw [← hx.out] at hst
      have hb1 : 0 ≤ x * z := Int.mul_nonneg hx0 hzz.1
      have hb2 : x * z ≤ 401 * 400 := Int.mul_le_mul hx1 hzz.2 hzz.1 (by omega)
      have hw : IntKind.i64.wrap (x * z) = x * z := IntWalk.i64_in _ (by omega)
      have HST := Lib.hid hst
      clear hc hz hst hzz
      go_wp2_with fail
      all_goals
        go_round
        case rel => exact ⟨j + 1, _, by omega, by go_num, rfl, by omega, by omega, Lib.hid (by have h9 := HST.out; omega)⟩
        case measure => simp [intOf]; omega
    · have hjn : j = n := by omega
      have HJ := Lib.hid hjn
      clear hjn
      go_wp2_with fail
      go_ret
      refine ⟨?_, rfl⟩
      rw [hx.out, HJ.out, ← HN.out, List.take_length]
      rfl

/-- What holds of the memory while l11Fill gathers nodes. -/
structure GLf (w wr : World) (sv : Value) (xs : List (Int × Value)) : Prop where
  gr : w.grownBy wr none
  size : w.heap.size + 3 ≤ wr.heap.size
  res : Two wr w.heap.size (.int .i64 0) (.slice none 0 0)
  out : Two wr (w.heap.size + 1 + 1) (.int .i64 0) sv
  own : wr.ownsRow w.heap.size 61 2 sv xs.length (flat2 xs)
  ne0 : sv.ownBlock ≠ some w.heap.size
  ne2 : sv.ownBlock ≠ some (w.heap.size + 1 + 1)
def GAll (d : Nat) (w wr : World) (sv : Value) (ts : List (T d)) (xs : List (Int × Value)) : Prop := All2 (SNd wr (fun b => w.heap.size + 3 ≤ b ∧ sv.ownBlock ≠ some b) d) ts xs
section
variable {d : Nat} {w wr : World} {sv : Value} {ts : List (T d)} {xs : List (Int × Value)}
theorem GLf.kept (h : GLf w wr sv xs) {we : World} (hg : wr.grownBy we none) : GLf w we sv xs :=
  ⟨h.gr.trans hg, Nat.le_trans h.size hg.size, h.res.grown hg (by simp), h.out.grown hg (by simp), own_keep h.own (fun k hk => hg.block k (h.own.lt k hk).2 (by simp)), h.ne0, h.ne2⟩
theorem GAll.kept (h : GAll d w wr sv ts xs) {we : World} (hg : wr.grownBy we none) : GAll d w we sv ts xs :=
  All2.mono (SNd.keep (fun b _ hb => hg.block b hb (by simp)) (fun b hb _ => hb) d) ts xs h
theorem GLf.step (h : GLf w wr sv xs) {m : Int} {v : Value} {w2 : World} {gg cap : Nat}
    (hown : w2.ownsRow w.heap.size 61 2 (.slice (some ⟨gg, 0, none⟩) (xs.length + 1) cap) (xs.length + 1) (flat2 xs ++ [.int .i64 m, v])) (hg2 : wr.grownBy w2 sv.ownBlock)
    (hat : sv.ownBlock = some gg ∨ wr.heap.size ≤ gg) :
    GLf w (w2.setCell ⟨w.heap.size + 1 + 1, 1, none⟩ (.slice (some ⟨gg, 0, none⟩) (xs.length + 1) cap)) (.slice (some ⟨gg, 0, none⟩) (xs.length + 1) cap) (xs ++ [(m, v)]) := by
  have hsw := h.gr.size
  have hs2 := hg2.size
  have hs3 := h.size
  have hlt := h.own.lt
  have hgg : gg ≠ w.heap.size ∧ gg ≠ w.heap.size + 1 + 1 ∧ w.heap.size ≤ gg := by
    rcases hat with e | e
    · exact ⟨fun e2 => h.ne0 (by rw [e, e2]), fun e2 => h.ne2 (by rw [e, e2]), (hlt gg e).1⟩
    · exact ⟨by omega, by omega, by omega⟩
  have hg3 : w.grownBy w2 none := ⟨hg2.os.trans h.gr.os, hg2.tape.trans h.gr.tape, hg2.output.trans h.gr.output, Nat.le_trans h.gr.size hg2.size, fun k hk hne =>
    (hg2.block k (Nat.lt_of_lt_of_le hk h.gr.size) (fun e => by have := (hlt k e.symm).1; omega)).trans (h.gr.block k hk hne)⟩
  refine ⟨gr_set_new hg3 (by omega) _, by have := (gr_set w2 (w.heap.size + 1 + 1) 1 (.slice (some ⟨gg, 0, none⟩) (xs.length + 1) cap)).size; omega, ?_, ?_, ?_, ?_, ?_⟩
  · exact (h.res.grown hg2 (fun e => h.ne0 e.symm)).far (by omega) _
  · exact (h.out.grown hg2 (fun e => h.ne2 e.symm)).set1 _
  · rw [flat2_snoc, List.length_append]
    exact own_keep hown (fun k hk => Below.heap_setCell _ _ _ _ (by simp [Value.ownBlock] at hk; subst hk; exact hgg.2.1))
  · simpa [Value.ownBlock] using hgg.1
  · simpa [Value.ownBlock] using hgg.2.1
theorem GAll.step (hall : GAll d w wr sv ts xs) {m : Int} {v : Value} {t : T d} {w2 : World} {gg cap lo : Nat} (hlo : w.heap.size + 3 ≤ lo)
    (hnd : SNd wr (fun b => lo ≤ b ∧ sv.ownBlock ≠ some b) d t (m, v)) (hg2 : wr.grownBy w2 sv.ownBlock) (hat : sv.ownBlock = some gg ∨ wr.heap.size ≤ gg) :
    GAll d w (w2.setCell ⟨w.heap.size + 1 + 1, 1, none⟩ (.slice (some ⟨gg, 0, none⟩) (xs.length + 1) cap)) (.slice (some ⟨gg, 0, none⟩) (xs.length + 1) cap) (ts ++ [t]) (xs ++ [(m, v)]) := by
  have hset : ∀ b, w.heap.size + 3 ≤ b → (w2.setCell ⟨w.heap.size + 1 + 1, 1, none⟩ (.slice (some ⟨gg, 0, none⟩) (xs.length + 1) cap)).heap[b]? = w2.heap[b]? := fun b hb => Below.heap_setCell _ _ _ _ (by show b ≠ w.heap.size + 1 + 1; omega)
  have hne : ∀ b, sv.ownBlock ≠ some b → b < wr.heap.size → (Value.slice (some ⟨gg, 0, none⟩) (xs.length + 1) cap).ownBlock ≠ some b := by
    intro b hb hb2 e
    simp only [Value.ownBlock, Option.some.injEq] at e
    rcases hat with e2 | e2
    · exact hb (e2.trans (by rw [e]))
    · omega
  refine All2.snoc ?_ ts xs ?_
  · refine SNd.keep ?_ ?_ d t (m, v) hnd
    · rintro b ⟨hb1, hb2⟩ hb
      rw [hset b (by omega), hg2.block b hb (fun e => hb2 e.symm)]
    · rintro b ⟨hb1, hb2⟩ hb
      exact ⟨by omega, hne b hb2 hb⟩
  · refine All2.mono (SNd.keep ?_ ?_ d) ts xs hall
    · rintro b ⟨hb1, hb2⟩ hb
      rw [hset b hb1, hg2.block b hb (fun e => hb2 e.symm)]
    · rintro b ⟨hb1, hb2⟩ hb
      exact ⟨hb1, hne b hb2 hb⟩
end
theorem glf_start (w : World) : ∃ w3, (((w.alloc (.cells #[.int .i64 0, .slice none 0 0] 61)).alloc (.cells #[] 61)).alloc (.cells #[.int .i64 0, .slice (some ⟨w.heap.size + 1, 0, none⟩) 0 0] 61)) = w3 ∧ GLf w w3 (.slice (some ⟨w.heap.size + 1, 0, none⟩) 0 0) [] := by
  refine ⟨_, rfl, ?_⟩
  have hb := begun w
  exact ⟨hb.gr, by have := hb.size; omega, hb.res, hb.out, hb.own, by simp [Value.ownBlock], by simp [Value.ownBlock]⟩

/-- How l11Fill ends. -/
def SFilP (sh : List Int) (B : Option Addr) (ns : List Int) (w : World) (e : Ending) (w' : World) : Prop :=
  w.grownBy w' none ∧ ∃ m A k c B' d', e = .returned (.tuple #[.agg #[.int .i64 m, .slice A k c], .slice B' (ns.length - (prodI sh).toNat) d']) ∧ Sl B' (ns.length - (prodI sh).toNat) d' ∧
    SNd w' (fun b => w.heap.size ≤ b) sh.length (fillT sh ns) (m, .slice A k c) ∧ (∀ u, Ints u B ns → Ints u B' (ns.drop (prodI sh).toNat))
def SFilAny (sh : List Int) : Prop := ∀ (A B : Option Addr) (c d : Nat) (ns : List Int) (w : World), Ints w A sh → Ints w B ns → Sl A sh.length c → Sl B ns.length d → okN 10006 ns = true → (prodI sh).toNat ≤ ns.length → ns.length ≤ 400 →
  Calls Tryd.prog 33 #[.slice A sh.length c, .slice B ns.length d] w (SFilP sh B ns w)

set_option maxRecDepth 100000 in
set_option maxHeartbeats 1000000 in
theorem sfill_zero : SFilAny [] := fun A B c d ns w hA hB hsA hsB hok hp hn => by
  have hl : 1 ≤ ns.length := hp
  obtain ⟨b, off, rfl, _, hc⟩ := hB (by omega)
  obtain ⟨z, hz⟩ : ∃ z, ns[0]? = some z := ⟨_, List.getElem?_eq_getElem (by omega)⟩
  have hcell := hc 0 z hz
  rw [Nat.add_zero] at hcell
  have hb := okN_at hz hok
  obtain ⟨A', htl, hsA', hiA'⟩ := tail_run b off ns.length d hl hsB.1
  have HI := Lib.hid (fun u h => hiA' u ns rfl h)
  have HS := Lib.hid hsA'
  have HT : Hid ((ns.headD 0).toNat = z.toNat) := Lib.hid (by
    cases ns with
    | nil => simp at hl
    | cons y l => simp at hz; simp [hz])
  obtain ⟨n, hnn⟩ : ∃ n, ns.length = n := ⟨_, rfl⟩
  have HN := Lib.hid hnn
  rw [hnn] at hl htl ⊢
  have hl2 : (0 : Int) < (n : Int) := by omega
  obtain ⟨w3, hw3, h3⟩ := glf_start w
  have HW3 := Lib.hid h3
  have hcell3 := h3.gr.cell hcell (by simp)
  have o0 := h3.out.c0
  have o1 := h3.out.c1
  have o2 := h3.out.f
  have r0 := h3.res.c0
  have r1 := h3.res.c1
  have r2 := h3.res.f
  clear hc hz hA hB hsA hsB hok hp hn hnn hsA' hiA' h3 hcell
  go_enter Tryd.func33, Tryd.ntmps33
  go_wp2_with fail
  have hO4 := HW3.out.out.set0 (.int .i64 z)
  have hR4 := HW3.out.res.far (k := w.heap.size + 1 + 1) (i := 0) (by omega) (.int .i64 z)
  have HG4 : Hid (w.grownBy (w3.setCell ⟨w.heap.size + 1 + 1, 0, none⟩ (.int .i64 z)) none) := Lib.hid (gr_set_new HW3.out.gr (by omega) _)
  generalize w3.setCell ⟨w.heap.size + 1 + 1, 0, none⟩ (.int .i64 z) = w4 at hO4 hR4 HG4 ⊢
  have HR4 := Lib.hid hR4
  have o0 := hO4.c0
  have o1 := hO4.c1
  have r0 := hR4.c0
  have r1 := hR4.c1
  have r2 := hR4.f
  clear hO4 hR4 hcell3 o2
  go_region_law skip
  all_goals
    go_wp2_with fail
    have T1 : Two ((w4.setCell ⟨w.heap.size, 0, none⟩ (.int .i64 z)).setCell ⟨w.heap.size, 1, none⟩ (.slice (some ⟨w.heap.size + 1, 0, none⟩) 0 0)).drew w.heap.size (.int .i64 z) (.slice (some ⟨w.heap.size + 1, 0, none⟩) 0 0) := ((HR4.out.set0 (.int .i64 z)).set1 (.slice (some ⟨w.heap.size + 1, 0, none⟩) 0 0)).drewN 1
    have HG5 : Hid (w.grownBy ((w4.setCell ⟨w.heap.size, 0, none⟩ (.int .i64 z)).setCell ⟨w.heap.size, 1, none⟩ (.slice (some ⟨w.heap.size + 1, 0, none⟩) 0 0)).drew none) := Lib.hid ((gr_set_new (gr_set_new HG4.out (Nat.le_refl _) _) (Nat.le_refl _) _).trans (gr_drewN _ 1 none))
    generalize ((w4.setCell ⟨w.heap.size, 0, none⟩ (.int .i64 z)).setCell ⟨w.heap.size, 1, none⟩ (.slice (some ⟨w.heap.size + 1, 0, none⟩) 0 0)).drew = w5 at T1 HG5 ⊢
    have q0 := T1.c0
    have q1 := T1.c1
    refine bodyPost_ret (v := .tuple #[.agg #[.int .i64 z, .slice (some ⟨w.heap.size + 1, 0, none⟩) 0 0], .slice A' (n - 1) (d - 1)]) (by simp [results, Tryd.results33, go_sem, q0, q1]) rfl ?_
    refine ⟨HG5.out, z, some ⟨w.heap.size + 1, 0, none⟩, 0, 0, A', d - 1, ?_, by have := HS.out; exact this, ⟨?_, ?_, _, _, _, rfl⟩, HI.out⟩
    · rw [HN.out]
      rfl
    · show z = (((ns.headD 0).toNat : Nat) : Int)
      rw [HT.out]
      omega
    · show (ns.headD 0).toNat < 10007
      rw [HT.out]
      omega

/-- The parts that l11Fill makes. -/
def filS (k : Nat) (sh ns : List Int) : List (T sh.length) := (List.range k).map fun i => fillT sh (ns.drop (i * (prodI sh).toNat))
theorem filS_len (k : Nat) (sh ns : List Int) : (filS k sh ns).length = k := by simp [filS]

set_option maxRecDepth 100000 in
set_option maxHeartbeats 4000000 in
theorem sfill_succ {z : Int} {sh : List Int} (hok : okN 400 (z :: sh) = true) (hl3 : sh.length + 1 ≤ 3) (ih : SFilAny sh) : SFilAny (z :: sh) := fun A B c d ns w hA hB hsA hsB hok2 hp hn => by
  obtain ⟨i0, hi0, hz0, hz1, hz2⟩ := info_parts infoN
  have hok' := hok
  simp only [okN, Bool.and_eq_true, decide_eq_true_eq] at hok'
  obtain ⟨⟨hz00, hz400⟩, hokS⟩ := hok'
  obtain ⟨k, hk⟩ : ∃ k : Nat, z = k := ⟨z.toNat, by omega⟩
  subst hk
  have hpr := prod_nn hokS
  have hpk : (prodI ((k : Int) :: sh)).toNat = k * (prodI sh).toNat := by rw [prodI, Int.toNat_mul (by omega) hpr, Int.toNat_natCast]
  rw [hpk] at hp
  obtain ⟨b, off, rfl, _, hc⟩ := hA (by simp)
  have hcell := hc 0 _ rfl
  rw [Nat.add_zero] at hcell
  obtain ⟨A', htl, hsA', hiA'⟩ := tail_run b off (sh.length + 1) c (by omega) hsA.1
  have HIB := Lib.hid hB
  have HIH := Lib.hid (fun (B : Option Addr) (d : Nat) (ns : List Int) u (hg : w.grownBy u none) (hB : Ints u B ns) hs ho hp hn => ih A' B (c - 1) d ns u (hiA' u ((k : Int) :: sh) rfl (hA.grown hg (by simp))) hB (by simpa using hsA') hs ho hp hn)
  obtain ⟨n, hnn⟩ : ∃ n, ns.length = n := ⟨_, rfl⟩
  have HN := Lib.hid hnn
  obtain ⟨p, hpp⟩ : ∃ p : Nat, (prodI sh).toNat = p := ⟨_, rfl⟩
  have HP := Lib.hid hpp
  have HPK := Lib.hid hpk
  have HOK2 := Lib.hid hok2
  rw [hnn] at hsB hn hp ⊢
  rw [hpp] at hp HIH
  obtain ⟨m, hm⟩ : ∃ m, sh.length = m := ⟨_, rfl⟩
  have HM := Lib.hid hm
  have hl1 : ((k : Int) :: sh).length = m + 1 := by simp [hm]
  rw [hm] at htl HIH hl3
  rw [hl1]
  have he1 : ((m : Int) + 1 == 0) = false := by rw [beq_eq_false_iff_ne]; omega
  have hd1 : m + 1 - 1 = m := by omega
  rw [hd1] at htl
  obtain ⟨w3, hw3, h3⟩ := glf_start w
  have HW3 := Lib.hid h3
  have hcell3 := h3.gr.cell hcell (by simp)
  have HCK := Lib.hid (fun wr (hg : w.grownBy wr none) => hg.cell hcell (by simp))
  clear hA hB hc hsA hok hokS hz00 hpr hpk hiA' hpp hnn hok2 hl1 ih hd1 hcell hsA' h3
  go_enter Tryd.func33, Tryd.ntmps33
  go_wp2_with fail
  go_loopw [1, 7, 8, 24] (fun nv _ _ i wr => ∃ (j : Nat) (Bj : Option Addr) (dj q : Nat) (sv : Value) (xs : List (Int × Value)), j ≤ k ∧ i = .int .i64 j ∧ nv = .slice Bj q dj ∧ Hid (xs.length = j) ∧ Hid (GLf w wr sv xs) ∧ Hid (GAll sh.length w wr sv ((filS k sh ns).take j) xs) ∧ Hid (q = n - j * p) ∧ Hid (Sl Bj q dj) ∧ Hid (∀ u, Ints u B ns → Ints u Bj (ns.drop (j * p)))) (fun _ _ _ i _ => k - (intOf i).toNat)
  case atStart => exact ⟨0, B, d, n, _, [], Nat.zero_le _, rfl, rfl, Lib.hid rfl, HW3, Lib.hid trivial, Lib.hid (by simp), Lib.hid hsB, Lib.hid (fun u hg => by simpa using hg)⟩
  case round =>
    obtain ⟨j, Bj, dj, q, sv, xs, hj, rfl, rfl, hxl, hgl, hall, hq, hsl, hib⟩ := hrel
    obtain ⟨A1, k1, c1, rfl⟩ := own_form hgl.out.own
    have hck := HCK.out wr hgl.out.gr
    by_cases hlt : j < k
    · have hjp : (j + 1) * p ≤ k * p := Nat.mul_le_mul_right _ hlt
      have hjp2 : (j + 1) * p = j * p + p := by rw [Nat.add_mul, Nat.one_mul]
      have hpq : p ≤ q := by have := hq.out; omega
      have hdl : (ns.drop (j * p)).length = q := by rw [List.length_drop, HN.out]; exact hq.out.symm
      have HC := Lib.hid (HIH.out Bj dj (ns.drop (j * p)) wr hgl.out.gr (hib.out wr (HIB.out.grown hgl.out.gr (by simp))) (by rw [hdl]; exact hsl.out) (okN_drop HOK2.out _) (by rw [hdl]; exact hpq) (by rw [hdl]; have := hq.out; omega))
      unfold SFilP at HC
      rw [hdl, HP.out, List.drop_drop] at HC
      have hat : (filS k sh ns)[j]? = some (fillT sh (ns.drop (j * p))) := by
        unfold filS
        rw [List.getElem?_map, List.getElem?_range hlt, HP.out]
        rfl
      have HAT := Lib.hid hat
      have HDL := Lib.hid hdl
      have hjx : j = xs.length := hxl.out.symm
      have HJX := Lib.hid hjx
      have hj4 : j ≤ 400 := by omega
      clear hjp hdl hat hjx
      go_wp2_with fail
      refine HC.out.mono ?_
      rintro e w5 ⟨hg5, m5, A5, k5, c5, B5, d5, rfl, hs5, hnd5, hi5⟩
      have hgA := hg5.trans (World.grownBy_alloc w5 (.cells #[.int .i64 m5, .slice A5 k5 c5] 61) none)
      have hgB := hgA.trans (World.grownBy_alloc _ (.cells #[.int .i64 m5, .slice A5 k5 c5] 61) none)
      have hmA := hgl.out.kept hgA
      have hmB := hgl.out.kept hgB
      have HMB := Lib.hid hmB
      have o1 := hmA.out.c1
      have own5 := hmB.own
      have hzB := hmB.size
      simp at hzB
      have HALL := Lib.hid (hall.out.kept hgB)
      have hlo := hgl.out.size
      have hlt5 := hgl.out.own.lt
      have HND := Lib.hid (show SNd ((w5.alloc (.cells #[.int .i64 m5, .slice A5 k5 c5] 61)).alloc (.cells #[.int .i64 m5, .slice A5 k5 c5] 61)) (fun b => wr.heap.size ≤ b ∧ (Value.slice A1 k1 c1).ownBlock ≠ some b) sh.length (fillT sh (ns.drop (j * p))) (m5, .slice A5 k5 c5) from
        SNd.keep (fun b _ hb => ((World.grownBy_alloc w5 _ none).trans (World.grownBy_alloc _ _ none)).block b hb (by simp)) (fun b hb _ => ⟨hb, fun e => by have := (hlt5 b e).2; omega⟩) sh.length _ _ hnd5)
      have hgr5 := hg5.size
      have HS5 := Lib.hid hs5
      have HI5 := Lib.hid hi5
      clear hg5 hnd5 hgA hgB hmA hmB hlt5 hs5 hi5
      go_wp2_with (at_builtin; refine wpList_append_lies _ rfl _ _ 59 rfl w.heap.size 61 i0 _ 2 32 Tryd.underlying59 hi0 hz0 hz1 hz2 rfl (by omega) _ xs.length (flat2 xs) rfl own5 ⟨w5.heap.size + 1, 0, none⟩ 1 1 [.int .i64 m5, .slice A5 k5 c5] rfl rfl ?c1 ?c2 (by omega) ?c3 ?c4 ?c5 (w5.heap.size + 1 + 1) ?c6 ?_)
      case c1 => exact World.news_of_block (cs := #[.int .i64 m5, .slice A5 k5 c5]) (t := 61) (fr := (0, 0)) (by have := heap_alloc_new (w5.alloc (.cells #[.int .i64 m5, .slice A5 k5 c5] 61)) (.cells #[.int .i64 m5, .slice A5 k5 c5] 61); simpa using this)
      case c2 => simp [Value.oneCell']
      case c3 => simp only [maxLen]; have := HJX.out; omega
      case c4 => have := HJX.out; omega
      case c5 => simp; omega
      case c6 => simp
      intro gg cap w8 hown8 hg8 hat8 hlt8
      have hat9 : (Value.slice A1 k1 c1).ownBlock = some gg ∨ ((w5.alloc (.cells #[.int .i64 m5, .slice A5 k5 c5] 61)).alloc (.cells #[.int .i64 m5, .slice A5 k5 c5] 61)).heap.size ≤ gg := by
        rcases hat8 with e | e
        · exact .inl e
        · exact .inr (by simp; omega)
      have HM8 := Lib.hid (HMB.out.step hown8 hg8 hat9)
      have HA8 := Lib.hid (GAll.step (cap := cap) HALL.out hlo HND.out hg8 hat9)
      have ht8 := HMB.out.out.grown hg8 (fun e => HMB.out.ne2 e.symm)
      have o8 := ht8.c1
      have f8 := ht8.f 1
      clear hown8 hg8 hat8 hlt8 hat9 ht8 own5 hzB o1
      go_wp2_with fail
      go_roundw
      case rel =>
        have e5 : (j + 1) * p = j * p + p := by rw [Nat.add_mul, Nat.one_mul]
        refine ⟨j + 1, B5, d5, q - p, _, xs ++ [(m5, .slice A5 k5 c5)], by omega, by go_num, rfl, Lib.hid ?_, HM8, Lib.hid ?_, Lib.hid (by have := hq.out; omega), HS5, Lib.hid (fun u hu => ?_)⟩
        · rw [List.length_append, hxl.out]; rfl
        · rw [List.take_add_one, HAT.out]
          exact HA8.out
        · have h7 := HI5.out u (hib.out u hu)
          rwa [e5]
      case measure => simp [intOf]; omega
    · have hjk : j = k := by omega
      subst hjk
      have ht : (filS j sh ns).take j = filS j sh ns := List.take_of_length_le (by rw [filS_len]; exact Nat.le_refl _)
      have hal2 := hall.out
      rw [ht] at hal2
      have HALL := Lib.hid hal2
      have o0 := hgl.out.out.c0
      have o1 := hgl.out.out.c1
      have r0 := hgl.out.res.c0
      have r1 := hgl.out.res.c1
      have r2 := hgl.out.res.f
      clear ht hal2
      go_wp2_with fail
      have T1 := (hgl.out.res.set0 (.int .i64 0)).set1 (.slice A1 k1 c1)
      have q0 := T1.c0
      have q1 := T1.c1
      refine bodyPost_ret (v := .tuple #[.agg #[.int .i64 0, .slice A1 k1 c1], .slice Bj q dj]) (by simp [results, Tryd.results33, go_sem, q0, q1]) rfl ?_
      have hl := hgl.out.own.lt
      have hne : ∀ k, (Value.slice A1 k1 c1).ownBlock = some k → k ≠ w.heap.size := fun k hk e => hgl.out.ne0 (by rw [hk, e])
      have hheap : ∀ b, b ≠ w.heap.size → ((wr.setCell ⟨w.heap.size, 0, none⟩ (.int .i64 0)).setCell ⟨w.heap.size, 1, none⟩ (.slice A1 k1 c1)).heap[b]? = wr.heap[b]? := fun b hb =>
        (Below.heap_setCell _ _ _ _ (by show b ≠ w.heap.size; exact hb)).trans (Below.heap_setCell _ _ _ _ (by show b ≠ w.heap.size; exact hb))
      refine ⟨gr_set_new (gr_set_new hgl.out.gr (Nat.le_refl _) _) (Nat.le_refl _) _, 0, A1, k1, c1, Bj, dj, ?_, ?_, ?_, ?_⟩
      · rw [HPK.out, HP.out, HN.out, ← hq.out]
      · rw [HPK.out, HP.out, HN.out, ← hq.out]
        exact hsl.out
      · refine ⟨xs, own_base (own_keep hgl.out.own (fun k hk => hheap k (hne k hk))) (Nat.zero_le _), fun k hk => (hl k hk).1, ?_⟩
        exact All2.mono (SNd.keep (fun b hb hb2 => hheap b (by omega)) (fun b hb _ => by omega) sh.length) (filS j sh ns) xs HALL.out
      · intro u hu
        rw [HPK.out, HP.out]
        exact hib.out u hu

theorem sfill_any : ∀ (sh : List Int), okN 400 sh = true → sh.length ≤ 3 → SFilAny sh
  | [], _, _ => sfill_zero
  | z :: sh, h, hl => by
    have h' := h
    simp only [okN, Bool.and_eq_true, decide_eq_true_eq] at h'
    exact sfill_succ h (by simpa using hl) (sfill_any sh h'.2 (by simp at hl; omega))
end

/- SNum3 -/
section
open Go.RowKit

set_option maxHeartbeats 400000 in
theorem snum3_any (A : Option Addr) (c : Nat) (zs : List Int) (w : World) (h : Ints w A zs) (hn : zs.length ≤ 1048576) :
    Calls Tryd.prog 67 #[.slice A zs.length c] w fun e w' => e = .returned (.bool (okN 10006 zs)) ∧ w = w' := by
  have HS := Lib.hid h
  obtain ⟨n, hnn⟩ : ∃ n, zs.length = n := ⟨_, rfl⟩
  have HN := Lib.hid hnn
  rw [hnn] at hn ⊢
  obtain ⟨r, hr⟩ : ∃ r, okN 10006 zs = r := ⟨_, rfl⟩
  rw [hr]
  have HR := Lib.hid hr
  clear h hnn hr
  go_enter Tryd.func67, Tryd.ntmps67
  go_wp2_with fail
  go_loop [7] (fun i => ∃ (j : Nat), j ≤ n ∧ i = .int .i64 j ∧ Hid (okN 10006 (zs.take j) = true)) (fun i => n - (intOf i).toNat)
  case atStart => exact ⟨0, Nat.zero_le _, rfl, Lib.hid rfl⟩
  case round =>
    obtain ⟨j, hj, rfl, hok⟩ := hrel
    by_cases hlt : j < n
    · obtain ⟨z, hz⟩ : ∃ z, zs[j]? = some z := ⟨_, List.getElem?_eq_getElem (by have := HN.out; omega)⟩
      obtain ⟨b, off, rfl, _, hc⟩ := HS.out (by have := HN.out; omega)
      have hcell := hc j z hz
      have HZ := Lib.hid hz
      clear hc hz
      obtain ⟨q, hq⟩ : ∃ q, decide (0 ≤ z ∧ z ≤ 10006) = q := ⟨_, rfl⟩
      have HI := Lib.hid (in_any z 0 10006 q hq w)
      have HQ := Lib.hid hq
      clear hq
      cases q
      · go_wp2_with fail
        refine HI.out.mono ?_
        rintro e w1 ⟨rfl, rfl⟩
        go_wp2_with fail
        go_ret
        refine ⟨?_, rfl⟩
        rw [← HR.out, okN_bad (hi := 10006) HZ.out (by have := decide_eq_false_iff_not.1 HQ.out; omega)]
        rfl
      · have hz2 := decide_eq_true_iff.1 HQ.out
        obtain ⟨hz0, hz1⟩ := hz2
        go_wp2_with fail
        refine HI.out.mono ?_
        rintro e w1 ⟨rfl, rfl⟩
        go_wp2_with fail
        go_round
        case rel => exact ⟨j + 1, by omega, by go_num, Lib.hid (okN_step HZ.out hok.out hz0 hz1)⟩
        case measure => simp [intOf]; omega
    · have hjn : j = n := by omega
      have HJ := Lib.hid hjn
      clear hjn
      go_wp2_with fail
      go_ret
      refine ⟨?_, rfl⟩
      have e : zs.take j = zs := by rw [HJ.out, ← HN.out, List.take_length]
      have h3 := hok.out
      rw [e] at h3
      rw [← HR.out, h3]
      rfl

set_option maxHeartbeats 400000 in
theorem sdat_any (A : Option Addr) (c : Nat) (zs : List Int) (w : World) (h : Ints w A zs) (hn : zs.length ≤ 1048576) :
    Calls Tryd.prog 30 #[.slice A zs.length c] w fun e w' => e = .returned (.bool (decide (zs.length ≤ 400) && okN 10006 zs)) ∧ w = w' := by
  have HU := Lib.hid (snum3_any A c zs w h hn)
  obtain ⟨q, hq⟩ : ∃ q, okN 10006 zs = q := ⟨_, rfl⟩
  rw [hq] at HU ⊢
  obtain ⟨n, hnn⟩ : ∃ n, zs.length = n := ⟨_, rfl⟩
  rw [hnn] at hn HU ⊢
  clear h hnn hq
  cases q with
  | false =>
    go_enter Tryd.func30, Tryd.ntmps30
    go_wp2_with fail
    refine HU.out.mono ?_
    rintro e w1 ⟨rfl, rfl⟩
    go_wp2_with fail
    go_ret
    exact ⟨by simp, rfl⟩
  | true =>
    go_enter Tryd.func30, Tryd.ntmps30
    go_wp2_with fail
    refine HU.out.mono ?_
    rintro e w1 ⟨rfl, rfl⟩
    go_wp2_with fail
    go_ret
    refine ⟨?_, rfl⟩
    have hd : decide ((n : Int) ≤ 400) = decide (n ≤ 400) := decide_eq_decide.2 (by omega)
    rw [Bool.and_true, ← hd]
    rfl
end

end Go.Proofs.YtachjodnhgmoiaaDoor
